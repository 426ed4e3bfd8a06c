/-
  Texts laid together: Nv4, TShelf, Build, Num, Map, Head.
-/
import Derived.Test.YtmaefimaeelkbaaGreatDoorP23
import Derived.Test.YtmaefimaeelkbaaGreatDoorP1
import Derived.Test.YtmaefimaeelkbaaGreatDoorP3
import Derived.Shelf.Strings.Builder1
import Derived.Shelf.Strings.BuilderF
import Derived.Shelf.Strings.BuilderK
import Derived.Shelf.Strconv.Atoi
import Derived.Shelf.Strconv.Itoa0
import Derived.Shelf.Strconv.Itoa1
import Derived.Shelf.LaysM
import Derived.Shelf.Strconv.Itoa2
import Derived.Shelf.Strconv.Itoa3
import Derived.Shelf.Strconv.AtoiErrFast
import Derived.Shelf.Strconv.ParseIntEmpty
import Derived.Shelf.Strconv.AtoiFail
import Derived.Shelf.Strconv.Clone
import Derived.Shelf.Strconv.SyntaxError
import Derived.Shelf.LaysC
import Derived.Shelf.Strconv.ToError
import Derived.Shelf.Strconv.Lower
import Derived.Shelf.Strconv.ParseUint10
import Derived.Shelf.Strconv.ParseUint10Empty
import Derived.Shelf.Strconv.ParseUint10Any
import Derived.Shelf.Strconv.ParseInt10
import Derived.Shelf.Strconv.AtoiLong
import Derived.Shelf.Strconv.AtoiInnerAll
import Derived.Shelf.Strconv.RangeError
import Derived.Shelf.Strconv.ToErrorRange
import Derived.Shelf.Strconv.AtoiAll
import Derived.Shelf.Strconv.ErrVarAll
import Derived.Shelf.Strings.Search1
import Derived.Shelf.Strings.Search2
import Derived.Shelf.Strings.Cut
import Derived.Shelf.Strings.Shaped
import Derived.Shelf.Strings.Prefix
import Derived.Test.YtmaefimaeelkbaaGreatDoorProg
import Derived.Lib.ItoaNum
import Derived.Lib.AtoiAllCases
import Derived.Lib.Strings
import GoSem.Op.String
import Derived.Lib.IndexMore
import Derived.Deep.MidRow
import Derived.Lib.AppendIntMem
import Derived.WalkSmall
namespace Go.Proofs.YtmaefimaeelkbaaGreatDoor
section
open Go.RowKit Go.Lib
theorem ff2_cases (W H:Int)(bl:Nat->Bool)(a t:Int):ff2 W H bl a t=0\/ff2 W H bl a t=1\/ff2 W H bl a t=4:=by
 have h:∀ c,ffv W H bl c=0\/ffv W H bl c=1\/ffv W H bl c=4:=fun c=>by
  unfold ffv
  split
  ·split
   ·exact .inr (.inr rfl)
   ·exact .inl rfl
  ·exact .inr (.inl rfl)
 unfold ff2
 split
 ·exact h t
 ·exact h a
set_option maxHeartbeats 400000 in
theorem nnum_any (w:World)(n:Int):Calls Tryz.prog 45 #[.iface 54 (.int .i64 n)] w fun e w'=>e=.returned (.int .i64 n)/\w'=w:=by
 have h:∀ (v:Value) (w:World),(Instr.typeAssert (.iface 54 v) 27 54 true).run Tryz.prog w=.ok (.tuple #[v,.bool true]) w:=fun v w=>by kernel_rfl
 go_enter Tryz.func45,Tryz.ntmps45
 go_wp2
 go_ret
 exact ⟨rfl,rfl⟩
theorem eq5 (w:World):(binOp .eql 27 (.iface 54 (.int .i64 5)) (.iface 54 (.int .i64 5))).run Tryz.prog w=.ok (.bool true) w:=by kernel_rfl
theorem eq1 (w:World):(binOp .eql 27 (.iface 54 (.int .i64 1)) (.iface 54 (.int .i64 5))).run Tryz.prog w=.ok (.bool false) w:=by kernel_rfl
theorem eq4 (w:World):(binOp .eql 27 (.iface 54 (.int .i64 4)) (.iface 54 (.int .i64 5))).run Tryz.prog w=.ok (.bool false) w:=by kernel_rfl
set_option maxHeartbeats 4000000 in
set_option maxRecDepth 1000000 in
theorem ask_any {lo hi sb most:Nat}{W H V:Int}{bl:Nat->Bool}(a t:Int)(w:World)(S:Sv w lo hi sb W H V bl most)(d:DiagAt w) :
  Calls Tryz.prog 16 #[.pointer (some ⟨sb,0,none⟩),.int .i64 a,.int .i64 t] w fun e w'=>∃ v way s d err,e=.returned (.agg #[v,.int .i64 s,.int .i64 d,.int .i64 err])/\w'.ownsRow w.heap.size 3 1 v way.length (vals way)/\AnsR W H bl most a t way s d err/\Below w.heap.size w w':=by
 obtain ⟨rb,pb,mb,lb,tb,gb,N,x,V2,S⟩:=S
 obtain ⟨w1,w2,h1,h2⟩:=S.side
 have b0:Below w.heap.size w (w.alloc (.cells #[.slice none 0 0,.int .i64 0,.int .i64 0,.int .i64 0] 56)):=(Below.refl _ _).alloc (Nat.le_refl _) _
 have an0:=An.new w (.slice none 0 0) 0 0 0
 have S0:=S.below b0
 have q1:=S0.c1
 have hgg:=ggrid_any _ S0.gr
 have hsp:=S.st.pos
 have q5:=eq5
 have q4:=eq4
 have q1':=eq1
 go_enter Tryz.func16,Tryz.ntmps16
 go_wp2_with fail
 generalize w.alloc (.cells #[.slice none 0 0,.int .i64 0,.int .i64 0,.int .i64 0] 56)=wa at *
 refine hgg.mono ?_
 rintro e wb ⟨rfl,hb1,hz1,g1,_⟩
 have S1:=S0.below hb1
 have an1:=an0.below hb1
 have B1:=b0.trans (hb1.mono b0.size)
 have d1:=d.below B1
 generalize hMw:wa.heap.size=M at *
 clear hgg S0 an0 q1 hb1 hMw b0
 rcases ff2_cases W H bl a t with hf|hf
 ·obtain ⟨⟨hia,hfa⟩,⟨hit,hft⟩⟩:=ff2_ok hf
  have ja:0<=a/\a<W*H:=of_decide_eq_true hia
  have jt:0<=t/\t<W*H:=of_decide_eq_true hit
  obtain ⟨aN,rfl⟩:∃ aN:Nat,a=(aN:Int):=⟨a.toNat,by omega⟩
  obtain ⟨tN,rfl⟩:∃ tN:Nat,t=(tN:Int):=⟨t.toNat,by omega⟩
  rw [Int.toNat_natCast] at hfa hft
  by_cases hn:∃ z,On W H bl (aN:Int) (tN:Int) z
  ·have hw:=rway_ok aN (tN:Int) wb g1 S1.st d1 hz1 hf hn
   go_wp2_with fail
   refine hw.mono ?_
   rintro e wd ⟨v,l,rfl,hown,hch,hl,hb2⟩
   obtain ⟨g3,cap3,rfl,_,hg3,_⟩:=rowN_of hown (by simp)
   have B2:=B1.trans (hb2.mono B1.size)
   have an2:=an1.below hb2
   have g2:=g1.below hb2 hz1
   have hgt:=guessTo_any wd g2 hit
   have HA:Hid (AnsR W H bl most (aN:Int) (tN:Int) (aN::l) (octS W aN tN) (octD W aN tN) 0):=Or.inr ⟨hf,Or.inl ⟨hn,rfl,⟨l,rfl,hch⟩,rfl,rfl⟩⟩
   have hlt:w.heap.size<wb.heap.size:=World.block_lt_of_cell? _ _ an1.c0
   have hM2:=Nat.lt_of_lt_of_le hz1 hb2.size
   clear hw an1 S1 hch hn
   go_wp2_with fail
   refine hgt.mono ?_
   rintro e we ⟨gc,xc,yc,rfl,G3,hb3⟩
   have B3:=B2.trans (hb3.mono B2.size)
   have an3:=an2.below hb3
   have own3:=own_below hown hb3
   have hgs:=gs_call (n:=(aN:Int)) we G3.1 G3.2.1 G3.2.2 (g2.below hb3 hM2) hit
   have hgn:gsN W H (tN:Int) (aN:Int)=(octS W aN tN,octD W aN tN):=by unfold gsN;rw [if_pos hia]
   rw [hgn] at hgs
   clear hgt an2 G3 hb3 hown hgn
   go_wp2_with fail
   refine hgs.mono ?_
   rintro e wf ⟨rfl,hb4⟩
   have B4:=B3.trans (hb4.mono B3.size)
   have an4:=an3.below hb4
   have own4:=own_below own3 hb4
   have x0:=an4.c0
   have x1:=an4.c1
   have x2:=an4.c2
   have x3:=an4.c3
   have y0:=an4.z0
   have y1:=an4.z1
   have y2:=an4.z2
   have y3:=an4.z3
   clear hgs an3 own3 hb4
   generalize octS W (aN:Int) (tN:Int)=os at *
   generalize octD W (aN:Int) (tN:Int)=od at *
   go_wp2
   have r:=an4.set (.slice (some ⟨g3,0,none⟩) (l.length+1) cap3) os od 0
   refine bodyPost_ret (v:=.agg #[.slice (some ⟨g3,0,none⟩) (l.length+1) cap3,.int .i64 os,.int .i64 od,.int .i64 0]) (by simp [results,Tryz.results16,go_sem,r.c0,r.c1,r.c2,r.c3]) rfl ?_
   exact ⟨_,aN::l,os,od,0,rfl,own_base (own_keep own4 (an_keep wf w.heap.size _ _ _ _) (fun q hq=>by have:=(own4.lt q hq).1;omega)) (by omega),HA.out,an_below B4 (Nat.le_refl _) _ _ _ _⟩
  ·have hw:=rway_none (aN:Int) (tN:Int) wb g1 S1.st d1 hz1 hf hn
   go_wp2_with fail
   refine hw.mono ?_
   rintro e wd ⟨rfl,hb2⟩
   have B2:=B1.trans (hb2.mono B1.size)
   have an2:=an1.below hb2
   have hov:=overC_any wd (S1.below hb2) (d1.below hb2) (g1.below hb2 hz1) hia hfa hit hft
   have hlt:w.heap.size<wd.heap.size:=World.block_lt_of_cell? _ _ an2.c0
   have HN:Hid (¬ ∃ z,On W H bl (aN:Int) (tN:Int) z):=hn
   clear hw an1 S1 hn hb2
   go_wp2_with fail
   refine hov.mono ?_
   rintro e we ⟨v,way,s,dd,f,rfl,hown,hO,hb3⟩
   have B3:=B2.trans (hb3.mono B2.size)
   have an3:=an2.below hb3
   have x0:=an3.c0
   have x1:=an3.c1
   have x2:=an3.c2
   have x3:=an3.c3
   have y0:=an3.z0
   have y1:=an3.z1
   have y2:=an3.z2
   have y3:=an3.z3
   have HA:Hid (AnsR W H bl most (aN:Int) (tN:Int) way s dd (if f then 0 else 5)):=Or.inr ⟨hf,Or.inr ⟨HN.out,f,by rw [Int.toNat_natCast,Int.toNat_natCast];exact hO,rfl⟩⟩
   obtain ⟨n,A,cap,rfl⟩:∃ (n:Nat) (A:Option Addr) (cap:Nat),v=.slice A n cap:=by
    rcases hown.2 with ⟨rfl,_⟩|⟨g9,cap9,_,rfl,_⟩
    ·exact ⟨_,_,_,rfl⟩
    ·exact ⟨_,_,_,rfl⟩
   generalize (if f then (0:Int) else 5)=er at *
   clear hov an2 hb3 hO
   go_wp2
   have r:=an3.set (.slice A n cap) s dd er
   refine bodyPost_ret (v:=.agg #[.slice A n cap,.int .i64 s,.int .i64 dd,.int .i64 er]) (by simp [results,Tryz.results16,go_sem,r.c0,r.c1,r.c2,r.c3]) rfl ?_
   exact ⟨_,way,s,dd,er,rfl,own_base (own_keep hown (an_keep we w.heap.size _ _ _ _) (fun q hq=>by have:=(hown.lt q hq).1;omega)) (by omega),HA.out,an_below B3 (Nat.le_refl _) _ _ _ _⟩
 ·have hne:ff2 W H bl a t≠0:=by omega
  have hw:=rway_err a t wb g1 hz1 hne
  have HA:Hid (AnsR W H bl most a t [] 0 0 (ff2 W H bl a t)):=Or.inl ⟨hne,rfl,rfl,rfl,rfl⟩
  rw [errV_some hne] at hw
  generalize ff2 W H bl a t=n at *
  go_wp2_with fail
  refine hw.mono ?_
  rintro e wd ⟨rfl,hb2⟩
  have B2:=B1.trans (hb2.mono B1.size)
  have an2:=an1.below hb2
  have hnm:=nnum_any wd n
  have x0:=an2.c0
  have x1:=an2.c1
  have x2:=an2.c2
  have x3:=an2.c3
  have y0:=an2.z0
  have y1:=an2.z1
  have y2:=an2.z2
  have y3:=an2.z3
  clear hw an1 S1 hb2 hne
  rcases hf with rfl|rfl
  ·go_wp2_with fail
   refine hnm.mono ?_
   rintro e w' ⟨rfl,rfl⟩
   go_wp2
   have r:=an2.set (.slice none 0 0) 0 0 1
   refine bodyPost_ret (v:=.agg #[.slice none 0 0,.int .i64 0,.int .i64 0,.int .i64 1]) (by simp [results,Tryz.results16,go_sem,r.c0,r.c1,r.c2,r.c3]) rfl ?_
   exact ⟨_,[],0,0,1,rfl,World.ownsRow_nil _ _ _ _,HA.out,an_below B2 (Nat.le_refl _) _ _ _ _⟩
  ·go_wp2_with fail
   refine hnm.mono ?_
   rintro e w' ⟨rfl,rfl⟩
   go_wp2
   have r:=an2.set (.slice none 0 0) 0 0 4
   refine bodyPost_ret (v:=.agg #[.slice none 0 0,.int .i64 0,.int .i64 0,.int .i64 4]) (by simp [results,Tryz.results16,go_sem,r.c0,r.c1,r.c2,r.c3]) rfl ?_
   exact ⟨_,[],0,0,4,rfl,World.ownsRow_nil _ _ _ _,HA.out,an_below B2 (Nat.le_refl _) _ _ _ _⟩
end
section
open Go.Shelf
open Go.RowKit in
def Tryz.laysM171_ren:Go.Shelf.Ren:=⟨fun|171=>137|243=>182|246=>207|283=>239|284=>240|285=>241|286=>242|129=>218|317=>257|318=>258|319=>259|320=>260|337=>263|338=>264|n=>n,fun|3=>3|9=>9|2=>2|4=>4|171=>317|0=>0|53=>301|37=>182|5=>5|173=>319|212=>336|51=>299|20=>20|213=>337|46=>273|232=>341|233=>342|n=>n,fun|17=>5|18=>6|19=>7|n=>n⟩
theorem Tryz.laysM171:Go.Proofs.LaysM.n171 Tryz.prog Tryz.laysM171_ren:={
 mixed:=by kernel_rfl
 f129:=Tryz.func218.trans (congrArg some (by kernel_rfl))
 f171:=Tryz.func137.trans (congrArg some (by kernel_rfl))
 f243:=Tryz.func182.trans (congrArg some (by kernel_rfl))
 f246:=Tryz.func207.trans (congrArg some (by kernel_rfl))
 f283:=Tryz.func239.trans (congrArg some (by kernel_rfl))
 f284:=Tryz.func240.trans (congrArg some (by kernel_rfl))
 f285:=Tryz.func241.trans (congrArg some (by kernel_rfl))
 f286:=Tryz.func242.trans (congrArg some (by kernel_rfl))
 f317:=Tryz.func257.trans (congrArg some (by kernel_rfl))
 f318:=Tryz.func258.trans (congrArg some (by kernel_rfl))
 f319:=Tryz.func259.trans (congrArg some (by kernel_rfl))
 f320:=Tryz.func260.trans (congrArg some (by kernel_rfl))
 f337:=Tryz.func263.trans (congrArg some (by kernel_rfl))
 f338:=Tryz.func264.trans (congrArg some (by kernel_rfl))
 t0:=Tryz.underlying0
 a0:=Tryz.isAgg0
 z0:=Tryz.sizeOf0
 v0:=Tryz.zeroValue0
 t2:=Tryz.underlying2
 a2:=Tryz.isAgg2
 z2:=Tryz.sizeOf2
 v2:=Tryz.zeroValue2
 t3:=Tryz.underlying3
 a3:=Tryz.isAgg3
 z3:=Tryz.sizeOf3
 v3:=Tryz.zeroValue3
 t4:=Tryz.underlying4
 a4:=Tryz.isAgg4
 z4:=Tryz.sizeOf4
 v4:=Tryz.zeroValue4
 t5:=Tryz.underlying5
 a5:=Tryz.isAgg5
 z5:=Tryz.sizeOf5
 v5:=Tryz.zeroValue5
 t9:=Tryz.underlying9
 a9:=Tryz.isAgg9
 z9:=Tryz.sizeOf9
 v9:=Tryz.zeroValue9
 t20:=Tryz.underlying20
 a20:=Tryz.isAgg20
 z20:=Tryz.sizeOf20
 v20:=Tryz.zeroValue20
 t37:=Tryz.underlying182
 a37:=Tryz.isAgg182
 z37:=Tryz.sizeOf182
 v37:=Tryz.zeroValue182
 t46:=Tryz.underlying273
 a46:=Tryz.isAgg273
 z46:=Tryz.sizeOf273
 v46:=Tryz.zeroValue273
 t51:=Tryz.underlying299
 a51:=Tryz.isAgg299
 z51:=Tryz.sizeOf299
 v51:=Tryz.zeroValue299
 t53:=Tryz.underlying301
 a53:=Tryz.isAgg301
 z53:=Tryz.sizeOf301
 v53:=Tryz.zeroValue301
 t171:=Tryz.underlying317
 a171:=Tryz.isAgg317
 z171:=Tryz.sizeOf317
 v171:=Tryz.zeroValue317
 t173:=Tryz.underlying319
 a173:=Tryz.isAgg319
 z173:=Tryz.sizeOf319
 v173:=Tryz.zeroValue319
 t212:=Tryz.underlying336
 a212:=Tryz.isAgg336
 z212:=Tryz.sizeOf336
 v212:=Tryz.zeroValue336
 t213:=Tryz.underlying337
 a213:=Tryz.isAgg337
 z213:=Tryz.sizeOf337
 t232:=Tryz.underlying341
 a232:=Tryz.isAgg341
 z232:=Tryz.sizeOf341
 v232:=Tryz.zeroValue341
 t233:=Tryz.underlying342
 a233:=Tryz.isAgg342
 z233:=Tryz.sizeOf342
 v233:=Tryz.zeroValue342
 g17:=by kernel_rfl
 g18:=by kernel_rfl
 g19:=by kernel_rfl
 i0:=by kernel_rfl
 i2:=by kernel_rfl
 i3:=by kernel_rfl
 i4:=by kernel_rfl
 i5:=by kernel_rfl
 i9:=by kernel_rfl
 i20:=by kernel_rfl
 i37:=by kernel_rfl
 i46:=by kernel_rfl
 i51:=by kernel_rfl
 i53:=by kernel_rfl
 i171:=by kernel_rfl
 i173:=by kernel_rfl
 i212:=by kernel_rfl
 i232:=by kernel_rfl
 i233:=by kernel_rfl
 m17:=by kernel_rfl
 m18:=by kernel_rfl
 m19:=by kernel_rfl }
open Go.RowKit Go.Sort Go.Lib in
theorem Tryz.strconv_Itoa (n : Int) (h0 : -9223372036854775808 ≤ n) (h1 : n ≤ 9223372036854775807) (w : World) (htab : Lib.TabIs Tryz.prog w "internal/strconv.uint64pow10" .u64 Lib.pow10Tab) :
  Calls Tryz.prog 137 #[.int .i64 n] w fun e w'=>e=.returned (.string ⟨(Lib.itoa n).toArray⟩)/\∃ k os,w'=grow (w.drewN k) os:=Any.strconv_Itoa Tryz.laysM171 n h0 h1 w htab
def Tryz.laysC172_ren:Go.Shelf.Ren:=⟨fun|172=>113|244=>156|245=>157|247=>190|279=>191|280=>192|281=>193|282=>194|287=>224|316=>225|171=>137|205=>226|321=>251|322=>252|243=>182|246=>207|283=>239|284=>240|285=>241|286=>242|129=>218|317=>257|318=>258|319=>259|320=>260|337=>263|338=>264|n=>n,fun|9=>9|3=>3|75=>27|76=>46|4=>4|5=>5|167=>277|37=>182|0=>0|85=>278|2=>2|168=>280|53=>301|175=>303|46=>273|210=>307|127=>233|145=>333|143=>331|21=>21|171=>317|173=>319|212=>336|51=>299|20=>20|213=>337|232=>341|233=>342|80=>62|n=>n,fun|15=>3|16=>4|17=>5|18=>6|19=>7|n=>n⟩
theorem Tryz.laysC172:Go.Proofs.LaysC.n172 Tryz.prog Tryz.laysC172_ren:={
 mixed:=by kernel_rfl
 f129:=Tryz.func218.trans (congrArg some (by kernel_rfl))
 f171:=Tryz.func137.trans (congrArg some (by kernel_rfl))
 f172:=Tryz.func113.trans (congrArg some (by kernel_rfl))
 f205:=Tryz.func226.trans (congrArg some (by kernel_rfl))
 f243:=Tryz.func182.trans (congrArg some (by kernel_rfl))
 f244:=Tryz.func156.trans (congrArg some (by kernel_rfl))
 f245:=Tryz.func157.trans (congrArg some (by kernel_rfl))
 f246:=Tryz.func207.trans (congrArg some (by kernel_rfl))
 f247:=Tryz.func190.trans (congrArg some (by kernel_rfl))
 f279:=Tryz.func191.trans (congrArg some (by kernel_rfl))
 f280:=Tryz.func192.trans (congrArg some (by kernel_rfl))
 f281:=Tryz.func193.trans (congrArg some (by kernel_rfl))
 f282:=Tryz.func194.trans (congrArg some (by kernel_rfl))
 f283:=Tryz.func239.trans (congrArg some (by kernel_rfl))
 f284:=Tryz.func240.trans (congrArg some (by kernel_rfl))
 f285:=Tryz.func241.trans (congrArg some (by kernel_rfl))
 f286:=Tryz.func242.trans (congrArg some (by kernel_rfl))
 f287:=Tryz.func224.trans (congrArg some (by kernel_rfl))
 f316:=Tryz.func225.trans (congrArg some (by kernel_rfl))
 f317:=Tryz.func257.trans (congrArg some (by kernel_rfl))
 f318:=Tryz.func258.trans (congrArg some (by kernel_rfl))
 f319:=Tryz.func259.trans (congrArg some (by kernel_rfl))
 f320:=Tryz.func260.trans (congrArg some (by kernel_rfl))
 f321:=Tryz.func251.trans (congrArg some (by kernel_rfl))
 f322:=Tryz.func252.trans (congrArg some (by kernel_rfl))
 f337:=Tryz.func263.trans (congrArg some (by kernel_rfl))
 f338:=Tryz.func264.trans (congrArg some (by kernel_rfl))
 t0:=Tryz.underlying0
 a0:=Tryz.isAgg0
 z0:=Tryz.sizeOf0
 v0:=Tryz.zeroValue0
 t2:=Tryz.underlying2
 a2:=Tryz.isAgg2
 z2:=Tryz.sizeOf2
 v2:=Tryz.zeroValue2
 t3:=Tryz.underlying3
 a3:=Tryz.isAgg3
 z3:=Tryz.sizeOf3
 v3:=Tryz.zeroValue3
 t4:=Tryz.underlying4
 a4:=Tryz.isAgg4
 z4:=Tryz.sizeOf4
 v4:=Tryz.zeroValue4
 t5:=Tryz.underlying5
 a5:=Tryz.isAgg5
 z5:=Tryz.sizeOf5
 v5:=Tryz.zeroValue5
 t9:=Tryz.underlying9
 a9:=Tryz.isAgg9
 z9:=Tryz.sizeOf9
 v9:=Tryz.zeroValue9
 t20:=Tryz.underlying20
 a20:=Tryz.isAgg20
 z20:=Tryz.sizeOf20
 v20:=Tryz.zeroValue20
 t21:=Tryz.underlying21
 a21:=Tryz.isAgg21
 z21:=Tryz.sizeOf21
 v21:=Tryz.zeroValue21
 t37:=Tryz.underlying182
 a37:=Tryz.isAgg182
 z37:=Tryz.sizeOf182
 v37:=Tryz.zeroValue182
 t46:=Tryz.underlying273
 a46:=Tryz.isAgg273
 z46:=Tryz.sizeOf273
 v46:=Tryz.zeroValue273
 t51:=Tryz.underlying299
 a51:=Tryz.isAgg299
 z51:=Tryz.sizeOf299
 v51:=Tryz.zeroValue299
 t53:=Tryz.underlying301
 a53:=Tryz.isAgg301
 z53:=Tryz.sizeOf301
 v53:=Tryz.zeroValue301
 t75:=Tryz.underlying27
 a75:=Tryz.isAgg27
 z75:=Tryz.sizeOf27
 v75:=Tryz.zeroValue27
 t76:=Tryz.underlying46
 a76:=Tryz.isAgg46
 z76:=Tryz.sizeOf46
 v76:=Tryz.zeroValue46
 t85:=Tryz.underlying278
 a85:=Tryz.isAgg278
 z85:=Tryz.sizeOf278
 v85:=Tryz.zeroValue278
 t127:=Tryz.underlying233
 a127:=Tryz.isAgg233
 z127:=Tryz.sizeOf233
 v127:=Tryz.zeroValue233
 t143:=Tryz.underlying331
 a143:=Tryz.isAgg331
 z143:=Tryz.sizeOf331
 v143:=Tryz.zeroValue331
 t145:=Tryz.underlying333
 a145:=Tryz.isAgg333
 z145:=Tryz.sizeOf333
 v145:=Tryz.zeroValue333
 t167:=Tryz.underlying277
 a167:=Tryz.isAgg277
 z167:=Tryz.sizeOf277
 v167:=Tryz.zeroValue277
 t168:=Tryz.underlying280
 a168:=Tryz.isAgg280
 z168:=Tryz.sizeOf280
 v168:=Tryz.zeroValue280
 t171:=Tryz.underlying317
 a171:=Tryz.isAgg317
 z171:=Tryz.sizeOf317
 v171:=Tryz.zeroValue317
 t173:=Tryz.underlying319
 a173:=Tryz.isAgg319
 z173:=Tryz.sizeOf319
 v173:=Tryz.zeroValue319
 t175:=Tryz.underlying303
 a175:=Tryz.isAgg303
 z175:=Tryz.sizeOf303
 v175:=Tryz.zeroValue303
 t210:=Tryz.underlying307
 a210:=Tryz.isAgg307
 z210:=Tryz.sizeOf307
 v210:=Tryz.zeroValue307
 t212:=Tryz.underlying336
 a212:=Tryz.isAgg336
 z212:=Tryz.sizeOf336
 v212:=Tryz.zeroValue336
 t213:=Tryz.underlying337
 a213:=Tryz.isAgg337
 z213:=Tryz.sizeOf337
 t232:=Tryz.underlying341
 a232:=Tryz.isAgg341
 z232:=Tryz.sizeOf341
 v232:=Tryz.zeroValue341
 t233:=Tryz.underlying342
 a233:=Tryz.isAgg342
 z233:=Tryz.sizeOf342
 v233:=Tryz.zeroValue342
 g15:=by kernel_rfl
 g16:=by kernel_rfl
 g17:=by kernel_rfl
 g18:=by kernel_rfl
 g19:=by kernel_rfl
 t80:=Tryz.underlying62
 a80:=Tryz.isAgg62
 z80:=Tryz.sizeOf62
 v80:=Tryz.zeroValue62
 i0:=by kernel_rfl
 i2:=by kernel_rfl
 i3:=by kernel_rfl
 i4:=by kernel_rfl
 i5:=by kernel_rfl
 i9:=by kernel_rfl
 i20:=by kernel_rfl
 i21:=by kernel_rfl
 i37:=by kernel_rfl
 i46:=by kernel_rfl
 i51:=by kernel_rfl
 i53:=by kernel_rfl
 i75:=by kernel_rfl
 i76:=by kernel_rfl
 i80:=by kernel_rfl
 i85:=by kernel_rfl
 i127:=by kernel_rfl
 i143:=by kernel_rfl
 i145:=by kernel_rfl
 i167:=by kernel_rfl
 i168:=by kernel_rfl
 i171:=by kernel_rfl
 i173:=by kernel_rfl
 i175:=by kernel_rfl
 i210:=by kernel_rfl
 i212:=by kernel_rfl
 i232:=by kernel_rfl
 i233:=by kernel_rfl
 m15:=by kernel_rfl
 m16:=by kernel_rfl
 m17:=by kernel_rfl
 m18:=by kernel_rfl
 m19:=by kernel_rfl
 c0:=by kernel_rfl
 c2:=by kernel_rfl
 c3:=by kernel_rfl
 c4:=by kernel_rfl
 c5:=by kernel_rfl
 c9:=by kernel_rfl
 c20:=by kernel_rfl
 c21:=by kernel_rfl
 c37:=by kernel_rfl
 c46:=by kernel_rfl
 c51:=by kernel_rfl
 c53:=by kernel_rfl
 c75:=by kernel_rfl
 c76:=by kernel_rfl
 c80:=by kernel_rfl
 c85:=by kernel_rfl
 c127:=by kernel_rfl
 c143:=by kernel_rfl
 c145:=by kernel_rfl
 c167:=by kernel_rfl
 c168:=by kernel_rfl
 c171:=by kernel_rfl
 c173:=by kernel_rfl
 c175:=by kernel_rfl
 c210:=by kernel_rfl
 c212:=by kernel_rfl
 c213:=by kernel_rfl
 c232:=by kernel_rfl
 c233:=by kernel_rfl }
open Go.RowKit in
theorem Tryz.strconv_Atoi_ok (s:ByteArray)(hmax:s.size<=9223372036854775806)(v:Int)(h:Lib.atoiAll s.data.toList=.ok v)(w:World) :
  Calls Tryz.prog 113 #[.string s] w fun e w'=>e=.returned (.tuple #[.int .i64 v,.nilIface])/\(w'=w\/∃ t,w'=Lib.bytesWorld w 5 t):=Any.strconv_Atoi_ok Tryz.laysC172 s hmax v h w
open Go.RowKit in
open Go.RowKit in
def Tryz.lays219_ren:Go.Shelf.Ren:=⟨fun|219=>189|217=>220|225=>221|224=>222|267=>223|266=>249|314=>250|n=>n,fun|9=>9|3=>3|4=>4|5=>5|46=>273|146=>327|51=>299|n=>n,fun|1=>2|n=>n⟩
theorem Tryz.lays219:Go.Proofs.Lays.n219 Tryz.prog Tryz.lays219_ren:={
 mixed:=by kernel_rfl
 f217:=Tryz.func220.trans (congrArg some (by kernel_rfl))
 f219:=Tryz.func189.trans (congrArg some (by kernel_rfl))
 f224:=Tryz.func222.trans (congrArg some (by kernel_rfl))
 f225:=Tryz.func221.trans (congrArg some (by kernel_rfl))
 f266:=Tryz.func249.trans (congrArg some (by kernel_rfl))
 f267:=Tryz.func223.trans (congrArg some (by kernel_rfl))
 f314:=Tryz.func250.trans (congrArg some (by kernel_rfl))
 t3:=Tryz.underlying3
 a3:=Tryz.isAgg3
 z3:=Tryz.sizeOf3
 v3:=Tryz.zeroValue3
 t4:=Tryz.underlying4
 a4:=Tryz.isAgg4
 z4:=Tryz.sizeOf4
 v4:=Tryz.zeroValue4
 t5:=Tryz.underlying5
 a5:=Tryz.isAgg5
 z5:=Tryz.sizeOf5
 v5:=Tryz.zeroValue5
 t9:=Tryz.underlying9
 a9:=Tryz.isAgg9
 z9:=Tryz.sizeOf9
 v9:=Tryz.zeroValue9
 t46:=Tryz.underlying273
 a46:=Tryz.isAgg273
 z46:=Tryz.sizeOf273
 v46:=Tryz.zeroValue273
 t51:=Tryz.underlying299
 a51:=Tryz.isAgg299
 z51:=Tryz.sizeOf299
 v51:=Tryz.zeroValue299
 t146:=Tryz.underlying327
 a146:=Tryz.isAgg327
 z146:=Tryz.sizeOf327
 v146:=Tryz.zeroValue327
 g1:=by kernel_rfl }
open Go.RowKit Go.Lib in
theorem Tryz.stringslite_Index_one (s:ByteArray)(c:UInt8)(w:World) :
  Calls Tryz.prog 189 #[.string s,.string ⟨#[c]⟩] w fun e w'=>e=.returned (.int .i64 (Lib.indexByte s.data.toList c))/\w'=w:=Any.stringslite_Index_one Tryz.lays219 s c w
def Tryz.lays101_ren:Go.Shelf.Ren:=⟨fun|101=>114|208=>158|206=>195|n=>n,fun|9=>9|4=>4|3=>3|n=>n,fun|n=>n⟩
theorem Tryz.lays101:Go.Proofs.Lays.n101 Tryz.prog Tryz.lays101_ren:={
 mixed:=by kernel_rfl
 f101:=Tryz.func114.trans (congrArg some (by kernel_rfl))
 f206:=Tryz.func195.trans (congrArg some (by kernel_rfl))
 f208:=Tryz.func158.trans (congrArg some (by kernel_rfl))
 t3:=Tryz.underlying3
 a3:=Tryz.isAgg3
 z3:=Tryz.sizeOf3
 v3:=Tryz.zeroValue3
 t4:=Tryz.underlying4
 a4:=Tryz.isAgg4
 z4:=Tryz.sizeOf4
 v4:=Tryz.zeroValue4
 t9:=Tryz.underlying9
 a9:=Tryz.isAgg9
 z9:=Tryz.sizeOf9
 v9:=Tryz.zeroValue9 }
open Go.RowKit Go.Lib in
theorem Tryz.strings_TrimPrefix (s p:ByteArray)(w:World) :
  Calls Tryz.prog 114 #[.string s,.string p] w fun e w'=>e=.returned (.string ⟨(Lib.trimPrefix s.data.toList p.data.toList).toArray⟩)/\w'=w:=Any.strings_TrimPrefix Tryz.lays101 s p w
end
section
open Go.RowKit
end
section
open Go.Lib
theorem parse_snoc (c:UInt8):∀ (l:List UInt8) (acc:Nat),parseUint10 acc (l++[c])=match parseUint10 acc l with|.ok u=>parseUint10 u [c]|.syntax=>.syntax|.range=>.range
 |[],_=>rfl
 |d::r,acc=>by
  simp only [List.cons_append,parseUint10]
  split
  ·split
   ·rfl
   ·split
    ·rfl
    ·exact parse_snoc c r _
  ·rfl
theorem ofNat_dig {n:Nat}(h:n<10):(UInt8.ofNat (48+n)).toNat=48+n:=by
 rw [UInt8.toNat_ofNat']
 omega
theorem dec_big {n:Nat}(h:¬ n<10):decDigits n=decDigits (n / 10)++[UInt8.ofNat (48+n % 10)]:=by
 conv=>lhs;rw [decDigits,dif_neg h]
theorem parse_dec (n:Nat)(h:n<18446744073709551616):parseUint10 0 (decDigits n)=.ok n:=by
 induction n using Nat.strongRecOn with
 |_ n ih =>
  by_cases h10:n<10
  ·rw [decDigits_one h10]
   simp only [parseUint10,ofNat_dig h10]
   rw [if_pos (by omega),if_neg (by omega),if_neg (by omega)]
   congr 1
   omega
  ·rw [dec_big h10,parse_snoc,ih (n / 10) (by omega) (by omega)]
   have h2:n % 10<10:=by omega
   simp only [parseUint10,ofNat_dig h2]
   rw [if_pos (by omega),if_neg (by omega),if_neg (by omega)]
   congr 1
   omega
def isD (c:UInt8):Prop:=48<=c.toNat/\c.toNat<=57
theorem dec_dig (n:Nat):∀ c ∈ decDigits n,isD c:=by
 induction n using Nat.strongRecOn with
 |_ n ih =>
  intro c hc
  by_cases h10:n<10
  ·rw [decDigits_one h10] at hc
   have:=List.mem_singleton.1 hc
   subst this
   unfold isD
   rw [ofNat_dig h10]
   omega
  ·rw [dec_big h10] at hc
   rcases List.mem_append.1 hc with h|h
   ·exact ih _ (by omega) c h
   ·have:=List.mem_singleton.1 h
    subst this
    unfold isD
    rw [ofNat_dig (by omega)]
    omega
theorem dec_ne (n:Nat):decDigits n≠[]:=by
 intro h
 have:=decDigits_length n
 rw [h] at this
 have:=nDigits_pos n
 simp at *
 omega
theorem dec_cons (n:Nat):∃ c r,decDigits n=c::r/\isD c:=by
 cases h:decDigits n with
 |nil=>exact absurd h (dec_ne n)
 |cons c r=>exact ⟨c,r,rfl,dec_dig n c (by rw [h];exact List.mem_cons_self)⟩
theorem atoi_itoa (v:Int)(h0:-9223372036854775808<=v)(h1:v<=9223372036854775807):atoiAll (itoa v)=.ok v:=by
 unfold itoa
 by_cases hv:v<0
 ·rw [if_pos hv]
  have hp:parseMag (decDigits v.natAbs)=.ok v.natAbs:=by
   unfold parseMag
   rw [if_neg (dec_ne _),parse_dec _ (by omega)]
  simp only [atoiAll]
  have e45:(45:UInt8).toNat=45:=rfl
  rw [e45,if_pos (Or.inr rfl),hp]
  simp only [not_true,false_and,if_false,true_and,if_true]
  rw [if_neg (by omega)]
  congr 1
  omega
 ·rw [if_neg hv]
  obtain ⟨c,r,hc,hd⟩:=dec_cons v.toNat
  have hp:parseMag (decDigits v.toNat)=.ok v.toNat:=by
   unfold parseMag
   rw [if_neg (dec_ne _),parse_dec _ (by omega)]
  rw [hc] at hp ⊢
  unfold isD at hd
  simp only [atoiAll]
  have e1:¬ (c.toNat=43\/c.toNat=45):=by omega
  have e2:¬ c.toNat=45:=by omega
  rw [if_neg e1,hp]
  simp only [e2,not_false_eq_true,true_and,false_and,if_false]
  rw [if_neg (by omega)]
  congr 1
  omega
theorem trim_app (w x:List UInt8):trimPrefix (w++x) w=x:=by
 unfold trimPrefix hasPrefix
 rw [if_pos (by rw [List.isPrefixOf_iff_prefix];exact List.prefix_append _ _)]
 simp
def numOf (s word:List UInt8):Option Int :=
 match atoiAll (trimPrefix s word) with
 |.ok v=>if s=word++itoa v then some v else none
 |_=>none
theorem numOf_iff {s word:List UInt8}{v:Int}:numOf s word=some v↔(s=word++itoa v/\-9223372036854775808<=v/\v<=9223372036854775807):=by
 unfold numOf
 constructor
 ·intro h
  split at h
  ·rename_i u hu
   split at h
   ·rename_i he
    have:u=v:=by simpa using h
    subst this
    exact ⟨he,atoiAll_bounds hu⟩
   ·cases h
  ·cases h
 ·rintro ⟨rfl,h0,h1⟩
  rw [trim_app,atoi_itoa v h0 h1]
  simp
def dvalF (acc:Nat) (l:List UInt8):Nat:=l.foldl (fun a c=>a*10+(c.toNat - 48)) acc
theorem dvalF_nil (acc:Nat):dvalF acc []=acc:=List.foldl_nil
theorem dvalF_cons (acc:Nat)(c:UInt8)(r:List UInt8):dvalF acc (c::r)=dvalF (acc*10+(c.toNat - 48)) r:=List.foldl_cons
theorem dvalF_snoc (c:UInt8)(l:List UInt8)(acc:Nat):dvalF acc (l++[c])=dvalF acc l*10+(c.toNat - 48):=by
 unfold dvalF
 rw [List.foldl_append,List.foldl_cons,List.foldl_nil]
theorem dvalF_acc:∀ (l:List UInt8) (acc:Nat),dvalF acc l=acc*10 ^ l.length+dvalF 0 l
 |[],acc=>by simp [dvalF_nil]
 |c::r,acc=>by
  simp only [dvalF_cons,List.length_cons]
  rw [dvalF_acc r (acc*10+(c.toNat - 48)),dvalF_acc r (0*10+(c.toNat - 48)),Nat.pow_succ]
  generalize 10 ^ r.length=P
  rw [Nat.add_mul,Nat.zero_mul,Nat.zero_add,Nat.mul_comm P 10,Nat.mul_assoc]
  omega
theorem dval_ge (c:UInt8)(r:List UInt8)(h:49<=c.toNat):10 ^ r.length<=dvalF 0 (c::r):=by
 simp only [dvalF_cons]
 rw [dvalF_acc,Nat.zero_mul,Nat.zero_add]
 generalize 10 ^ r.length=P
 have:1*P<=(c.toNat - 48)*P:=Nat.mul_le_mul_right _ (by omega)
 omega
theorem dval_dec (n:Nat):dvalF 0 (decDigits n)=n:=by
 induction n using Nat.strongRecOn with
 |_ n ih =>
  by_cases h10:n<10
  ·rw [decDigits_one h10]
   simp only [dvalF_cons,dvalF_nil,ofNat_dig h10]
   omega
  ·rw [dec_big h10,dvalF_snoc,ih _ (by omega),ofNat_dig (by omega)]
   omega
theorem dec_head:∀ (n:Nat),1<=n->∃ c r,decDigits n=c::r/\49<=c.toNat:=by
 intro n
 induction n using Nat.strongRecOn with
 |_ n ih =>
  intro h1
  by_cases h10:n<10
  ·exact ⟨_,_,decDigits_one h10,by rw [ofNat_dig h10];omega⟩
  ·obtain ⟨c,r,hc,hd⟩:=ih (n / 10) (by omega) (by omega)
   exact ⟨c,r++[UInt8.ofNat (48+n % 10)],by rw [dec_big h10,hc];rfl,hd⟩
end
section
open Go.Lib
def cutL:List UInt8->Option (List UInt8 × List UInt8)
 |[]=>none
 |c::r=>if c=10 then some ([],r) else match cutL r with|none=>none|some p=>some (c::p.1,p.2)
theorem cutL_some:∀ {s a b:List UInt8},cutL s=some (a,b)->s=a++10::b/\10 ∉ a
 |[],_,_,h=>by simp [cutL] at h
 |c::r,a,b,h=>by
  unfold cutL at h
  split at h
  ·rename_i hc
   simp at h
   obtain ⟨rfl,rfl⟩:=h
   simp [hc]
  ·rename_i hc
   split at h
   ·cases h
   ·rename_i p hp
    simp at h
    obtain ⟨rfl,rfl⟩:=h
    obtain ⟨e,hn⟩:=cutL_some (s:=r) (a:=p.1) (b:=p.2) hp
    refine ⟨by rw [List.cons_append,<- e],?_⟩
    simp only [List.mem_cons,not_or]
    exact ⟨fun h=>hc h.symm,hn⟩
theorem cutL_mk (b:List UInt8):∀ (a:List UInt8),10 ∉ a->cutL (a++10::b)=some (a,b)
 |[],_=>by simp [cutL]
 |c::r,h=>by
  simp only [List.mem_cons,not_or] at h
  rw [List.cons_append]
  unfold cutL
  rw [if_neg (fun e=>h.1 e.symm),cutL_mk b r h.2]
def typeW:List UInt8:=[116,121,112,101,32,111,99,116,105,108,101]
def heightW:List UInt8:=[104,101,105,103,104,116,32]
def widthW:List UInt8:=[119,105,100,116,104,32]
def mapW:List UInt8:=[109,97,112]
def cellB (c:UInt8):Option Bool :=
 if c=46\/c=71\/c=83 then some false else if c=64\/c=79\/c=84\/c=87 then some true else none
def rowB:List UInt8->Option (List Bool)
 |[]=>some []
 |c::r=>match cellB c with
  |none=>none
  |some b=>match rowB r with
   |none=>none
   |some l=>some (b::l)
def rowsB (w:Nat):Nat->List UInt8->Option (List Bool)
 |0,r=>if r=[] then some [] else none
 |k+1,r=>match cutL r with
  |none=>none
  |some p=>if p.1.length=w then (match rowB p.1 with
   |none=>none
   |some a=>match rowsB w k p.2 with
    |none=>none
    |some l=>some (a++l)) else none
theorem rowB_len:∀ {l:List UInt8}{a:List Bool},rowB l=some a->a.length=l.length
 |[],a,h=>by simp [rowB] at h;subst h;rfl
 |c::r,a,h=>by
  unfold rowB at h
  split at h
  ·cases h
  ·split at h
   ·cases h
   ·rename_i b _ l hl
    simp at h
    subst h
    simp [rowB_len hl]
inductive Read where
 |bad (n:Nat)
 |good (W H:Nat) (cs:List Bool)
def cut4 (s:List UInt8):Option (List UInt8 × List UInt8 × List UInt8 × List UInt8 × List UInt8) :=
 match cutL s with
 |none=>none
 |some (a,s1)=>match cutL s1 with
  |none=>none
  |some (b,s2)=>match cutL s2 with
   |none=>none
   |some (c,s3)=>match cutL s3 with
    |none=>none
    |some (d,s4)=>some (a,b,c,d,s4)
def sizeOf4 (a b c d:List UInt8):Option (Int × Int) :=
 match numOf b heightW with
 |none=>none
 |some h=>match numOf c widthW with
  |none=>none
  |some w=>if a=typeW/\d=mapW then some (w,h) else none
def sideN (n:Int):Bool:=decide (1<=n/\n<=16)
def readOf (s:List UInt8):Read :=
 if 1000<s.length then .bad 2 else match cut4 s with
 |none=>.bad 3
 |some (a,b,c,d,r)=>match sizeOf4 a b c d with
  |none=>.bad 3
  |some (w,h)=>if sideN w=true/\sideN h=true then (match rowsB w.toNat h.toNat r with
   |none=>.bad 3
   |some cs=>.good w.toNat h.toNat cs) else .bad 1
def byteL (b:Bool):UInt8:=if b then 64 else 46
def rowL (bl:Nat->Bool) (c w:Nat):List UInt8:=(List.range w).map fun x=>byteL (bl (c+x))
def rowsL (bl:Nat->Bool) (w:Nat):Nat->List UInt8
 |0=>[]
 |k+1=>rowsL bl w k++(rowL bl (k*w) w++[10])
def headL (w h:Int):List UInt8:=typeW++([10]++((heightW++itoa h)++([10]++((widthW++itoa w)++([10]++(mapW++[10]))))))
def printL (bl:Nat->Bool) (w h:Nat):List UInt8:=headL w h++rowsL bl w h
theorem byteL_ne (b:Bool):byteL b≠10:=by cases b <;> decide
theorem cellB_byteL (b:Bool):cellB (byteL b)=some b:=by cases b <;> decide
theorem rowB_map (f:Nat->Bool):∀ (l:List Nat),rowB (l.map fun x=>byteL (f x))=some (l.map f)
 |[]=>rfl
 |x::l=>by
  simp only [List.map_cons,rowB,cellB_byteL,rowB_map f l]
theorem rowL_nl (bl:Nat->Bool)(c w:Nat):10 ∉ rowL bl c w:=by
 unfold rowL
 intro h
 obtain ⟨x,_,hx⟩:=List.mem_map.1 h
 exact byteL_ne _ hx
theorem rowL_len (bl:Nat->Bool)(c w:Nat):(rowL bl c w).length=w:=by simp [rowL]
def rowsFrom (bl:Nat->Bool) (w:Nat):Nat->Nat->List UInt8
 |0,_=>[]
 |k+1,j=>rowL bl (j*w) w++10::rowsFrom bl w k (j+1)
theorem rowsFrom_snoc (bl:Nat->Bool)(w:Nat):∀ (k j:Nat),rowsFrom bl w (k+1) j=rowsFrom bl w k j++(rowL bl ((j+k)*w) w++[10])
 |0,j=>by simp [rowsFrom]
 |k+1,j=>by
  rw [rowsFrom,rowsFrom_snoc bl w k (j+1),rowsFrom]
  rw [show j+1+k=j+(k+1) by omega]
  simp
theorem rowsL_from (bl:Nat->Bool)(w:Nat):∀ (k:Nat),rowsL bl w k=rowsFrom bl w k 0
 |0=>rfl
 |k+1=>by rw [rowsL,rowsFrom_snoc,rowsL_from bl w k,Nat.zero_add]
theorem range_at (c w:Nat)(bl:Nat->Bool)(n:Nat):(List.range w).map (fun x=>bl (c+x))++(List.range n).map (fun i=>bl (c+w+i))=(List.range (w+n)).map fun i=>bl (c+i):=by
 rw [List.range_add,List.map_append,List.map_map]
 congr 1
 refine List.map_congr_left fun i _=>?_
 simp [Nat.add_assoc]
theorem rowsB_from (bl:Nat->Bool)(w:Nat):∀ (k j:Nat),rowsB w k (rowsFrom bl w k j)=some ((List.range (k*w)).map fun i=>bl (j*w+i))
 |0,j=>by simp [rowsFrom,rowsB]
 |k+1,j=>by
  unfold rowsB rowsFrom
  rw [cutL_mk _ _ (rowL_nl _ _ _)]
  simp only
  rw [if_pos (rowL_len _ _ _)]
  have e:rowB (rowL bl (j*w) w)=some ((List.range w).map fun x=>bl (j*w+x)):=rowB_map _ _
  rw [e,rowsB_from bl w k (j+1)]
  simp only
  congr 1
  rw [Nat.succ_mul,Nat.succ_mul,Nat.add_comm (k*w) w,<- range_at (j*w) w bl (k*w)]
theorem itoa_nl (v:Int):10 ∉ itoa v:=by
 have hd:∀ n,10 ∉ decDigits n:=fun n h=>by
  have:=dec_dig n 10 h
  unfold isD at this
  simp at this
 unfold itoa
 split
 ·simp only [List.mem_cons,not_or]
  exact ⟨by decide,hd _⟩
 ·exact hd _
theorem itoa_len (v:Int)(h0:1<=v)(h1:v<=16):(itoa v).length<=2:=by
 unfold itoa
 rw [if_neg (by omega),decDigits_length]
 have:nDigits v.toNat<=2:=by
  by_cases h:v.toNat<10
  ·rw [nDigits_small h];omega
  ·rw [nDigits_big h,nDigits_small (by omega)];omega
 exact this
theorem rowsFrom_len (bl:Nat->Bool)(w:Nat):∀ (k j:Nat),(rowsFrom bl w k j).length=k*(w+1)
 |0,_=>by simp [rowsFrom]
 |k+1,j=>by
  rw [rowsFrom,List.length_append,List.length_cons,rowsFrom_len bl w k,rowL_len,Nat.succ_mul]
  omega
theorem print_len (bl:Nat->Bool)(w h:Nat)(w1:1<=w)(w2:w<=16)(h1:1<=h)(h2:h<=16):(printL bl w h).length<=1000:=by
 have a:=itoa_len w (by omega) (by omega)
 have b:=itoa_len h (by omega) (by omega)
 have c:h*(w+1)<=16*17:=Nat.mul_le_mul h2 (by omega)
 unfold printL headL
 rw [rowsL_from]
 simp only [List.length_append,rowsFrom_len]
 simp [typeW,heightW,widthW,mapW]
 omega
theorem head_cut (w h:Int)(r:List UInt8):cut4 (headL w h++r)=some (typeW,heightW++itoa h,widthW++itoa w,mapW,r):=by
 have n1:10 ∉ typeW:=by decide
 have n2:10 ∉ heightW++itoa h:=by
  rw [List.mem_append]
  exact fun hh=>hh.elim (by decide) (itoa_nl h)
 have n3:10 ∉ widthW++itoa w:=by
  rw [List.mem_append]
  exact fun hh=>hh.elim (by decide) (itoa_nl w)
 have n4:10 ∉ mapW:=by decide
 have e:headL w h++r=typeW++10::((heightW++itoa h)++10::((widthW++itoa w)++10::(mapW++10::r))):=by
  unfold headL
  simp
 unfold cut4
 rw [e,cutL_mk _ _ n1]
 simp only
 rw [cutL_mk _ _ n2]
 simp only
 rw [cutL_mk _ _ n3]
 simp only
 rw [cutL_mk _ _ n4]
theorem size_head (w h:Int)(w1:-9223372036854775808<=w)(w2:w<=9223372036854775807)(h1:-9223372036854775808<=h)(h2:h<=9223372036854775807):sizeOf4 typeW (heightW++itoa h) (widthW++itoa w) mapW=some (w,h):=by
 unfold sizeOf4
 rw [(numOf_iff (v:=h)).2 ⟨rfl,h1,h2⟩]
 simp only
 rw [(numOf_iff (v:=w)).2 ⟨rfl,w1,w2⟩]
 simp
theorem sizeOf4_some {a b c d:List UInt8}{w h:Int}(e:sizeOf4 a b c d=some (w,h)):a=typeW/\b=heightW++itoa h/\c=widthW++itoa w/\d=mapW/\numOf b heightW=some h/\numOf c widthW=some w:=by
 unfold sizeOf4 at e
 split at e
 ·cases e
 ·rename_i h' hh
  split at e
  ·cases e
  ·rename_i w' hw
   split at e
   ·rename_i hc
    simp at e
    obtain ⟨rfl,rfl⟩:=e
    exact ⟨hc.1,(numOf_iff.1 hh).1,(numOf_iff.1 hw).1,hc.2,hh,hw⟩
   ·cases e
theorem read_print (bl:Nat->Bool)(w h:Nat)(w1:1<=w)(w2:w<=16)(h1:1<=h)(h2:h<=16):readOf (printL bl w h)=.good w h ((List.range (h*w)).map bl):=by
 have hl:=print_len bl w h w1 w2 h1 h2
 unfold readOf
 rw [if_neg (by omega)]
 unfold printL
 rw [head_cut]
 simp only
 rw [size_head w h (by omega) (by omega) (by omega) (by omega)]
 simp only
 rw [if_pos ⟨decide_eq_true (by omega),decide_eq_true (by omega)⟩]
 rw [Int.toNat_natCast,Int.toNat_natCast,rowsL_from,rowsB_from]
 simp
end
section
open Go.RowKit
structure Env (w:World):Prop where
 es:∃ tp p,w.cell? ⟨3,0,none⟩=some (.iface tp p)
 er:∃ tp p,w.cell? ⟨4,0,none⟩=some (.iface tp p)
 tab : Lib.TabIs Tryz.prog w "internal/strconv.uint64pow10" .u64 Lib.pow10Tab
 z:8<=w.heap.size
theorem gPow : Tryz.prog.globalNamed "internal/strconv.uint64pow10" = some 5 := by kernel_rfl
theorem Env.below {B:Nat}{w w':World}(h:Env w)(hb:Below B w w')(hB:8<=B):Env w':=by
 obtain ⟨⟨t2,p2,h2⟩,⟨t3,p3,h3⟩,h4,h5⟩:=h
 refine ⟨⟨t2,p2,?_⟩,⟨t3,p3,?_⟩,?_,Nat.le_trans h5 hb.size⟩
 ·exact (hb.cell (p:=⟨3,0,none⟩) (by show 3<B;omega)).trans h2
 ·exact (hb.cell (p:=⟨4,0,none⟩) (by show 4<B;omega)).trans h3
 ·exact var?_below hb gPow (by omega) h4
theorem Env.grown {w w':World}(h:Env w)(hb:Below w.heap.size w w'):Env w':=h.below hb h.z
theorem itoa_len20 (v:Int)(h0:-9223372036854775808<=v)(h1:v<=9223372036854775807):(Lib.itoa v).length<=20:=by
 have key:∀ u:Nat,u<10 ^ 19->Lib.nDigits u<=19:=by
  intro u hu
  rcases Nat.lt_or_ge (Lib.nDigits u) 20 with h|h
  ·omega
  ·exfalso
   by_cases hz:1<=u
   ·obtain ⟨c,r,hc,hd⟩:=dec_head u hz
    have hl:=Lib.decDigits_length u
    have hg:=dval_ge c r hd
    rw [<- hc,dval_dec] at hg
    rw [hc] at hl
    simp at hl
    have:10 ^ 19<=10 ^ r.length:=Nat.pow_le_pow_right (by decide) (by omega)
    omega
   ·rw [Lib.nDigits_small (by omega)] at h
    omega
 unfold Lib.itoa
 split
 ·rw [List.length_cons,Lib.decDigits_length]
  have:=key v.natAbs (by omega)
  omega
 ·rw [Lib.decDigits_length]
  have:=key v.toNat (by omega)
  omega
theorem itoa_any (n:Int)(h0:-9223372036854775808<=n)(h1:n<=9223372036854775807)(w:World)(E:Env w) :
  Calls Tryz.prog 137 #[.int .i64 n] w fun e w'=>e=.returned (.string ⟨(Lib.itoa n).toArray⟩)/\Below w.heap.size w w' :=
 (Tryz.strconv_Itoa n h0 h1 w E.tab).mono fun _ _ ⟨he,k,os,hw⟩=>⟨he,by rw [hw];exact Lib.below_grow _ w (Nat.le_refl _) k os⟩
def str (l:List UInt8):ByteArray:=⟨l.toArray⟩
theorem str_size (l:List UInt8):(str l).size=l.length:=by
 rw [Lib.size_eq]
 rfl
theorem str_data (l:List UInt8):(str l).data.toList=l:=rfl
theorem str_append (a b:List UInt8):str a++str b=str (a++b):=by
 apply ByteArray.ext
 rw [ByteArray.data_append]
 simp [str]
def headV (w h:Int):Array Value:=#[.string (str typeW),.string (str heightW++str (Lib.itoa h)),.string (str widthW++str (Lib.itoa w)),.string (str mapW)]
theorem info60:(Tryz.prog.info? 140).map (·.size)=some 4:=by kernel_rfl
theorem results_arr {P:Program}{fn:Func}{p:Tmp}{ty:TypeId}(h:fn.results=#[.cell p ty])(tmps:Array Value)(w:World)(b:Nat)(cs:List Value)(d:TypeDesc)
  (hp:tmps.getD p undef=.pointer (some ⟨b,0,none⟩)) (hc:w.rangeAt b 0 cs) (hu:P.underlying ty=some d) (hd:d.isRow=true) (hi:(P.info? ty).map (·.size)=some cs.length) :
  (results fn tmps).run P w=.ok (.agg cs.toArray) w:=by
 have hp':tmps[p]?.getD undef=.pointer (some ⟨b,0,none⟩):=by simpa using hp
 simp [results,h,hp',asAddr,run_loadVar_mid w b 0 ty cs d hc hu hd hi]
theorem results_arr3 {P:Program}{fn:Func}{p u v:Tmp}{ty:TypeId}(h:fn.results=#[.cell p ty,.tmp u,.tmp v])(tmps:Array Value)(w:World)(b:Nat)(cs:List Value)(d:TypeDesc)
  (hp:tmps.getD p undef=.pointer (some ⟨b,0,none⟩)) (hc:w.rangeAt b 0 cs) (hu:P.underlying ty=some d) (hd:d.isRow=true) (hi:(P.info? ty).map (·.size)=some cs.length) :
  (results fn tmps).run P w=.ok (.tuple #[.agg cs.toArray,tmps.getD u undef,tmps.getD v undef]) w:=by
 have hp':tmps[p]?.getD undef=.pointer (some ⟨b,0,none⟩):=by simpa using hp
 simp [results,h,hp',asAddr,run_loadVar_mid w b 0 ty cs d hc hu hd hi]
theorem range4 (w:World)(b:Nat)(v0 v1 v2 v3:Value)(ht:w.there b 0 4) :
  ((((w.setCell ⟨b,0,none⟩ v0).setCell ⟨b,1,none⟩ v1).setCell ⟨b,2,none⟩ v2).setCell ⟨b,3,none⟩ v3).rangeAt b 0 [v0,v1,v2,v3] :=
 World.rangeAt_setCells_same w b 0 [v0,v1,v2,v3] ht
theorem there4 {w:World}{b:Nat}(hc:∀ j,j<4->∃ v,w.cell? ⟨b,j,none⟩=some v)(hf:∀ j,w.frozen? ⟨b,j,none⟩=false):w.there b 0 4:=fun j hj=>by
 rw [Nat.zero_add]
 obtain ⟨v,hv⟩:=hc j hj
 rw [hv]
 exact ⟨rfl,hf j⟩
theorem four_cells {b:Nat}{w:World}{v0 v1 v2 v3:Value}(h0:w.cell? ⟨b,0,none⟩=some v0)(h1:w.cell? ⟨b,1,none⟩=some v1)(h2:w.cell? ⟨b,2,none⟩=some v2)(h3:w.cell? ⟨b,3,none⟩=some v3):∀ j,j<4->∃ v,w.cell? ⟨b,j,none⟩=some v:=by
 intro j hj
 match j,hj with
 |0,_=>exact ⟨_,h0⟩
 |1,_=>exact ⟨_,h1⟩
 |2,_=>exact ⟨_,h2⟩
 |3,_=>exact ⟨_,h3⟩
theorem itoa_v {n:Int}{I:ByteArray}(hI:str (Lib.itoa n)=I)(h0:-9223372036854775808<=n)(h1:n<=9223372036854775807)(w:World)(E:Env w) :
  Calls Tryz.prog 137 #[.int .i64 n] w fun e w'=>e=.returned (.string I)/\Below w.heap.size w w':=by
 subst hI
 exact itoa_any n h0 h1 w E
set_option maxHeartbeats 1000000 in
set_option maxRecDepth 100000 in
theorem headOf_any (W H:Int)(a0:-9223372036854775808<=W)(a1:W<=9223372036854775807)(b0:-9223372036854775808<=H)(b1:H<=9223372036854775807)(w:World)(E:Env w) :
  Calls Tryz.prog 93 #[.int .i64 W,.int .i64 H] w fun e w'=>e=.returned (.agg (headV W H))/\Below w.heap.size w w':=by
 have l1:=itoa_len20 W a0 a1
 have l2:=itoa_len20 H b0 b1
 rw [<- str_size] at l1 l2
 unfold headV
 obtain ⟨IW,hW⟩:∃ I,str (Lib.itoa W)=I:=⟨_,rfl⟩
 obtain ⟨IH,hH⟩:∃ I,str (Lib.itoa H)=I:=⟨_,rfl⟩
 rw [hW] at l1 ⊢
 rw [hH] at l2 ⊢
 have HW:Hid (str (Lib.itoa W)=IW):=hW
 have HH:Hid (str (Lib.itoa H)=IH):=hH
 clear hW hH
 have hb0:Below w.heap.size w (w.alloc (.cells #[.string ⟨#[]⟩,.string ⟨#[]⟩,.string ⟨#[]⟩,.string ⟨#[]⟩] 140)):=(Below.refl _ _).alloc (Nat.le_refl _) _
 go_enter Tryz.func93,Tryz.ntmps93
 go_wp2_with (go_at_call 137;refine (itoa_v HH.out b0 b1 _ (E.grown hb0)).mono ?_)
 rintro e w1 ⟨rfl,hb1⟩
 have hb01:=hb0.trans (hb1.mono (by simp))
 go_wp2_with (go_at_call 137;refine (itoa_v HW.out a0 a1 _ (E.grown hb01)).mono ?_)
 rintro e w2 ⟨rfl,hb2⟩
 have s1:=hb1.size
 simp only [World.size_alloc] at s1
 have hc:∀ j:Nat,w2.cell? ⟨w.heap.size,j,none⟩=(w.alloc (.cells #[.string ⟨#[]⟩,.string ⟨#[]⟩,.string ⟨#[]⟩,.string ⟨#[]⟩] 140)).cell? ⟨w.heap.size,j,none⟩:=fun j =>
  (hb2.cell (p:=⟨w.heap.size,j,none⟩) (by show w.heap.size<_;omega)).trans (hb1.cell (p:=⟨w.heap.size,j,none⟩) (by simp))
 have hf:∀ j:Nat,w2.frozen? ⟨w.heap.size,j,none⟩=false:=fun j =>
  ((hb2.frozen (p:=⟨w.heap.size,j,none⟩) (by show w.heap.size<_;omega)).trans (hb1.frozen (p:=⟨w.heap.size,j,none⟩) (by simp))).trans (free_alloc w _ _ _ (Nat.le_refl _) j)
 have hbb:=hb01.trans (hb2.mono (by omega))
 have k0:w2.cell? ⟨w.heap.size,0,none⟩=some (.string ⟨#[]⟩):=by rw [hc,World.cell?_alloc_new];rfl
 have k1:w2.cell? ⟨w.heap.size,1,none⟩=some (.string ⟨#[]⟩):=by rw [hc,World.cell?_alloc_new];rfl
 have k2:w2.cell? ⟨w.heap.size,2,none⟩=some (.string ⟨#[]⟩):=by rw [hc,World.cell?_alloc_new];rfl
 have k3:w2.cell? ⟨w.heap.size,3,none⟩=some (.string ⟨#[]⟩):=by rw [hc,World.cell?_alloc_new];rfl
 have f0:=hf 0
 have f1:=hf 1
 have f2:=hf 2
 have f3:=hf 3
 have ht:=there4 (four_cells k0 k1 k2 k3) hf
 clear hc hf
 go_wp2
 refine bodyPost_ret (results_arr rfl _ _ w.heap.size _ _ rfl (range4 w2 w.heap.size _ _ _ _ ht) Tryz.underlying140 rfl info60) rfl ⟨rfl,?_⟩
 exact (((hbb.setCell (p:=⟨w.heap.size,0,none⟩) (Nat.le_refl _) _).setCell (p:=⟨w.heap.size,1,none⟩) (Nat.le_refl _) _).setCell (p:=⟨w.heap.size,2,none⟩) (Nat.le_refl _) _).setCell (p:=⟨w.heap.size,3,none⟩) (Nat.le_refl _) _
end
end Go.Proofs.YtmaefimaeelkbaaGreatDoor
