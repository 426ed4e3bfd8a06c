/-
  Texts laid together: EnvOf, Fr, Nv8, AddM.
-/
import Derived.Test.YtipbhlofbpnpjaaGreatDoorQ36
import Derived.Test.YtipbhlofbpnpjaaGreatDoorQ9
import Derived.Test.YtipbhlofbpnpjaaGreatDoorQ40
import Derived.Test.YtipbhlofbpnpjaaGreatDoorQ27
import Derived.Test.YtipbhlofbpnpjaaGreatDoorRows
import Derived.ProofKit
import Derived.LaidMore
import Derived.OpenShut
import Derived.Stop.Joined
import Derived.Stop.LaidErr
import Derived.Lib.LaidTab
import Derived.Test.YtipbhlofbpnpjaaGreatDoorTie
import Derived.Test.YtipbhlofbpnpjaaGreatDoorCards
import Derived.ChangeMaps5
import Derived.SevenTiedAt
import Derived.Lib.SmallJoins
import Derived.Deep.Slices
namespace Go.Proofs.YtipbhlofbpnpjaaGreatDoor
section
open Go.ChangeShapes Go.WideShapes Go.ChangeAt Go.RowKit
theorem gSyn : Tryz.prog.globalNamed "strconv.ErrSyntax" = some 3 := by kernel_rfl
theorem gSynT:(Tryz.prog.globals[3]?).map (·.type)=some 46:=by kernel_rfl
theorem gRng : Tryz.prog.globalNamed "strconv.ErrRange" = some 4 := by kernel_rfl
theorem gRngT:(Tryz.prog.globals[4]?).map (·.type)=some 46:=by kernel_rfl
theorem gPowT:(Tryz.prog.globals[5]?).map (·.type)=some 308:=by kernel_rfl
theorem gBru : Tryz.prog.globalNamed "math/bits.deBruijn64tab" = some 7 := by kernel_rfl
theorem star : "*" ++ "errors.errorString" = "*errors.errorString" := by decide
theorem row137 (u : TypeId) (h : Tryz.prog.typeName? 3 u = some "*errors.errorString") : u = 304 :=
 typeName_ptr_named (nm := "errors.errorString") (by rw [star]; kernel_rfl) (by kernel_rfl) (by decide) u (by rw [star]; exact h)
theorem cells139:Tryz.prog.cellsOf 306=1:=by kernel_rfl
theorem cells9':Tryz.prog.cellsOf 9=1:=by kernel_rfl
theorem cells129:Tryz.prog.cellsOf 308=20:=by kernel_rfl
theorem pow_tab:(Rows.laid_internal_strconv_uint64pow10:DataW Unit)=Lib.tabData .u64 Lib.pow10Tab:=by kernel_rfl
theorem lt_of_var {W:World}{n:String}{g:Nat}{cs:Array Value}(hg:Tryz.prog.globalNamed n=some g) (hv:W.var? Tryz.prog n=some cs):g < W.heap.size:=by
 rcases Nat.lt_or_ge g W.heap.size with h | h
 ·exact h
 ·exfalso
  unfold World.var? at hv
  simp [hg,Array.getElem?_eq_none h] at hv
theorem env_of {W : World} {r : List (String × DataW Unit)} (h : laidMet Tryz.prog (("math/bits.deBruijn32tab", Rows.laid_math_bits_deBruijn32tab) :: ("math/bits.deBruijn64tab", Rows.laid_math_bits_deBruijn64tab) :: ("internal/strconv.uint64pow10", Rows.laid_internal_strconv_uint64pow10) :: ("strconv.ErrRange", Rows.laid_strconv_ErrRange) :: ("strconv.ErrSyntax", Rows.laid_strconv_ErrSyntax) :: r) W) : Env W := by
 have h2:=h.tail
 have h3:=h2.tail
 have h4:=h3.tail
 have h5:=h4.tail
 have hz:7 < W.heap.size:=by
  obtain ⟨ps,⟨g0,t0,cs0,f0,p0,q0,hg0,ht0,hv0,hd0,_,_⟩,_,_⟩:=h2
  exact lt_of_var gBru hv0
 rw [pow_tab] at h3
 have ht:=Lib.tabIs_of_head gPow gPowT Tryz.underlying308 Tryz.underlying276 (by kernel_rfl) cells129 h3
 obtain ⟨a0,s0,hv0,-,-,-⟩:=laid_sentinel (ti:=46) (tp:=304) (te:=306) (ts:=9) h4 gRng gRngT Tryz.underlying46 row137 Tryz.underlying304 Tryz.underlying306 rfl rfl Tryz.underlying9 cells139 cells9'
 obtain ⟨a1,s1,hv1,-,-,-⟩:=laid_sentinel (ti:=46) (tp:=304) (te:=306) (ts:=9) h5 gSyn gSynT Tryz.underlying46 row137 Tryz.underlying304 Tryz.underlying306 rfl rfl Tryz.underlying9 cells139 cells9'
 exact ⟨⟨_,_,by have h0:=World.var?_cell gSyn hv1 0;simpa using h0⟩,⟨_,_,by have h0:=World.var?_cell gRng hv0 0;simpa using h0⟩,ht,hz⟩
end
section
open Go.ChangeShapes Go.WideShapes Go.ChangeAt Go.RowKit Go.Joins
theorem Tryz.own:ownKnob Tryz.prog.godebug=none:=by kernel_rfl
theorem Tryz.laidOut:laidOutB Tryz.prog=true:=by kernel_rfl
theorem Tryz.cells24:Tryz.prog.cellsOf 24=3:=by kernel_rfl
theorem gSteps : Tryz.prog.globalNamed "fellrunner/grid.steps" = some 1 := by kernel_rfl
theorem tSteps:(Tryz.prog.globals[1]?).map (·.type)=some 253:=by kernel_rfl
theorem c252:Tryz.prog.cellsOf 252=2:=by kernel_rfl
theorem c3':Tryz.prog.cellsOf 3=1:=by kernel_rfl
theorem gDiag : Tryz.prog.globalNamed "fellrunner/reach.diagonalFirst" = some 0 := by kernel_rfl
theorem tDiag:(Tryz.prog.globals[0]?).map (·.type)=some 179:=by kernel_rfl
theorem c179:Tryz.prog.cellsOf 179=8:=by kernel_rfl
theorem lt_of_cell {w:World}{b o:Nat}{v:Value}(h:w.cell? ⟨b,o,none⟩=some v):b < w.heap.size:=World.block_lt_of_cell? w _ h
theorem steps_of {W : World} {r : List (String × DataW Unit)} (h : laidMet Tryz.prog (("fellrunner/grid.steps", Rows.laid_fellrunner_grid_steps) :: r) W) : StepsAt W := by
 obtain ⟨ps,⟨g0,t0,cs0,f0,p0,q0,hg0,ht0,hv0,hd0,_,_⟩,_,_⟩:=h
 obtain rfl:=Option.some.inj (gSteps.symm.trans hg0)
 obtain rfl:=Option.some.inj (tSteps.symm.trans ht0)
 obtain ⟨xs,m,_,hx1,hlen,hn,hel⟩:=DataW.trod_array Tryz.underlying253 hd0
 simp only [Prod.mk.injEq] at hx1
 have hxa:=hx1.1
 have key:∀ i,i < 8->cs0.toList[2*i]? = some (.int .i64 (stepX i))/\cs0.toList[2*i+1]? = some (.int .i64 (stepY i)):=by
  intro i hi
  have h1:=hel i hi
  rw [c252] at h1
  have hxi:∃ p,xs[i]? = some (Lib.tabData .i64 [stepX i,stepY i],p):=by
   have hlt:i < xs.length:=by omega
   refine ⟨xs[i].2,?_⟩
   rw [List.getElem?_eq_getElem hlt]
   have e2:(xs.map (·.1))[i]? = some xs[i].1:=by rw [List.getElem?_map,List.getElem?_eq_getElem hlt];rfl
   simp only [Rows.laid_fellrunner_grid_steps,DataW.agg.injEq] at hxa
   rw [<- hxa] at e2
   have hks:i=0\/i=1\/i=2\/i=3\/i=4\/i=5\/i=6\/i=7:=by omega
   rcases hks with rfl | rfl | rfl | rfl | rfl | rfl | rfl | rfl <;>
    (simp at e2;exact congrArg some (Prod.ext e2.symm rfl))
  obtain ⟨p,hp⟩:=hxi
  rw [hp] at h1
  have h2:=Lib.cells_of_tab Tryz.underlying252 Tryz.underlying3 c3' c252 h1
  have a0:((cs0.toList.drop (i*2)).take 2)[0]? = cs0.toList[2*i]? := by
   rw [List.getElem?_take_of_lt (by decide),List.getElem?_drop];congr 1;omega
  have a1:((cs0.toList.drop (i*2)).take 2)[1]? = cs0.toList[2*i+1]? := by
   rw [List.getElem?_take_of_lt (by decide),List.getElem?_drop];congr 1;omega
  rw [h2] at a0 a1
  exact ⟨a0.symm,a1.symm⟩
 have cell:∀ i,W.cell? ⟨1,i,none⟩=cs0.toList[i]? := fun i=>by
  have:=World.var?_cell hg0 hv0 i
  rw [this];simp
 exact fun i hi=>⟨by rw [cell];exact (key i hi).1,by rw [cell];exact (key i hi).2⟩
theorem diag_of {W : World} {r : List (String × DataW Unit)} (h : laidMet Tryz.prog (("fellrunner/reach.diagonalFirst", Rows.laid_fellrunner_reach_diagonalFirst) :: r) W) : DiagAt W := by
 obtain ⟨ps,⟨g0,t0,cs0,f0,p0,q0,hg0,ht0,hv0,hd0,_,_⟩,_,_⟩:=h
 obtain rfl:=Option.some.inj (gDiag.symm.trans hg0)
 obtain rfl:=Option.some.inj (tDiag.symm.trans ht0)
 have hd1:DataW.trod (fun _=>()) Tryz.prog W 0 (fun _=>true) false f0 179 cs0.toList=some (Lib.tabData .i64 [1,3,5,7,0,2,4,6],p0):=hd0
 have h2:=Lib.cells_of_tab Tryz.underlying179 Tryz.underlying3 c3' c179 hd1
 intro i hi
 have:=World.var?_cell hg0 hv0 i
 rw [this]
 have e:cs0[i]? = cs0.toList[i]? := by simp
 rw [e,h2]
 have hks:i=0\/i=1\/i=2\/i=3\/i=4\/i=5\/i=6\/i=7:=by omega
 rcases hks with rfl | rfl | rfl | rfl | rfl | rfl | rfl | rfl <;> rfl
abbrev allLaid : List (String × DataW Unit) := [("math/bits.deBruijn32tab", Rows.laid_math_bits_deBruijn32tab), ("math/bits.deBruijn64tab", Rows.laid_math_bits_deBruijn64tab), ("internal/strconv.uint64pow10", Rows.laid_internal_strconv_uint64pow10), ("strconv.ErrRange", Rows.laid_strconv_ErrRange), ("strconv.ErrSyntax", Rows.laid_strconv_ErrSyntax), ("fellrunner/grid.steps", Rows.laid_fellrunner_grid_steps), ("fellrunner/reach.diagonalFirst", Rows.laid_fellrunner_reach_diagonalFirst)]
theorem all_of {W:World}(h:laidMetH Tryz.prog allLaid W):Env W/\StepsAt W/\DiagAt W:=by
 rw [MakeChecks.laidMetH_plain _ _ _ (by kernel_rfl)] at h
 have h5:=h.tail.tail.tail.tail.tail
 exact ⟨env_of h,steps_of h5,diag_of h5.tail⟩
theorem law_met (os:Os) (args:Array Value):laidMetH Tryz.prog allLaid ((World.doorLaid Tryz.prog 80 os).forCall (fun _ _=>0) ⟨#[],args,[]⟩).memory :=
 laidMetH_of_parts3 (fuel:=8) (laidMet_of_run' 8 (by kernel_rfl) (by kernel_rfl)) (by kernel_rfl) (by kernel_rfl)
theorem row_in {H:Type}{enc:TypeId × Value->H}{W:World}{sp:Nat->Bool}{held:Bool}{fuel:Nat}{c:Value}{x:DataW H × List MemPlace}(h:DataW.trod enc Tryz.prog W 0 sp held fuel 22 [c]=some x) :
  ∃ A n cap xs,c=.slice A n cap/\n<=maxLen/\OldRow W A n xs:=by
 rcases open_ints Tryz.underlying22 Tryz.underlying3 (by kernel_rfl) h with ⟨hcs,_⟩ | ⟨a,l,cap,zs,hcs,_,hl,hm,hz,_,hcell,_⟩
 ·simp at hcs
  exact ⟨none,0,0,fun _=>0,hcs,by unfold maxLen;omega,fun i hi=>absurd hi (Nat.not_lt_zero i)⟩
 ·simp at hcs
  refine ⟨some a,l,cap,fun i=>zs.getD i 0,hcs,Nat.le_trans hl hm,fun i hi=>?_⟩
  have hzl:i < zs.length:=by rw [hz];split <;> omega
  obtain ⟨b,off,rfl,hc⟩:=ints_at hcell (by omega)
  exact ⟨b,off,rfl,lt_of_cell (hc i hzl),hc i hzl⟩
def OldEd (w:World) (A:Option Addr) (n:Nat) (cs:Nat->Int) (bs:Nat->Bool):Prop:=∀ i,i < n->∃ b o,A=some ⟨b,o,none⟩/\b < w.heap.size/\w.cell? ⟨b,o+i*2,none⟩=some (.int .i64 (cs i))/\w.cell? ⟨b,o+i*2+1,none⟩=some (.bool (bs i))
theorem OldEd.below {w w':World}{A:Option Addr}{n:Nat}{cs:Nat->Int}{bs:Nat->Bool}(h:OldEd w A n cs bs) (hb:Below w.heap.size w w'):OldEd w' A n cs bs:=fun i hi=>by
 obtain ⟨b,o,h1,h2,h3,h4⟩:=h i hi
 exact ⟨b,o,h1,Nat.lt_of_lt_of_le h2 hb.size,(hb.cell (p:=⟨b,o+i*2,none⟩) h2).trans h3,(hb.cell (p:=⟨b,o+i*2+1,none⟩) h2).trans h4⟩
section
variable {H : Type} {enc : TypeId × Value → H} {W : World} {sp : Nat → Bool} {held : Bool}
end
end
section
open Go.RowKit Go.Lib
theorem ask_rt {lo hi sb most:Nat}{W H V:Int}{bl:Nat->Bool}(a t:Int) (w:World) (S:Sv w lo hi sb W H V bl most) (d:DiagAt w) :
  Calls Tryz.prog 18 #[.pointer (some ⟨sb,0,none⟩),.int .i64 a,.int .i64 t] w fun e w'=>∃ A cap way s d err,e=.returned (.agg #[.slice A way.length cap,.int .i64 s,.int .i64 d,.int .i64 err])/\w'.ownsRow w.heap.size 3 1 (.slice A way.length cap) way.length (vals way)/\OldRow w' A way.length (fun i=>((way.getD i 0:Nat):Int))/\AnsR W H bl most a t way s d err/\Rt W H bl a t way s d err/\Below w.heap.size w w':=by
 obtain ⟨w1,w2,h1,h2⟩:=S.side
 obtain ⟨m1,m6⟩:=S.mst
 refine (ask_any a t w S d).mono ?_
 rintro e w' ⟨v,way,s,dd,err,rfl,ho,hA,hb⟩
 obtain ⟨A,cap,rfl,hold,_⟩:=oldRow_of ho
 exact ⟨A,cap,way,s,dd,err,rfl,ho,hold,hA,hA.right w w1 w2 h1 h2 m1 m6,hb⟩
theorem Rt.okC {W H:Int}{bl:Nat->Bool}{a t s d err:Int}{way:List Nat}(h:Rt W H bl a t way s d err):okC s d:=by
 have:=h.bd
 unfold Go.Proofs.YtipbhlofbpnpjaaGreatDoor.okC
 omega
end
section
end
end Go.Proofs.YtipbhlofbpnpjaaGreatDoor
