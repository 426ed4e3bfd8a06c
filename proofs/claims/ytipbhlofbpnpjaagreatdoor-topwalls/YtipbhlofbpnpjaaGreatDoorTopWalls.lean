/-
  Proved: for every plot, every number of levels, all walls and every two cells 'TopWalls' returns true and its arguments read afterwards as before. The listed variables (tables of strconv and math/bits, strconv's two errors, the tables of steps and of directions) read as the program's text lays them, which the given tie pays; no other condition. The tie speaks of the pruned copy of the project that the seat holds.
-/
import Derived.Test.YtipbhlofbpnpjaaGreatDoorTwaW
import Derived.Test.YtipbhlofbpnpjaaGreatDoorQ41
namespace Go.Proofs.YtipbhlofbpnpjaaGreatDoor
open Go.ChangeShapes Go.WideShapes Go.ChangeAt Go.RowKit Go.Joins
set_option maxRecDepth 100000 in
theorem topWalls_lifted (os:Os) (started:os.Started) (H:Type) (enc:TypeId × Value->H) :
  ReturnsInHanded {} Tryz.checked os 8 .any (fun w args=>(Rows.topWallsSpec.pre enc Tryz.prog Tryz.f8 [] false w args/\laidMetH Tryz.prog allLaid w)/\sizedMet enc Tryz.prog Tryz.f8 (OpenSpec.ofChange Rows.topWallsSpec) false w args)
   (Rows.topWallsSpec.post enc Tryz.prog Tryz.f8 false true false false):=by
 refine returnsInHanded_of_change_and (C:=Tryz.checked) (X:=fun w _=>laidMetH Tryz.prog allLaid w) (fun _ _ _ hh h=>h.of_heap hh) Tryz.own started (by kernel_rfl) Tryz.func8
  (ChangeSpec.witness_shaped (enc:=enc) (C:=Tryz.checked) (os:=os) (X:=fun w _=>laidMetH Tryz.prog allLaid w) false (World.doorLaid Tryz.prog 80 os) #[.agg #[.int .i64 0,.int .i64 0,.slice none 0 0],.int .i64 0,.slice none 0 0,.int .i64 0,.int .i64 0] 8 rfl (World.shaped_of_RefB (by kernel_rfl) (by kernel_rfl)) (by kernel_rfl) (by kernel_rfl) (by kernel_rfl) (law_met os _)) ?_
 intro W base args ds gs before hval0 hW _ _ hL _
 have hval:∀ (j:Nat) t v,Tryz.f8.params[j]? = some t->args[j]? = some v->Value.okWide Tryz.prog W .any base t v:=hval0
 have hW':=hW
 obtain ⟨p,q,hA0,hV,rfl,hfz,hnd⟩:=hW
 have hA:DataW.TrodAll enc Tryz.prog W 0 (fun _=>true) true Tryz.f8.params.toList args.toList ds p:=hA0
 rw [Tryz.params8] at hA hval
 obtain ⟨v0,vs0,d0,ds0,p0,q0,hargs,rfl,rfl,h0,r0⟩:=trodAll_cons hA
 obtain ⟨v1,vs1,d1,ds1,p1,q1,rfl,rfl,rfl,h1,r1⟩:=trodAll_cons r0
 obtain ⟨v2,vs2,d2,ds2,p2,q2,rfl,rfl,rfl,h2,r2⟩:=trodAll_cons r1
 obtain ⟨v3,vs3,d3,ds3,p3,q3,rfl,rfl,rfl,h3,r3⟩:=trodAll_cons r2
 obtain ⟨v4,vs4,d4,ds4,p4,q4,rfl,rfl,rfl,h4,r4⟩:=trodAll_cons r3
 obtain ⟨rfl,rfl,rfl⟩:=trodAll_nil r4
 obtain rfl:args=#[v0,v1,v2,v3,v4]:=by cases args;simp_all
 obtain ⟨rfl,rfl⟩:=trodVars_none hV
 have k0:=h0
 have lt0:∀ x ∈ p0,x.block < W.heap.size:=by obtain ⟨m,hm⟩:=k0;exact DataW.trod_lt m _ _ _ hm
 obtain ⟨c0,c1,c2,y0,y1,y2,m,rfl,hd,hp,hy0,hy1,hy2⟩:=open_agg3 Tryz.underlying24 (by kernel_rfl) Tryz.cells24 (hval 0 24 v0 rfl rfl) h0
 obtain ⟨a,e0,_,wa⟩:=DataW.trod_int Tryz.underlying3 hy0
 obtain ⟨b,e1,_,wb⟩:=DataW.trod_int Tryz.underlying3 hy1
 simp at e0 e1
 subst e0 e1
 obtain ⟨A,n,cap,xs,rfl,hm,hx⟩:=row_in hy2
 obtain ⟨i1,rfl,rfl,rfl,wi1⟩:=open_int Tryz.underlying3 (hval 1 3 v1 rfl rfl) h1
 have k2:=h2
 have lt2:∀ x ∈ p2,x.block < W.heap.size:=by obtain ⟨m,hm⟩:=k2;exact DataW.trod_lt m _ _ _ hm
 obtain ⟨Aq2,nq2,cq2,rfl⟩:=okWide_slice Tryz.underlying22 (hval 2 22 v2 rfl rfl)
 obtain ⟨mq2,hq2⟩:=h2
 obtain ⟨A2,n2,cap2,xs2,eq2,hm2,hx2⟩:=row_in (by simpa [Value.cells] using hq2)
 simp only [Value.slice.injEq] at eq2
 obtain ⟨rfl,rfl,rfl⟩:=eq2
 obtain ⟨i3,rfl,rfl,rfl,wi3⟩:=open_int Tryz.underlying3 (hval 3 3 v3 rfl rfl) h3
 obtain ⟨i4,rfl,rfl,rfl,wi4⟩:=open_int Tryz.underlying3 (hval 4 3 v4 rfl rfl) h4
 obtain ⟨E,s,dg⟩:=all_of hL
 clear hA0 hval0
 refine (topWalls_any a b i1 A n cap xs Aq2 nq2 cq2 xs2 i3 i4 W E s dg hm hx hx2).mono fun e W' ⟨he,hg⟩=>?_
 subst he
 exact ⟨_,rfl,_,_,_,[],_,[],hW',trodAll_mk1 (shut_bool Tryz.underlying4 _),(trodAll_cons_mk (Below.trod Tryz.laidOut (by kernel_rfl) (of_decide_eq_true (by kernel_rfl)) k0 hg lt0) (trodAll_cons_mk (shut_int Tryz.underlying3 wi1) (trodAll_cons_mk (Below.trod Tryz.laidOut (by kernel_rfl) (of_decide_eq_true (by kernel_rfl)) k2 hg lt2) (trodAll_cons_mk (shut_int Tryz.underlying3 wi3) (trodAll_cons_mk (shut_int Tryz.underlying3 wi4) trodAll_mk0))))),rfl,hg.frame _,fun h=>by cases h⟩
theorem topWalls_k0:(Rows.topWallsRow.wf (OpenSpec.ofChange Rows.topWallsSpec))=true:=by kernel_rfl
theorem topWalls_k1:(laidOutB Tryz.prog)=true:=by kernel_rfl
theorem topWalls_k2:(mapsRowed Tryz.prog)=true:=by kernel_rfl
theorem topWalls_k3:(Tryz.f8.params.all (Tryz.prog.readableRec ·))=true:=by kernel_rfl
theorem topWalls_k4:(namedTie Tryz.prog Rows.topWallsRow.named Rows.topWallsSpec.vars)=true:=by kernel_rfl
theorem topWalls_k5:((Rows.topWallsRow.stops == []))=true:=by kernel_rfl
theorem topWalls_k6:((Tryz.prog.stops == []))=true:=by kernel_rfl
theorem topWalls_k7:((Rows.topWallsRow.knobs == []))=true:=by kernel_rfl
theorem topWalls_k8:((Tryz.prog.stopKnobs == []))=true:=by kernel_rfl
theorem topWalls_k9:((Rows.topWallsRow.inPlace == Tryz.prog.inPlace 8))=true:=by kernel_rfl
theorem topWalls_k10:((Rows.topWallsRow.unfollowed == Tryz.prog.unfollowed 8))=true:=by kernel_rfl
theorem topWalls_k11:((Rows.topWallsRow.recurses == Tryz.prog.recurses 8))=true:=by kernel_rfl
theorem topWalls_k12:((Rows.topWallsRow.named == Tryz.prog.varsNamed 8))=true:=by kernel_rfl
theorem topWalls_k13:((Rows.topWallsRow.maps == (Tryz.f8.params.toList++Rows.topWallsSpec.plain.varTypes Tryz.prog).any (Tryz.prog.mapsRec ·)))=true:=by kernel_rfl
theorem topWalls_k14:((Rows.topWallsRow.ifaces == (Tryz.f8.params.toList++Rows.topWallsSpec.plain.varTypes Tryz.prog).any (Tryz.prog.ifacesRec ·)))=true:=by kernel_rfl
theorem topWalls_k15:((Rows.topWallsRow.mapsOut == Tryz.prog.mapsAmong Tryz.f8.resultTypes.toList))=true:=by kernel_rfl
theorem topWalls_k16:((Rows.topWallsRow.loops == (Tryz.f8.params.toList++Rows.topWallsSpec.plain.varTypes Tryz.prog).any (Tryz.prog.loopsFrom ·)))=true:=by kernel_rfl
theorem topWalls_k17:((Rows.topWallsRow.wideKeys == (Tryz.f8.params.toList++Rows.topWallsSpec.plain.varTypes Tryz.prog++Tryz.f8.resultTypes.toList).any (Tryz.prog.wideKeysFrom ·)))=true:=by kernel_rfl
theorem topWalls_k18:(Rows.topWallsSpec.vars.all (Tryz.prog.varReadable ·))=true:=by kernel_rfl
theorem topWalls_k19:(Tryz.f8.resultTypes.all (fun t=>Tryz.prog.readableRec t&&decide (t < Tryz.prog.types.size)))=true:=by kernel_rfl
theorem topWalls_k20:((Rows.topWallsRow.ifacesOut == Tryz.f8.resultTypes.toList.any (Tryz.prog.ifacesRec ·)))=true:=by kernel_rfl
theorem topWalls_k21:((Rows.topWallsRow.loopsOut == Tryz.f8.resultTypes.toList.any (Tryz.prog.loopsFrom ·)))=true:=by kernel_rfl
theorem topWalls_k22:((Rows.topWallsRow.plainKeys == Tryz.prog.plainKeys))=true:=by kernel_rfl
theorem topWalls_k23:(Rows.topWallsRow.shortTexts.isNone)=true:=by kernel_rfl
theorem topWalls_k24:(Tryz.prog.stopsHeard)=true:=by kernel_rfl
theorem topWalls_k25:(Tryz.prog.mayEnter)=true:=by kernel_rfl
theorem topWalls_k26:((Rows.topWallsRow.lifted == Tryz.prog.liftsFinal))=true:=by kernel_rfl
theorem topWalls_k27:((Tryz.prog.make == some Rows.topWallsRow.make))=true:=by kernel_rfl
theorem topWalls_k29:((Rows.topWallsRow.pinned == Rows.topWallsRow.pinnedBy))=true:=by kernel_rfl
theorem topWalls_k30:((Rows.topWallsRow.veiled == (Tryz.f8.params.toList++Rows.topWallsSpec.plain.varTypes Tryz.prog++Tryz.f8.resultTypes.toList).any (Tryz.prog.veiledRec ·)))=true:=by kernel_rfl
theorem topWalls_k31:(Rows.topWallsRow.veiledFits Tryz.prog Tryz.f8.params.toList (Tryz.f8.params.toList++Rows.topWallsSpec.plain.varTypes Tryz.prog++Tryz.f8.resultTypes.toList))=true:=by kernel_rfl
set_option maxRecDepth 100000 in
theorem topWalls_facts:joinedFacts Tryz.prog 8 Tryz.f8 Rows.topWallsSpec Rows.topWallsRow=true:=by
 unfold joinedFacts
 simp only [Bool.and_eq_true]
 exact ⟨⟨⟨⟨⟨⟨⟨⟨⟨⟨⟨⟨⟨⟨⟨⟨⟨⟨⟨⟨⟨⟨⟨⟨⟨⟨⟨⟨⟨⟨⟨topWalls_k0,topWalls_k1⟩,topWalls_k2⟩,topWalls_k3⟩,topWalls_k4⟩,topWalls_k5⟩,topWalls_k6⟩,topWalls_k7⟩,topWalls_k8⟩,topWalls_k9⟩,topWalls_k10⟩,topWalls_k11⟩,topWalls_k12⟩,topWalls_k13⟩,topWalls_k14⟩,topWalls_k15⟩,topWalls_k16⟩,topWalls_k17⟩,topWalls_k18⟩,topWalls_k19⟩,topWalls_k20⟩,topWalls_k21⟩,topWalls_k22⟩,topWalls_k23⟩,topWalls_k24⟩,topWalls_k25⟩,topWalls_k26⟩,topWalls_k27⟩,by kernel_rfl⟩,topWalls_k29⟩,topWalls_k30⟩,topWalls_k31⟩
theorem topWalls_fn:Tryz.prog.funcNamed Rows.topWallsRow.func=some 8:=by kernel_rfl
theorem topWalls_row:Rows.TopWallsSaid :=
 OpenClaim.holds_of_wide 8 Tryz.f8 rfl rfl rfl rfl rfl rfl rfl ⟨rfl,rfl,rfl,rfl,rfl⟩ rfl rfl rfl rfl rfl topWalls_fn Tryz.func8 topWalls_facts
  (of_decide_eq_true (by kernel_rfl)) (by unfold Func.isWrapper;first | (rw [if_pos (by decide +kernel)];kernel_rfl) | (rw [if_neg (by decide +kernel)];exact ⟨rfl,rfl⟩))
  (fun os started H enc _=>topWalls_lifted os started H enc)
theorem topWalls_holds:Rows.TopWallsCardSaid :=
 Claim7.holds_tied_plain_at .later [] [.data, .data, .data, .sentinel, .sentinel, .data, .data] true (true, "32ac046ada643940db23b7e471f9ecfa1de6b5ab47678be6288bf1eea9e556e3") true
  topWalls_row (fun _ h=>by cases h) (by kernel_rfl) (fun _ h=>by cases h) topWalls_row_tie rfl ⟨rfl,rfl⟩ (by kernel_rfl) rfl
  (fun f fn hf hfn=>by
   obtain rfl : f = 8 := Option.some.inj ((show Tryz.prog.funcNamed "fellrunner/fellrunnertop.TopWalls" = some 8 by kernel_rfl).symm.trans hf) |>.symm
   obtain rfl:fn=Tryz.f8:=(Option.some.inj (Tryz.func8.symm.trans hfn)).symm
   exact ⟨by kernel_rfl,fun j t ht=>by
    rw [Tryz.params8] at ht
    have hm:t ∈ [24,3,22,3,3]:=by simpa using Array.mem_of_getElem? ht
    have hall:([24,3,22,3,3].all fun u=>!Tryz.prog.wantsStandIn u)=true:=by kernel_rfl
    exact (show Tryz.prog.wantsStandIn t=false by simpa using List.all_eq_true.1 hall t hm)⟩)
  (by kernel_rfl)
#print axioms topWalls_holds
end Go.Proofs.YtipbhlofbpnpjaaGreatDoor
