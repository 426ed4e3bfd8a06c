/-
  Proved: for every plot, every number of levels and every cell 'TopIsland' returns true and its arguments read afterwards as before. The listed variables (tables of strconv and math/bits, strconv's two errors, the tables of steps and of directions) read as the program's text lays them, which the given tie pays; no other condition. The tie speaks of the pruned copy of the project that the seat holds.
-/
import Derived.Test.YtipbhlofbpnpjaaGreatDoorTisW
import Derived.Test.YtipbhlofbpnpjaaGreatDoorP24
namespace Go.Proofs.YtipbhlofbpnpjaaGreatDoor
open Go.ChangeShapes Go.WideShapes Go.ChangeAt Go.RowKit Go.Joins
set_option maxRecDepth 100000 in
theorem topIsland_lifted (os:Os)(started:os.Started)(H:Type)(enc:TypeId × Value->H) :
  ReturnsInHanded {} Tryz.checked os 13 .any (fun w args=>(Rows.topIslandSpec.pre enc Tryz.prog Tryz.f13 [] false w args/\laidMetH Tryz.prog allLaid w)/\sizedMet enc Tryz.prog Tryz.f13 (OpenSpec.ofChange Rows.topIslandSpec) false w args)
   (Rows.topIslandSpec.post enc Tryz.prog Tryz.f13 false true false false):=by
 refine returnsInHanded_of_change_and (C:=Tryz.checked) (X:=fun w _=>laidMetH Tryz.prog allLaid w) (fun _ _ _ hh h=>h.of_heap hh) Tryz.own started (by kernel_rfl) Tryz.func13
  (ChangeSpec.witness_shaped (enc:=enc) (C:=Tryz.checked) (os:=os) (X:=fun w _=>laidMetH Tryz.prog allLaid w) false (World.doorLaid Tryz.prog 80 os) #[.agg #[.int .i64 0,.int .i64 0,.slice none 0 0],.int .i64 0,.int .i64 0] 8 rfl (World.shaped_of_RefB (by kernel_rfl) (by kernel_rfl)) (by kernel_rfl) (by kernel_rfl) (by kernel_rfl) (law_met os _)) ?_
 intro W base args ds gs before hval0 hW _ _ hL _
 have hval:∀ (j:Nat) t v,Tryz.f13.params[j]? = some t->args[j]? = some v->Value.okWide Tryz.prog W .any base t v:=hval0
 have hW':=hW
 obtain ⟨p,q,hA0,hV,rfl,hfz,hnd⟩:=hW
 have hA:DataW.TrodAll enc Tryz.prog W 0 (fun _=>true) true Tryz.f13.params.toList args.toList ds p:=hA0
 rw [Tryz.params13] at hA hval
 obtain ⟨v0,vs0,d0,ds0,p0,q0,hargs,rfl,rfl,h0,r0⟩:=trodAll_cons hA
 obtain ⟨v1,vs1,d1,ds1,p1,q1,rfl,rfl,rfl,h1,r1⟩:=trodAll_cons r0
 obtain ⟨v2,vs2,d2,ds2,p2,q2,rfl,rfl,rfl,h2,r2⟩:=trodAll_cons r1
 obtain ⟨rfl,rfl,rfl⟩:=trodAll_nil r2
 obtain rfl:args=#[v0,v1,v2]:=by cases args;simp_all
 obtain ⟨rfl,rfl⟩:=trodVars_none hV
 have k0:=h0
 have lt0:∀ x ∈ p0,x.block<W.heap.size:=by obtain ⟨m,hm⟩:=k0;exact DataW.trod_lt m _ _ _ hm
 obtain ⟨c0,c1,c2,y0,y1,y2,m,rfl,hd,hp,hy0,hy1,hy2⟩:=open_agg3 Tryz.underlying24 (by kernel_rfl) Tryz.cells24 (hval 0 24 v0 rfl rfl) h0
 obtain ⟨a,e0,_,wa⟩:=DataW.trod_int Tryz.underlying3 hy0
 obtain ⟨b,e1,_,wb⟩:=DataW.trod_int Tryz.underlying3 hy1
 simp at e0 e1
 subst e0 e1
 obtain ⟨A,n,cap,xs,rfl,hm,hx⟩:=row_in hy2
 obtain ⟨i1,rfl,rfl,rfl,wi1⟩:=open_int Tryz.underlying3 (hval 1 3 v1 rfl rfl) h1
 obtain ⟨i2,rfl,rfl,rfl,wi2⟩:=open_int Tryz.underlying3 (hval 2 3 v2 rfl rfl) h2
 obtain ⟨E,s,dg⟩:=all_of hL
 clear hA0 hval0
 refine (topIsland_any a b i1 A n cap xs i2 W E s dg hm hx).mono fun e W' ⟨he,hg⟩=>?_
 subst he
 exact ⟨_,rfl,_,_,_,[],_,[],hW',trodAll_mk1 (shut_bool Tryz.underlying4 _),(trodAll_cons_mk (Below.trod Tryz.laidOut (by kernel_rfl) (of_decide_eq_true (by kernel_rfl)) k0 hg lt0) (trodAll_cons_mk (shut_int Tryz.underlying3 wi1) (trodAll_cons_mk (shut_int Tryz.underlying3 wi2) trodAll_mk0))),rfl,hg.frame _,fun h=>by cases h⟩
theorem topIsland_k0:(Rows.topIslandRow.wf (OpenSpec.ofChange Rows.topIslandSpec))=true:=by kernel_rfl
theorem topIsland_k1:(laidOutB Tryz.prog)=true:=by kernel_rfl
theorem topIsland_k2:(mapsRowed Tryz.prog)=true:=by kernel_rfl
theorem topIsland_k3:(Tryz.f13.params.all (Tryz.prog.readableRec ·))=true:=by kernel_rfl
theorem topIsland_k4:(namedTie Tryz.prog Rows.topIslandRow.named Rows.topIslandSpec.vars)=true:=by kernel_rfl
theorem topIsland_k5:((Rows.topIslandRow.stops == []))=true:=by kernel_rfl
theorem topIsland_k6:((Tryz.prog.stops == []))=true:=by kernel_rfl
theorem topIsland_k7:((Rows.topIslandRow.knobs == []))=true:=by kernel_rfl
theorem topIsland_k8:((Tryz.prog.stopKnobs == []))=true:=by kernel_rfl
theorem topIsland_k9:((Rows.topIslandRow.inPlace == Tryz.prog.inPlace 13))=true:=by kernel_rfl
theorem topIsland_k10:((Rows.topIslandRow.unfollowed == Tryz.prog.unfollowed 13))=true:=by kernel_rfl
theorem topIsland_k11:((Rows.topIslandRow.recurses == Tryz.prog.recurses 13))=true:=by kernel_rfl
theorem topIsland_k12:((Rows.topIslandRow.named == Tryz.prog.varsNamed 13))=true:=by kernel_rfl
theorem topIsland_k13:((Rows.topIslandRow.maps == (Tryz.f13.params.toList++Rows.topIslandSpec.plain.varTypes Tryz.prog).any (Tryz.prog.mapsRec ·)))=true:=by kernel_rfl
theorem topIsland_k14:((Rows.topIslandRow.ifaces == (Tryz.f13.params.toList++Rows.topIslandSpec.plain.varTypes Tryz.prog).any (Tryz.prog.ifacesRec ·)))=true:=by kernel_rfl
theorem topIsland_k15:((Rows.topIslandRow.mapsOut == Tryz.prog.mapsAmong Tryz.f13.resultTypes.toList))=true:=by kernel_rfl
theorem topIsland_k16:((Rows.topIslandRow.loops == (Tryz.f13.params.toList++Rows.topIslandSpec.plain.varTypes Tryz.prog).any (Tryz.prog.loopsFrom ·)))=true:=by kernel_rfl
theorem topIsland_k17:((Rows.topIslandRow.wideKeys == (Tryz.f13.params.toList++Rows.topIslandSpec.plain.varTypes Tryz.prog++Tryz.f13.resultTypes.toList).any (Tryz.prog.wideKeysFrom ·)))=true:=by kernel_rfl
theorem topIsland_k18:(Rows.topIslandSpec.vars.all (Tryz.prog.varReadable ·))=true:=by kernel_rfl
theorem topIsland_k19:(Tryz.f13.resultTypes.all (fun t=>Tryz.prog.readableRec t&&decide (t<Tryz.prog.types.size)))=true:=by kernel_rfl
theorem topIsland_k20:((Rows.topIslandRow.ifacesOut == Tryz.f13.resultTypes.toList.any (Tryz.prog.ifacesRec ·)))=true:=by kernel_rfl
theorem topIsland_k21:((Rows.topIslandRow.loopsOut == Tryz.f13.resultTypes.toList.any (Tryz.prog.loopsFrom ·)))=true:=by kernel_rfl
theorem topIsland_k22:((Rows.topIslandRow.plainKeys == Tryz.prog.plainKeys))=true:=by kernel_rfl
theorem topIsland_k23:(Rows.topIslandRow.shortTexts.isNone)=true:=by kernel_rfl
theorem topIsland_k24:(Tryz.prog.stopsHeard)=true:=by kernel_rfl
theorem topIsland_k25:(Tryz.prog.mayEnter)=true:=by kernel_rfl
theorem topIsland_k26:((Rows.topIslandRow.lifted == Tryz.prog.liftsFinal))=true:=by kernel_rfl
theorem topIsland_k27:((Tryz.prog.make == some Rows.topIslandRow.make))=true:=by kernel_rfl
theorem topIsland_k29:((Rows.topIslandRow.pinned == Rows.topIslandRow.pinnedBy))=true:=by kernel_rfl
theorem topIsland_k30:((Rows.topIslandRow.veiled == (Tryz.f13.params.toList++Rows.topIslandSpec.plain.varTypes Tryz.prog++Tryz.f13.resultTypes.toList).any (Tryz.prog.veiledRec ·)))=true:=by kernel_rfl
theorem topIsland_k31:(Rows.topIslandRow.veiledFits Tryz.prog Tryz.f13.params.toList (Tryz.f13.params.toList++Rows.topIslandSpec.plain.varTypes Tryz.prog++Tryz.f13.resultTypes.toList))=true:=by kernel_rfl
set_option maxRecDepth 100000 in
theorem topIsland_facts:joinedFacts Tryz.prog 13 Tryz.f13 Rows.topIslandSpec Rows.topIslandRow=true:=by
 unfold joinedFacts
 simp only [Bool.and_eq_true]
 exact ⟨⟨⟨⟨⟨⟨⟨⟨⟨⟨⟨⟨⟨⟨⟨⟨⟨⟨⟨⟨⟨⟨⟨⟨⟨⟨⟨⟨⟨⟨⟨topIsland_k0,topIsland_k1⟩,topIsland_k2⟩,topIsland_k3⟩,topIsland_k4⟩,topIsland_k5⟩,topIsland_k6⟩,topIsland_k7⟩,topIsland_k8⟩,topIsland_k9⟩,topIsland_k10⟩,topIsland_k11⟩,topIsland_k12⟩,topIsland_k13⟩,topIsland_k14⟩,topIsland_k15⟩,topIsland_k16⟩,topIsland_k17⟩,topIsland_k18⟩,topIsland_k19⟩,topIsland_k20⟩,topIsland_k21⟩,topIsland_k22⟩,topIsland_k23⟩,topIsland_k24⟩,topIsland_k25⟩,topIsland_k26⟩,topIsland_k27⟩,by kernel_rfl⟩,topIsland_k29⟩,topIsland_k30⟩,topIsland_k31⟩
theorem topIsland_fn:Tryz.prog.funcNamed Rows.topIslandRow.func=some 13:=by kernel_rfl
theorem topIsland_row:Rows.TopIslandSaid :=
 OpenClaim.holds_of_wide 13 Tryz.f13 rfl rfl rfl rfl rfl rfl rfl ⟨rfl,rfl,rfl,rfl,rfl⟩ rfl rfl rfl rfl rfl topIsland_fn Tryz.func13 topIsland_facts
  (of_decide_eq_true (by kernel_rfl)) (by unfold Func.isWrapper;first|(rw [if_pos (by decide +kernel)];kernel_rfl)|(rw [if_neg (by decide +kernel)];exact ⟨rfl,rfl⟩))
  (fun os started H enc _=>topIsland_lifted os started H enc)
theorem topIsland_holds:Rows.TopIslandCardSaid :=
 Claim7.holds_tied_plain_at .later [] [.data, .data, .data, .sentinel, .sentinel, .data, .data] true (true, "32ac046ada643940db23b7e471f9ecfa1de6b5ab47678be6288bf1eea9e556e3") true
  topIsland_row (fun _ h=>by cases h) (by kernel_rfl) (fun _ h=>by cases h) topIsland_row_tie rfl ⟨rfl,rfl⟩ (by kernel_rfl) rfl
  (fun f fn hf hfn=>by
   obtain rfl : f = 13 := Option.some.inj ((show Tryz.prog.funcNamed "fellrunner/fellrunnertop.TopIsland" = some 13 by kernel_rfl).symm.trans hf) |>.symm
   obtain rfl:fn=Tryz.f13:=(Option.some.inj (Tryz.func13.symm.trans hfn)).symm
   exact ⟨by kernel_rfl,fun j t ht=>by
    rw [Tryz.params13] at ht
    have hm:t ∈ [24,3,3]:=by simpa using Array.mem_of_getElem? ht
    have hall:([24,3,3].all fun u=>!Tryz.prog.wantsStandIn u)=true:=by kernel_rfl
    exact (show Tryz.prog.wantsStandIn t=false by simpa using List.all_eq_true.1 hall t hm)⟩)
  (by kernel_rfl)
#print axioms topIsland_holds
end Go.Proofs.YtipbhlofbpnpjaaGreatDoor
