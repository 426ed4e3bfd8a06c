/-
  Proved: for every plot, every number of levels, every two cells and every wall 'TopDetour' returns true and its arguments read afterwards as before. The listed variables (tables of strconv and math/bits, strconv's two errors, the tables of steps and of directions) read as the program's text lays them, which the given tie pays; no other condition. The tie speaks of the pruned copy of the project that the seat holds.
-/
import Derived.Test.YtipbhlofbpnpjaaGreatDoorTdeW
import Derived.Test.YtipbhlofbpnpjaaGreatDoorP24
namespace Go.Proofs.YtipbhlofbpnpjaaGreatDoor
open Go.ChangeShapes Go.WideShapes Go.ChangeAt Go.RowKit Go.Joins
set_option maxRecDepth 100000 in
theorem topDetour_lifted (os:Os)(started:os.Started)(H:Type)(enc:TypeId × Value->H) :
  ReturnsInHanded {} Tryz.checked os 9 .any (fun w args=>(Rows.topDetourSpec.pre enc Tryz.prog Tryz.f9 [] false w args/\laidMetH Tryz.prog allLaid w)/\sizedMet enc Tryz.prog Tryz.f9 (OpenSpec.ofChange Rows.topDetourSpec) false w args)
   (Rows.topDetourSpec.post enc Tryz.prog Tryz.f9 false true false false):=by
 refine returnsInHanded_of_change_and (C:=Tryz.checked) (X:=fun w _=>laidMetH Tryz.prog allLaid w) (fun _ _ _ hh h=>h.of_heap hh) Tryz.own started (by kernel_rfl) Tryz.func9
  (ChangeSpec.witness_shaped (enc:=enc) (C:=Tryz.checked) (os:=os) (X:=fun w _=>laidMetH Tryz.prog allLaid w) false (World.doorLaid Tryz.prog 80 os) #[.agg #[.int .i64 0,.int .i64 0,.slice none 0 0],.int .i64 0,.int .i64 0,.int .i64 0,.int .i64 0] 8 rfl (World.shaped_of_RefB (by kernel_rfl) (by kernel_rfl)) (by kernel_rfl) (by kernel_rfl) (by kernel_rfl) (law_met os _)) ?_
 intro W base args ds gs before hval0 hW _ _ hL _
 have hval:∀ (j:Nat) t v,Tryz.f9.params[j]? = some t->args[j]? = some v->Value.okWide Tryz.prog W .any base t v:=hval0
 have hW':=hW
 obtain ⟨p,q,hA0,hV,rfl,hfz,hnd⟩:=hW
 have hA:DataW.TrodAll enc Tryz.prog W 0 (fun _=>true) true Tryz.f9.params.toList args.toList ds p:=hA0
 rw [Tryz.params9] at hA hval
 obtain ⟨v0,vs0,d0,ds0,p0,q0,hargs,rfl,rfl,h0,r0⟩:=trodAll_cons hA
 obtain ⟨v1,vs1,d1,ds1,p1,q1,rfl,rfl,rfl,h1,r1⟩:=trodAll_cons r0
 obtain ⟨v2,vs2,d2,ds2,p2,q2,rfl,rfl,rfl,h2,r2⟩:=trodAll_cons r1
 obtain ⟨v3,vs3,d3,ds3,p3,q3,rfl,rfl,rfl,h3,r3⟩:=trodAll_cons r2
 obtain ⟨v4,vs4,d4,ds4,p4,q4,rfl,rfl,rfl,h4,r4⟩:=trodAll_cons r3
 obtain ⟨rfl,rfl,rfl⟩:=trodAll_nil r4
 obtain rfl:args=#[v0,v1,v2,v3,v4]:=by cases args;simp_all
 obtain ⟨rfl,rfl⟩:=trodVars_none hV
 have k0:=h0
 have lt0:∀ x ∈ p0,x.block<W.heap.size:=by obtain ⟨m,hm⟩:=k0;exact DataW.trod_lt m _ _ _ hm
 obtain ⟨c0,c1,c2,y0,y1,y2,m,rfl,hd,hp,hy0,hy1,hy2⟩:=open_agg3 Tryz.underlying24 (by kernel_rfl) Tryz.cells24 (hval 0 24 v0 rfl rfl) h0
 obtain ⟨a,e0,_,wa⟩:=DataW.trod_int Tryz.underlying3 hy0
 obtain ⟨b,e1,_,wb⟩:=DataW.trod_int Tryz.underlying3 hy1
 simp at e0 e1
 subst e0 e1
 obtain ⟨A,n,cap,xs,rfl,hm,hx⟩:=row_in hy2
 obtain ⟨i1,rfl,rfl,rfl,wi1⟩:=open_int Tryz.underlying3 (hval 1 3 v1 rfl rfl) h1
 obtain ⟨i2,rfl,rfl,rfl,wi2⟩:=open_int Tryz.underlying3 (hval 2 3 v2 rfl rfl) h2
 obtain ⟨i3,rfl,rfl,rfl,wi3⟩:=open_int Tryz.underlying3 (hval 3 3 v3 rfl rfl) h3
 obtain ⟨i4,rfl,rfl,rfl,wi4⟩:=open_int Tryz.underlying3 (hval 4 3 v4 rfl rfl) h4
 obtain ⟨E,s,dg⟩:=all_of hL
 clear hA0 hval0
 refine (topDetour_any a b i1 A n cap xs i2 i3 i4 W E s dg hm hx).mono fun e W' ⟨he,hg⟩=>?_
 subst he
 exact ⟨_,rfl,_,_,_,[],_,[],hW',trodAll_mk1 (shut_bool Tryz.underlying4 _),(trodAll_cons_mk (Below.trod Tryz.laidOut (by kernel_rfl) (of_decide_eq_true (by kernel_rfl)) k0 hg lt0) (trodAll_cons_mk (shut_int Tryz.underlying3 wi1) (trodAll_cons_mk (shut_int Tryz.underlying3 wi2) (trodAll_cons_mk (shut_int Tryz.underlying3 wi3) (trodAll_cons_mk (shut_int Tryz.underlying3 wi4) trodAll_mk0))))),rfl,hg.frame _,fun h=>by cases h⟩
theorem topDetour_k0:(Rows.topDetourRow.wf (OpenSpec.ofChange Rows.topDetourSpec))=true:=by kernel_rfl
theorem topDetour_k1:(laidOutB Tryz.prog)=true:=by kernel_rfl
theorem topDetour_k2:(mapsRowed Tryz.prog)=true:=by kernel_rfl
theorem topDetour_k3:(Tryz.f9.params.all (Tryz.prog.readableRec ·))=true:=by kernel_rfl
theorem topDetour_k4:(namedTie Tryz.prog Rows.topDetourRow.named Rows.topDetourSpec.vars)=true:=by kernel_rfl
theorem topDetour_k5:((Rows.topDetourRow.stops == []))=true:=by kernel_rfl
theorem topDetour_k6:((Tryz.prog.stops == []))=true:=by kernel_rfl
theorem topDetour_k7:((Rows.topDetourRow.knobs == []))=true:=by kernel_rfl
theorem topDetour_k8:((Tryz.prog.stopKnobs == []))=true:=by kernel_rfl
theorem topDetour_k9:((Rows.topDetourRow.inPlace == Tryz.prog.inPlace 9))=true:=by kernel_rfl
theorem topDetour_k10:((Rows.topDetourRow.unfollowed == Tryz.prog.unfollowed 9))=true:=by kernel_rfl
theorem topDetour_k11:((Rows.topDetourRow.recurses == Tryz.prog.recurses 9))=true:=by kernel_rfl
theorem topDetour_k12:((Rows.topDetourRow.named == Tryz.prog.varsNamed 9))=true:=by kernel_rfl
theorem topDetour_k13:((Rows.topDetourRow.maps == (Tryz.f9.params.toList++Rows.topDetourSpec.plain.varTypes Tryz.prog).any (Tryz.prog.mapsRec ·)))=true:=by kernel_rfl
theorem topDetour_k14:((Rows.topDetourRow.ifaces == (Tryz.f9.params.toList++Rows.topDetourSpec.plain.varTypes Tryz.prog).any (Tryz.prog.ifacesRec ·)))=true:=by kernel_rfl
theorem topDetour_k15:((Rows.topDetourRow.mapsOut == Tryz.prog.mapsAmong Tryz.f9.resultTypes.toList))=true:=by kernel_rfl
theorem topDetour_k16:((Rows.topDetourRow.loops == (Tryz.f9.params.toList++Rows.topDetourSpec.plain.varTypes Tryz.prog).any (Tryz.prog.loopsFrom ·)))=true:=by kernel_rfl
theorem topDetour_k17:((Rows.topDetourRow.wideKeys == (Tryz.f9.params.toList++Rows.topDetourSpec.plain.varTypes Tryz.prog++Tryz.f9.resultTypes.toList).any (Tryz.prog.wideKeysFrom ·)))=true:=by kernel_rfl
theorem topDetour_k18:(Rows.topDetourSpec.vars.all (Tryz.prog.varReadable ·))=true:=by kernel_rfl
theorem topDetour_k19:(Tryz.f9.resultTypes.all (fun t=>Tryz.prog.readableRec t&&decide (t<Tryz.prog.types.size)))=true:=by kernel_rfl
theorem topDetour_k20:((Rows.topDetourRow.ifacesOut == Tryz.f9.resultTypes.toList.any (Tryz.prog.ifacesRec ·)))=true:=by kernel_rfl
theorem topDetour_k21:((Rows.topDetourRow.loopsOut == Tryz.f9.resultTypes.toList.any (Tryz.prog.loopsFrom ·)))=true:=by kernel_rfl
theorem topDetour_k22:((Rows.topDetourRow.plainKeys == Tryz.prog.plainKeys))=true:=by kernel_rfl
theorem topDetour_k23:(Rows.topDetourRow.shortTexts.isNone)=true:=by kernel_rfl
theorem topDetour_k24:(Tryz.prog.stopsHeard)=true:=by kernel_rfl
theorem topDetour_k25:(Tryz.prog.mayEnter)=true:=by kernel_rfl
theorem topDetour_k26:((Rows.topDetourRow.lifted == Tryz.prog.liftsFinal))=true:=by kernel_rfl
theorem topDetour_k27:((Tryz.prog.make == some Rows.topDetourRow.make))=true:=by kernel_rfl
theorem topDetour_k29:((Rows.topDetourRow.pinned == Rows.topDetourRow.pinnedBy))=true:=by kernel_rfl
theorem topDetour_k30:((Rows.topDetourRow.veiled == (Tryz.f9.params.toList++Rows.topDetourSpec.plain.varTypes Tryz.prog++Tryz.f9.resultTypes.toList).any (Tryz.prog.veiledRec ·)))=true:=by kernel_rfl
theorem topDetour_k31:(Rows.topDetourRow.veiledFits Tryz.prog Tryz.f9.params.toList (Tryz.f9.params.toList++Rows.topDetourSpec.plain.varTypes Tryz.prog++Tryz.f9.resultTypes.toList))=true:=by kernel_rfl
set_option maxRecDepth 100000 in
theorem topDetour_facts:joinedFacts Tryz.prog 9 Tryz.f9 Rows.topDetourSpec Rows.topDetourRow=true:=by
 unfold joinedFacts
 simp only [Bool.and_eq_true]
 exact ⟨⟨⟨⟨⟨⟨⟨⟨⟨⟨⟨⟨⟨⟨⟨⟨⟨⟨⟨⟨⟨⟨⟨⟨⟨⟨⟨⟨⟨⟨⟨topDetour_k0,topDetour_k1⟩,topDetour_k2⟩,topDetour_k3⟩,topDetour_k4⟩,topDetour_k5⟩,topDetour_k6⟩,topDetour_k7⟩,topDetour_k8⟩,topDetour_k9⟩,topDetour_k10⟩,topDetour_k11⟩,topDetour_k12⟩,topDetour_k13⟩,topDetour_k14⟩,topDetour_k15⟩,topDetour_k16⟩,topDetour_k17⟩,topDetour_k18⟩,topDetour_k19⟩,topDetour_k20⟩,topDetour_k21⟩,topDetour_k22⟩,topDetour_k23⟩,topDetour_k24⟩,topDetour_k25⟩,topDetour_k26⟩,topDetour_k27⟩,by kernel_rfl⟩,topDetour_k29⟩,topDetour_k30⟩,topDetour_k31⟩
theorem topDetour_fn:Tryz.prog.funcNamed Rows.topDetourRow.func=some 9:=by kernel_rfl
theorem topDetour_row:Rows.TopDetourSaid :=
 OpenClaim.holds_of_wide 9 Tryz.f9 rfl rfl rfl rfl rfl rfl rfl ⟨rfl,rfl,rfl,rfl,rfl⟩ rfl rfl rfl rfl rfl topDetour_fn Tryz.func9 topDetour_facts
  (of_decide_eq_true (by kernel_rfl)) (by unfold Func.isWrapper;first|(rw [if_pos (by decide +kernel)];kernel_rfl)|(rw [if_neg (by decide +kernel)];exact ⟨rfl,rfl⟩))
  (fun os started H enc _=>topDetour_lifted os started H enc)
theorem topDetour_holds:Rows.TopDetourCardSaid :=
 Claim7.holds_tied_plain_at .later [] [.data, .data, .data, .sentinel, .sentinel, .data, .data] true (true, "32ac046ada643940db23b7e471f9ecfa1de6b5ab47678be6288bf1eea9e556e3") true
  topDetour_row (fun _ h=>by cases h) (by kernel_rfl) (fun _ h=>by cases h) topDetour_row_tie rfl ⟨rfl,rfl⟩ (by kernel_rfl) rfl
  (fun f fn hf hfn=>by
   obtain rfl : f = 9 := Option.some.inj ((show Tryz.prog.funcNamed "fellrunner/fellrunnertop.TopDetour" = some 9 by kernel_rfl).symm.trans hf) |>.symm
   obtain rfl:fn=Tryz.f9:=(Option.some.inj (Tryz.func9.symm.trans hfn)).symm
   exact ⟨by kernel_rfl,fun j t ht=>by
    rw [Tryz.params9] at ht
    have hm:t ∈ [24,3,3,3,3]:=by simpa using Array.mem_of_getElem? ht
    have hall:([24,3,3,3,3].all fun u=>!Tryz.prog.wantsStandIn u)=true:=by kernel_rfl
    exact (show Tryz.prog.wantsStandIn t=false by simpa using List.all_eq_true.1 hall t hm)⟩)
  (by kernel_rfl)
#print axioms topDetour_holds
end Go.Proofs.YtipbhlofbpnpjaaGreatDoor
