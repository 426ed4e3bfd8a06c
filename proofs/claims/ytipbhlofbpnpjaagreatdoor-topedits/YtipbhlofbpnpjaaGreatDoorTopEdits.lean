/-
  Proved: for every plot, every number of levels, all edits and all asks 'TopEdits' returns true and its arguments read afterwards as before. The listed variables (tables of strconv and math/bits, strconv's two errors, the tables of steps and of directions) read as the program's text lays them, which the given tie pays; no other condition. The tie speaks of the pruned copy of the project that the seat holds.
-/
import Derived.Test.YtipbhlofbpnpjaaGreatDoorTedW
import Derived.Test.YtipbhlofbpnpjaaGreatDoorE28
namespace Go.Proofs.YtipbhlofbpnpjaaGreatDoor
open Go.ChangeShapes Go.WideShapes Go.ChangeAt Go.RowKit Go.Joins
set_option maxRecDepth 100000 in
theorem topEdits_lifted (os:Os)(started:os.Started)(H:Type)(enc:TypeId × Value->H) :
  ReturnsInHanded {} Tryz.checked os 4 .any (fun w args=>(Rows.topEditsSpec.pre enc Tryz.prog Tryz.f4 [] false w args/\laidMetH Tryz.prog allLaid w)/\sizedMet enc Tryz.prog Tryz.f4 (OpenSpec.ofChange Rows.topEditsSpec) false w args)
   (Rows.topEditsSpec.post enc Tryz.prog Tryz.f4 false true false false):=by
 refine returnsInHanded_of_change_and (C:=Tryz.checked) (X:=fun w _=>laidMetH Tryz.prog allLaid w) (fun _ _ _ hh h=>h.of_heap hh) Tryz.own started (by kernel_rfl) Tryz.func4
  (ChangeSpec.witness_shaped (enc:=enc) (C:=Tryz.checked) (os:=os) (X:=fun w _=>laidMetH Tryz.prog allLaid w) false (World.doorLaid Tryz.prog 80 os) #[.agg #[.int .i64 0,.int .i64 0,.slice none 0 0],.int .i64 0,.slice none 0 0,.slice none 0 0] 8 rfl (World.shaped_of_RefB (by kernel_rfl) (by kernel_rfl)) (by kernel_rfl) (by kernel_rfl) (by kernel_rfl) (law_met os _)) ?_
 intro W base args ds gs before hval0 hW _ _ hL _
 have hval:∀ (j:Nat) t v,Tryz.f4.params[j]? = some t->args[j]? = some v->Value.okWide Tryz.prog W .any base t v:=hval0
 have hW':=hW
 obtain ⟨p,q,hA0,hV,rfl,hfz,hnd⟩:=hW
 have hA:DataW.TrodAll enc Tryz.prog W 0 (fun _=>true) true Tryz.f4.params.toList args.toList ds p:=hA0
 rw [Tryz.params4] at hA hval
 obtain ⟨v0,vs0,d0,ds0,p0,q0,hargs,rfl,rfl,h0,r0⟩:=trodAll_cons hA
 obtain ⟨v1,vs1,d1,ds1,p1,q1,rfl,rfl,rfl,h1,r1⟩:=trodAll_cons r0
 obtain ⟨v2,vs2,d2,ds2,p2,q2,rfl,rfl,rfl,h2,r2⟩:=trodAll_cons r1
 obtain ⟨v3,vs3,d3,ds3,p3,q3,rfl,rfl,rfl,h3,r3⟩:=trodAll_cons r2
 obtain ⟨rfl,rfl,rfl⟩:=trodAll_nil r3
 obtain rfl:args=#[v0,v1,v2,v3]:=by cases args;simp_all
 obtain ⟨rfl,rfl⟩:=trodVars_none hV
 have k0:=h0
 have lt0:∀ x ∈ p0,x.block<W.heap.size:=by obtain ⟨m,hm⟩:=k0;exact DataW.trod_lt m _ _ _ hm
 obtain ⟨c0,c1,c2,y0,y1,y2,m,rfl,hd,hp,hy0,hy1,hy2⟩:=open_agg3 Tryz.underlying24 (by kernel_rfl) Tryz.cells24 (hval 0 24 v0 rfl rfl) h0
 obtain ⟨a,e0,_,wa⟩:=DataW.trod_int Tryz.underlying3 hy0
 obtain ⟨b,e1,_,wb⟩:=DataW.trod_int Tryz.underlying3 hy1
 simp at e0 e1
 subst e0 e1
 obtain ⟨A,n,cap,xs,rfl,hm,hx⟩:=row_in hy2
 obtain ⟨i1,rfl,rfl,rfl,wi1⟩:=open_int Tryz.underlying3 (hval 1 3 v1 rfl rfl) h1
 have k2:=h2
 have lt2:∀ x ∈ p2,x.block<W.heap.size:=by obtain ⟨m,hm⟩:=k2;exact DataW.trod_lt m _ _ _ hm
 obtain ⟨Aq2,nq2,cq2,rfl⟩:=okWide_slice Tryz.underlying44 (hval 2 44 v2 rfl rfl)
 obtain ⟨mq2,hq2⟩:=h2
 obtain ⟨A2,n2,cap2,fs2,ts2,eq2,hm2,hx2⟩:=edits_in (by simpa [Value.cells] using hq2)
 simp only [Value.slice.injEq] at eq2
 obtain ⟨rfl,rfl,rfl⟩:=eq2
 have k3:=h3
 have lt3:∀ x ∈ p3,x.block<W.heap.size:=by obtain ⟨m,hm⟩:=k3;exact DataW.trod_lt m _ _ _ hm
 obtain ⟨Aq3,nq3,cq3,rfl⟩:=okWide_slice Tryz.underlying25 (hval 3 25 v3 rfl rfl)
 obtain ⟨mq3,hq3⟩:=h3
 obtain ⟨A3,n3,cap3,fs3,ts3,eq3,hm3,hx3⟩:=asks_in (by simpa [Value.cells] using hq3)
 simp only [Value.slice.injEq] at eq3
 obtain ⟨rfl,rfl,rfl⟩:=eq3
 obtain ⟨E,s,dg⟩:=all_of hL
 clear hA0 hval0
 refine (topEdits_any a b i1 A n cap xs Aq2 nq2 cq2 fs2 ts2 Aq3 nq3 cq3 fs3 ts3 W E s dg hm hx hx2 hx3).mono fun e W' ⟨he,hg⟩=>?_
 subst he
 exact ⟨_,rfl,_,_,_,[],_,[],hW',trodAll_mk1 (shut_bool Tryz.underlying4 _),(trodAll_cons_mk (Below.trod Tryz.laidOut (by kernel_rfl) (of_decide_eq_true (by kernel_rfl)) k0 hg lt0) (trodAll_cons_mk (shut_int Tryz.underlying3 wi1) (trodAll_cons_mk (Below.trod Tryz.laidOut (by kernel_rfl) (of_decide_eq_true (by kernel_rfl)) k2 hg lt2) (trodAll_cons_mk (Below.trod Tryz.laidOut (by kernel_rfl) (of_decide_eq_true (by kernel_rfl)) k3 hg lt3) trodAll_mk0)))),rfl,hg.frame _,fun h=>by cases h⟩
theorem topEdits_k0:(Rows.topEditsRow.wf (OpenSpec.ofChange Rows.topEditsSpec))=true:=by kernel_rfl
theorem topEdits_k1:(laidOutB Tryz.prog)=true:=by kernel_rfl
theorem topEdits_k2:(mapsRowed Tryz.prog)=true:=by kernel_rfl
theorem topEdits_k3:(Tryz.f4.params.all (Tryz.prog.readableRec ·))=true:=by kernel_rfl
theorem topEdits_k4:(namedTie Tryz.prog Rows.topEditsRow.named Rows.topEditsSpec.vars)=true:=by kernel_rfl
theorem topEdits_k5:((Rows.topEditsRow.stops == []))=true:=by kernel_rfl
theorem topEdits_k6:((Tryz.prog.stops == []))=true:=by kernel_rfl
theorem topEdits_k7:((Rows.topEditsRow.knobs == []))=true:=by kernel_rfl
theorem topEdits_k8:((Tryz.prog.stopKnobs == []))=true:=by kernel_rfl
theorem topEdits_k9:((Rows.topEditsRow.inPlace == Tryz.prog.inPlace 4))=true:=by kernel_rfl
theorem topEdits_k10:((Rows.topEditsRow.unfollowed == Tryz.prog.unfollowed 4))=true:=by kernel_rfl
theorem topEdits_k11:((Rows.topEditsRow.recurses == Tryz.prog.recurses 4))=true:=by kernel_rfl
theorem topEdits_k12:((Rows.topEditsRow.named == Tryz.prog.varsNamed 4))=true:=by kernel_rfl
theorem topEdits_k13:((Rows.topEditsRow.maps == (Tryz.f4.params.toList++Rows.topEditsSpec.plain.varTypes Tryz.prog).any (Tryz.prog.mapsRec ·)))=true:=by kernel_rfl
theorem topEdits_k14:((Rows.topEditsRow.ifaces == (Tryz.f4.params.toList++Rows.topEditsSpec.plain.varTypes Tryz.prog).any (Tryz.prog.ifacesRec ·)))=true:=by kernel_rfl
theorem topEdits_k15:((Rows.topEditsRow.mapsOut == Tryz.prog.mapsAmong Tryz.f4.resultTypes.toList))=true:=by kernel_rfl
theorem topEdits_k16:((Rows.topEditsRow.loops == (Tryz.f4.params.toList++Rows.topEditsSpec.plain.varTypes Tryz.prog).any (Tryz.prog.loopsFrom ·)))=true:=by kernel_rfl
theorem topEdits_k17:((Rows.topEditsRow.wideKeys == (Tryz.f4.params.toList++Rows.topEditsSpec.plain.varTypes Tryz.prog++Tryz.f4.resultTypes.toList).any (Tryz.prog.wideKeysFrom ·)))=true:=by kernel_rfl
theorem topEdits_k18:(Rows.topEditsSpec.vars.all (Tryz.prog.varReadable ·))=true:=by kernel_rfl
theorem topEdits_k19:(Tryz.f4.resultTypes.all (fun t=>Tryz.prog.readableRec t&&decide (t<Tryz.prog.types.size)))=true:=by kernel_rfl
theorem topEdits_k20:((Rows.topEditsRow.ifacesOut == Tryz.f4.resultTypes.toList.any (Tryz.prog.ifacesRec ·)))=true:=by kernel_rfl
theorem topEdits_k21:((Rows.topEditsRow.loopsOut == Tryz.f4.resultTypes.toList.any (Tryz.prog.loopsFrom ·)))=true:=by kernel_rfl
theorem topEdits_k22:((Rows.topEditsRow.plainKeys == Tryz.prog.plainKeys))=true:=by kernel_rfl
theorem topEdits_k23:(Rows.topEditsRow.shortTexts.isNone)=true:=by kernel_rfl
theorem topEdits_k24:(Tryz.prog.stopsHeard)=true:=by kernel_rfl
theorem topEdits_k25:(Tryz.prog.mayEnter)=true:=by kernel_rfl
theorem topEdits_k26:((Rows.topEditsRow.lifted == Tryz.prog.liftsFinal))=true:=by kernel_rfl
theorem topEdits_k27:((Tryz.prog.make == some Rows.topEditsRow.make))=true:=by kernel_rfl
theorem topEdits_k29:((Rows.topEditsRow.pinned == Rows.topEditsRow.pinnedBy))=true:=by kernel_rfl
theorem topEdits_k30:((Rows.topEditsRow.veiled == (Tryz.f4.params.toList++Rows.topEditsSpec.plain.varTypes Tryz.prog++Tryz.f4.resultTypes.toList).any (Tryz.prog.veiledRec ·)))=true:=by kernel_rfl
theorem topEdits_k31:(Rows.topEditsRow.veiledFits Tryz.prog Tryz.f4.params.toList (Tryz.f4.params.toList++Rows.topEditsSpec.plain.varTypes Tryz.prog++Tryz.f4.resultTypes.toList))=true:=by kernel_rfl
set_option maxRecDepth 100000 in
theorem topEdits_facts:joinedFacts Tryz.prog 4 Tryz.f4 Rows.topEditsSpec Rows.topEditsRow=true:=by
 unfold joinedFacts
 simp only [Bool.and_eq_true]
 exact ⟨⟨⟨⟨⟨⟨⟨⟨⟨⟨⟨⟨⟨⟨⟨⟨⟨⟨⟨⟨⟨⟨⟨⟨⟨⟨⟨⟨⟨⟨⟨topEdits_k0,topEdits_k1⟩,topEdits_k2⟩,topEdits_k3⟩,topEdits_k4⟩,topEdits_k5⟩,topEdits_k6⟩,topEdits_k7⟩,topEdits_k8⟩,topEdits_k9⟩,topEdits_k10⟩,topEdits_k11⟩,topEdits_k12⟩,topEdits_k13⟩,topEdits_k14⟩,topEdits_k15⟩,topEdits_k16⟩,topEdits_k17⟩,topEdits_k18⟩,topEdits_k19⟩,topEdits_k20⟩,topEdits_k21⟩,topEdits_k22⟩,topEdits_k23⟩,topEdits_k24⟩,topEdits_k25⟩,topEdits_k26⟩,topEdits_k27⟩,by kernel_rfl⟩,topEdits_k29⟩,topEdits_k30⟩,topEdits_k31⟩
theorem topEdits_fn:Tryz.prog.funcNamed Rows.topEditsRow.func=some 4:=by kernel_rfl
theorem topEdits_row:Rows.TopEditsSaid :=
 OpenClaim.holds_of_wide 4 Tryz.f4 rfl rfl rfl rfl rfl rfl rfl ⟨rfl,rfl,rfl,rfl,rfl⟩ rfl rfl rfl rfl rfl topEdits_fn Tryz.func4 topEdits_facts
  (of_decide_eq_true (by kernel_rfl)) (by unfold Func.isWrapper;first|(rw [if_pos (by decide +kernel)];kernel_rfl)|(rw [if_neg (by decide +kernel)];exact ⟨rfl,rfl⟩))
  (fun os started H enc _=>topEdits_lifted os started H enc)
theorem topEdits_holds:Rows.TopEditsCardSaid :=
 Claim7.holds_tied_plain_at .later [] [.data, .data, .data, .sentinel, .sentinel, .data, .data] true (true, "32ac046ada643940db23b7e471f9ecfa1de6b5ab47678be6288bf1eea9e556e3") true
  topEdits_row (fun _ h=>by cases h) (by kernel_rfl) (fun _ h=>by cases h) topEdits_row_tie rfl ⟨rfl,rfl⟩ (by kernel_rfl) rfl
  (fun f fn hf hfn=>by
   obtain rfl : f = 4 := Option.some.inj ((show Tryz.prog.funcNamed "fellrunner/fellrunnertop.TopEdits" = some 4 by kernel_rfl).symm.trans hf) |>.symm
   obtain rfl:fn=Tryz.f4:=(Option.some.inj (Tryz.func4.symm.trans hfn)).symm
   exact ⟨by kernel_rfl,fun j t ht=>by
    rw [Tryz.params4] at ht
    have hm:t ∈ [24,3,44,25]:=by simpa using Array.mem_of_getElem? ht
    have hall:([24,3,44,25].all fun u=>!Tryz.prog.wantsStandIn u)=true:=by kernel_rfl
    exact (show Tryz.prog.wantsStandIn t=false by simpa using List.all_eq_true.1 hall t hm)⟩)
  (by kernel_rfl)
#print axioms topEdits_holds
end Go.Proofs.YtipbhlofbpnpjaaGreatDoor
