/-
  Proved: for every plot, every number of levels and all asks 'TopStill' returns true and its arguments read afterwards as before. The listed variables (tables of strconv and math/bits, strconv's two errors, the tables of steps and of directions) read as the program's text lays them, which the given tie pays; no other condition. The tie speaks of the pruned copy of the project that the seat holds.
-/
import Derived.Test.YtipbhlofbpnpjaaGreatDoorTstW
import Derived.Test.YtipbhlofbpnpjaaGreatDoorP24
namespace Go.Proofs.YtipbhlofbpnpjaaGreatDoor
open Go.ChangeShapes Go.WideShapes Go.ChangeAt Go.RowKit Go.Joins
set_option maxRecDepth 100000 in
theorem topStill_lifted (os:Os)(started:os.Started)(H:Type)(enc:TypeId × Value->H) :
  ReturnsInHanded {} Tryz.checked os 6 .any (fun w args=>(Rows.topStillSpec.pre enc Tryz.prog Tryz.f6 [] false w args/\laidMetH Tryz.prog allLaid w)/\sizedMet enc Tryz.prog Tryz.f6 (OpenSpec.ofChange Rows.topStillSpec) false w args)
   (Rows.topStillSpec.post enc Tryz.prog Tryz.f6 false true false false):=by
 refine returnsInHanded_of_change_and (C:=Tryz.checked) (X:=fun w _=>laidMetH Tryz.prog allLaid w) (fun _ _ _ hh h=>h.of_heap hh) Tryz.own started (by kernel_rfl) Tryz.func6
  (ChangeSpec.witness_shaped (enc:=enc) (C:=Tryz.checked) (os:=os) (X:=fun w _=>laidMetH Tryz.prog allLaid w) false (World.doorLaid Tryz.prog 80 os) #[.agg #[.int .i64 0,.int .i64 0,.slice none 0 0],.int .i64 0,.slice none 0 0] 8 rfl (World.shaped_of_RefB (by kernel_rfl) (by kernel_rfl)) (by kernel_rfl) (by kernel_rfl) (by kernel_rfl) (law_met os _)) ?_
 intro W base args ds gs before hval0 hW _ _ hL _
 have hval:∀ (j:Nat) t v,Tryz.f6.params[j]? = some t->args[j]? = some v->Value.okWide Tryz.prog W .any base t v:=hval0
 have hW':=hW
 obtain ⟨p,q,hA0,hV,rfl,hfz,hnd⟩:=hW
 have hA:DataW.TrodAll enc Tryz.prog W 0 (fun _=>true) true Tryz.f6.params.toList args.toList ds p:=hA0
 rw [Tryz.params6] at hA hval
 obtain ⟨v0,vs0,d0,ds0,p0,q0,hargs,rfl,rfl,h0,r0⟩:=trodAll_cons hA
 obtain ⟨v1,vs1,d1,ds1,p1,q1,rfl,rfl,rfl,h1,r1⟩:=trodAll_cons r0
 obtain ⟨v2,vs2,d2,ds2,p2,q2,rfl,rfl,rfl,h2,r2⟩:=trodAll_cons r1
 obtain ⟨rfl,rfl,rfl⟩:=trodAll_nil r2
 obtain rfl:args=#[v0,v1,v2]:=by cases args;simp_all
 obtain ⟨rfl,rfl⟩:=trodVars_none hV
 have k0:=h0
 have lt0:∀ x ∈ p0,x.block<W.heap.size:=by obtain ⟨m,hm⟩:=k0;exact DataW.trod_lt m _ _ _ hm
 obtain ⟨c0,c1,c2,y0,y1,y2,m,rfl,hd,hp,hy0,hy1,hy2⟩:=open_agg3 Tryz.underlying24 (by kernel_rfl) Tryz.cells24 (hval 0 24 v0 rfl rfl) h0
 obtain ⟨a,e0,_,wa⟩:=DataW.trod_int Tryz.underlying3 hy0
 obtain ⟨b,e1,_,wb⟩:=DataW.trod_int Tryz.underlying3 hy1
 simp at e0 e1
 subst e0 e1
 obtain ⟨A,n,cap,xs,rfl,hm,hx⟩:=row_in hy2
 obtain ⟨i1,rfl,rfl,rfl,wi1⟩:=open_int Tryz.underlying3 (hval 1 3 v1 rfl rfl) h1
 have k2:=h2
 have lt2:∀ x ∈ p2,x.block<W.heap.size:=by obtain ⟨m,hm⟩:=k2;exact DataW.trod_lt m _ _ _ hm
 obtain ⟨Aq2,nq2,cq2,rfl⟩:=okWide_slice Tryz.underlying25 (hval 2 25 v2 rfl rfl)
 obtain ⟨mq2,hq2⟩:=h2
 obtain ⟨A2,n2,cap2,fs2,ts2,eq2,hm2,hx2⟩:=asks_in (by simpa [Value.cells] using hq2)
 simp only [Value.slice.injEq] at eq2
 obtain ⟨rfl,rfl,rfl⟩:=eq2
 obtain ⟨E,s,dg⟩:=all_of hL
 clear hA0 hval0
 refine (topStill_any a b i1 A n cap xs Aq2 nq2 cq2 fs2 ts2 W E s dg hm hx hx2).mono fun e W' ⟨he,hg⟩=>?_
 subst he
 exact ⟨_,rfl,_,_,_,[],_,[],hW',trodAll_mk1 (shut_bool Tryz.underlying4 _),(trodAll_cons_mk (Below.trod Tryz.laidOut (by kernel_rfl) (of_decide_eq_true (by kernel_rfl)) k0 hg lt0) (trodAll_cons_mk (shut_int Tryz.underlying3 wi1) (trodAll_cons_mk (Below.trod Tryz.laidOut (by kernel_rfl) (of_decide_eq_true (by kernel_rfl)) k2 hg lt2) trodAll_mk0))),rfl,hg.frame _,fun h=>by cases h⟩
theorem topStill_k0:(Rows.topStillRow.wf (OpenSpec.ofChange Rows.topStillSpec))=true:=by kernel_rfl
theorem topStill_k1:(laidOutB Tryz.prog)=true:=by kernel_rfl
theorem topStill_k2:(mapsRowed Tryz.prog)=true:=by kernel_rfl
theorem topStill_k3:(Tryz.f6.params.all (Tryz.prog.readableRec ·))=true:=by kernel_rfl
theorem topStill_k4:(namedTie Tryz.prog Rows.topStillRow.named Rows.topStillSpec.vars)=true:=by kernel_rfl
theorem topStill_k5:((Rows.topStillRow.stops == []))=true:=by kernel_rfl
theorem topStill_k6:((Tryz.prog.stops == []))=true:=by kernel_rfl
theorem topStill_k7:((Rows.topStillRow.knobs == []))=true:=by kernel_rfl
theorem topStill_k8:((Tryz.prog.stopKnobs == []))=true:=by kernel_rfl
theorem topStill_k9:((Rows.topStillRow.inPlace == Tryz.prog.inPlace 6))=true:=by kernel_rfl
theorem topStill_k10:((Rows.topStillRow.unfollowed == Tryz.prog.unfollowed 6))=true:=by kernel_rfl
theorem topStill_k11:((Rows.topStillRow.recurses == Tryz.prog.recurses 6))=true:=by kernel_rfl
theorem topStill_k12:((Rows.topStillRow.named == Tryz.prog.varsNamed 6))=true:=by kernel_rfl
theorem topStill_k13:((Rows.topStillRow.maps == (Tryz.f6.params.toList++Rows.topStillSpec.plain.varTypes Tryz.prog).any (Tryz.prog.mapsRec ·)))=true:=by kernel_rfl
theorem topStill_k14:((Rows.topStillRow.ifaces == (Tryz.f6.params.toList++Rows.topStillSpec.plain.varTypes Tryz.prog).any (Tryz.prog.ifacesRec ·)))=true:=by kernel_rfl
theorem topStill_k15:((Rows.topStillRow.mapsOut == Tryz.prog.mapsAmong Tryz.f6.resultTypes.toList))=true:=by kernel_rfl
theorem topStill_k16:((Rows.topStillRow.loops == (Tryz.f6.params.toList++Rows.topStillSpec.plain.varTypes Tryz.prog).any (Tryz.prog.loopsFrom ·)))=true:=by kernel_rfl
theorem topStill_k17:((Rows.topStillRow.wideKeys == (Tryz.f6.params.toList++Rows.topStillSpec.plain.varTypes Tryz.prog++Tryz.f6.resultTypes.toList).any (Tryz.prog.wideKeysFrom ·)))=true:=by kernel_rfl
theorem topStill_k18:(Rows.topStillSpec.vars.all (Tryz.prog.varReadable ·))=true:=by kernel_rfl
theorem topStill_k19:(Tryz.f6.resultTypes.all (fun t=>Tryz.prog.readableRec t&&decide (t<Tryz.prog.types.size)))=true:=by kernel_rfl
theorem topStill_k20:((Rows.topStillRow.ifacesOut == Tryz.f6.resultTypes.toList.any (Tryz.prog.ifacesRec ·)))=true:=by kernel_rfl
theorem topStill_k21:((Rows.topStillRow.loopsOut == Tryz.f6.resultTypes.toList.any (Tryz.prog.loopsFrom ·)))=true:=by kernel_rfl
theorem topStill_k22:((Rows.topStillRow.plainKeys == Tryz.prog.plainKeys))=true:=by kernel_rfl
theorem topStill_k23:(Rows.topStillRow.shortTexts.isNone)=true:=by kernel_rfl
theorem topStill_k24:(Tryz.prog.stopsHeard)=true:=by kernel_rfl
theorem topStill_k25:(Tryz.prog.mayEnter)=true:=by kernel_rfl
theorem topStill_k26:((Rows.topStillRow.lifted == Tryz.prog.liftsFinal))=true:=by kernel_rfl
theorem topStill_k27:((Tryz.prog.make == some Rows.topStillRow.make))=true:=by kernel_rfl
theorem topStill_k29:((Rows.topStillRow.pinned == Rows.topStillRow.pinnedBy))=true:=by kernel_rfl
theorem topStill_k30:((Rows.topStillRow.veiled == (Tryz.f6.params.toList++Rows.topStillSpec.plain.varTypes Tryz.prog++Tryz.f6.resultTypes.toList).any (Tryz.prog.veiledRec ·)))=true:=by kernel_rfl
theorem topStill_k31:(Rows.topStillRow.veiledFits Tryz.prog Tryz.f6.params.toList (Tryz.f6.params.toList++Rows.topStillSpec.plain.varTypes Tryz.prog++Tryz.f6.resultTypes.toList))=true:=by kernel_rfl
set_option maxRecDepth 100000 in
theorem topStill_facts:joinedFacts Tryz.prog 6 Tryz.f6 Rows.topStillSpec Rows.topStillRow=true:=by
 unfold joinedFacts
 simp only [Bool.and_eq_true]
 exact ⟨⟨⟨⟨⟨⟨⟨⟨⟨⟨⟨⟨⟨⟨⟨⟨⟨⟨⟨⟨⟨⟨⟨⟨⟨⟨⟨⟨⟨⟨⟨topStill_k0,topStill_k1⟩,topStill_k2⟩,topStill_k3⟩,topStill_k4⟩,topStill_k5⟩,topStill_k6⟩,topStill_k7⟩,topStill_k8⟩,topStill_k9⟩,topStill_k10⟩,topStill_k11⟩,topStill_k12⟩,topStill_k13⟩,topStill_k14⟩,topStill_k15⟩,topStill_k16⟩,topStill_k17⟩,topStill_k18⟩,topStill_k19⟩,topStill_k20⟩,topStill_k21⟩,topStill_k22⟩,topStill_k23⟩,topStill_k24⟩,topStill_k25⟩,topStill_k26⟩,topStill_k27⟩,by kernel_rfl⟩,topStill_k29⟩,topStill_k30⟩,topStill_k31⟩
theorem topStill_fn:Tryz.prog.funcNamed Rows.topStillRow.func=some 6:=by kernel_rfl
theorem topStill_row:Rows.TopStillSaid :=
 OpenClaim.holds_of_wide 6 Tryz.f6 rfl rfl rfl rfl rfl rfl rfl ⟨rfl,rfl,rfl,rfl,rfl⟩ rfl rfl rfl rfl rfl topStill_fn Tryz.func6 topStill_facts
  (of_decide_eq_true (by kernel_rfl)) (by unfold Func.isWrapper;first|(rw [if_pos (by decide +kernel)];kernel_rfl)|(rw [if_neg (by decide +kernel)];exact ⟨rfl,rfl⟩))
  (fun os started H enc _=>topStill_lifted os started H enc)
theorem topStill_holds:Rows.TopStillCardSaid :=
 Claim7.holds_tied_plain_at .later [] [.data, .data, .data, .sentinel, .sentinel, .data, .data] true (true, "32ac046ada643940db23b7e471f9ecfa1de6b5ab47678be6288bf1eea9e556e3") true
  topStill_row (fun _ h=>by cases h) (by kernel_rfl) (fun _ h=>by cases h) topStill_row_tie rfl ⟨rfl,rfl⟩ (by kernel_rfl) rfl
  (fun f fn hf hfn=>by
   obtain rfl : f = 6 := Option.some.inj ((show Tryz.prog.funcNamed "fellrunner/fellrunnertop.TopStill" = some 6 by kernel_rfl).symm.trans hf) |>.symm
   obtain rfl:fn=Tryz.f6:=(Option.some.inj (Tryz.func6.symm.trans hfn)).symm
   exact ⟨by kernel_rfl,fun j t ht=>by
    rw [Tryz.params6] at ht
    have hm:t ∈ [24,3,25]:=by simpa using Array.mem_of_getElem? ht
    have hall:([24,3,25].all fun u=>!Tryz.prog.wantsStandIn u)=true:=by kernel_rfl
    exact (show Tryz.prog.wantsStandIn t=false by simpa using List.all_eq_true.1 hall t hm)⟩)
  (by kernel_rfl)
#print axioms topStill_holds
end Go.Proofs.YtipbhlofbpnpjaaGreatDoor
