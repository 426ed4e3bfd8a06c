/-
  Proved: for every plot, every number of levels and all asks 'TopMost' returns true and its arguments read afterwards as before. The listed variables (tables of strconv and math/bits, strconv's two errors, the tables of steps and of directions) read as the program's text lays them, which the given tie pays; no other condition. The tie speaks of the pruned copy of the project that the seat holds.
-/
import Derived.Test.YtipbhlofbpnpjaaGreatDoorTmoW
import Derived.Test.YtipbhlofbpnpjaaGreatDoorP24
namespace Go.Proofs.YtipbhlofbpnpjaaGreatDoor
open Go.ChangeShapes Go.WideShapes Go.ChangeAt Go.RowKit Go.Joins
set_option maxRecDepth 100000 in
theorem topMost_lifted (os:Os)(started:os.Started)(H:Type)(enc:TypeId × Value->H) :
  ReturnsInHanded {} Tryz.checked os 10 .any (fun w args=>(Rows.topMostSpec.pre enc Tryz.prog Tryz.f10 [] false w args/\laidMetH Tryz.prog allLaid w)/\sizedMet enc Tryz.prog Tryz.f10 (OpenSpec.ofChange Rows.topMostSpec) false w args)
   (Rows.topMostSpec.post enc Tryz.prog Tryz.f10 false true false false):=by
 refine returnsInHanded_of_change_and (C:=Tryz.checked) (X:=fun w _=>laidMetH Tryz.prog allLaid w) (fun _ _ _ hh h=>h.of_heap hh) Tryz.own started (by kernel_rfl) Tryz.func10
  (ChangeSpec.witness_shaped (enc:=enc) (C:=Tryz.checked) (os:=os) (X:=fun w _=>laidMetH Tryz.prog allLaid w) false (World.doorLaid Tryz.prog 80 os) #[.agg #[.int .i64 0,.int .i64 0,.slice none 0 0],.int .i64 0,.slice none 0 0] 8 rfl (World.shaped_of_RefB (by kernel_rfl) (by kernel_rfl)) (by kernel_rfl) (by kernel_rfl) (by kernel_rfl) (law_met os _)) ?_
 intro W base args ds gs before hval0 hW _ _ hL _
 have hval:∀ (j:Nat) t v,Tryz.f10.params[j]? = some t->args[j]? = some v->Value.okWide Tryz.prog W .any base t v:=hval0
 have hW':=hW
 obtain ⟨p,q,hA0,hV,rfl,hfz,hnd⟩:=hW
 have hA:DataW.TrodAll enc Tryz.prog W 0 (fun _=>true) true Tryz.f10.params.toList args.toList ds p:=hA0
 rw [Tryz.params10] at hA hval
 obtain ⟨v0,vs0,d0,ds0,p0,q0,hargs,rfl,rfl,h0,r0⟩:=trodAll_cons hA
 obtain ⟨v1,vs1,d1,ds1,p1,q1,rfl,rfl,rfl,h1,r1⟩:=trodAll_cons r0
 obtain ⟨v2,vs2,d2,ds2,p2,q2,rfl,rfl,rfl,h2,r2⟩:=trodAll_cons r1
 obtain ⟨rfl,rfl,rfl⟩:=trodAll_nil r2
 obtain rfl:args=#[v0,v1,v2]:=by cases args;simp_all
 obtain ⟨rfl,rfl⟩:=trodVars_none hV
 have k0:=h0
 have lt0:∀ x ∈ p0,x.block<W.heap.size:=by obtain ⟨m,hm⟩:=k0;exact DataW.trod_lt m _ _ _ hm
 obtain ⟨c0,c1,c2,y0,y1,y2,m,rfl,hd,hp,hy0,hy1,hy2⟩:=open_agg3 Tryz.underlying24 (by kernel_rfl) Tryz.cells24 (hval 0 24 v0 rfl rfl) h0
 obtain ⟨a,e0,_,wa⟩:=DataW.trod_int Tryz.underlying3 hy0
 obtain ⟨b,e1,_,wb⟩:=DataW.trod_int Tryz.underlying3 hy1
 simp at e0 e1
 subst e0 e1
 obtain ⟨A,n,cap,xs,rfl,hm,hx⟩:=row_in hy2
 obtain ⟨i1,rfl,rfl,rfl,wi1⟩:=open_int Tryz.underlying3 (hval 1 3 v1 rfl rfl) h1
 have k2:=h2
 have lt2:∀ x ∈ p2,x.block<W.heap.size:=by obtain ⟨m,hm⟩:=k2;exact DataW.trod_lt m _ _ _ hm
 obtain ⟨Aq2,nq2,cq2,rfl⟩:=okWide_slice Tryz.underlying25 (hval 2 25 v2 rfl rfl)
 obtain ⟨mq2,hq2⟩:=h2
 obtain ⟨A2,n2,cap2,fs2,ts2,eq2,hm2,hx2⟩:=asks_in (by simpa [Value.cells] using hq2)
 simp only [Value.slice.injEq] at eq2
 obtain ⟨rfl,rfl,rfl⟩:=eq2
 obtain ⟨E,s,dg⟩:=all_of hL
 clear hA0 hval0
 refine (topMost_any a b i1 A n cap xs Aq2 nq2 cq2 fs2 ts2 W E s dg hm hx hx2).mono fun e W' ⟨he,hg⟩=>?_
 subst he
 exact ⟨_,rfl,_,_,_,[],_,[],hW',trodAll_mk1 (shut_bool Tryz.underlying4 _),(trodAll_cons_mk (Below.trod Tryz.laidOut (by kernel_rfl) (of_decide_eq_true (by kernel_rfl)) k0 hg lt0) (trodAll_cons_mk (shut_int Tryz.underlying3 wi1) (trodAll_cons_mk (Below.trod Tryz.laidOut (by kernel_rfl) (of_decide_eq_true (by kernel_rfl)) k2 hg lt2) trodAll_mk0))),rfl,hg.frame _,fun h=>by cases h⟩
theorem topMost_k0:(Rows.topMostRow.wf (OpenSpec.ofChange Rows.topMostSpec))=true:=by kernel_rfl
theorem topMost_k1:(laidOutB Tryz.prog)=true:=by kernel_rfl
theorem topMost_k2:(mapsRowed Tryz.prog)=true:=by kernel_rfl
theorem topMost_k3:(Tryz.f10.params.all (Tryz.prog.readableRec ·))=true:=by kernel_rfl
theorem topMost_k4:(namedTie Tryz.prog Rows.topMostRow.named Rows.topMostSpec.vars)=true:=by kernel_rfl
theorem topMost_k5:((Rows.topMostRow.stops == []))=true:=by kernel_rfl
theorem topMost_k6:((Tryz.prog.stops == []))=true:=by kernel_rfl
theorem topMost_k7:((Rows.topMostRow.knobs == []))=true:=by kernel_rfl
theorem topMost_k8:((Tryz.prog.stopKnobs == []))=true:=by kernel_rfl
theorem topMost_k9:((Rows.topMostRow.inPlace == Tryz.prog.inPlace 10))=true:=by kernel_rfl
theorem topMost_k10:((Rows.topMostRow.unfollowed == Tryz.prog.unfollowed 10))=true:=by kernel_rfl
theorem topMost_k11:((Rows.topMostRow.recurses == Tryz.prog.recurses 10))=true:=by kernel_rfl
theorem topMost_k12:((Rows.topMostRow.named == Tryz.prog.varsNamed 10))=true:=by kernel_rfl
theorem topMost_k13:((Rows.topMostRow.maps == (Tryz.f10.params.toList++Rows.topMostSpec.plain.varTypes Tryz.prog).any (Tryz.prog.mapsRec ·)))=true:=by kernel_rfl
theorem topMost_k14:((Rows.topMostRow.ifaces == (Tryz.f10.params.toList++Rows.topMostSpec.plain.varTypes Tryz.prog).any (Tryz.prog.ifacesRec ·)))=true:=by kernel_rfl
theorem topMost_k15:((Rows.topMostRow.mapsOut == Tryz.prog.mapsAmong Tryz.f10.resultTypes.toList))=true:=by kernel_rfl
theorem topMost_k16:((Rows.topMostRow.loops == (Tryz.f10.params.toList++Rows.topMostSpec.plain.varTypes Tryz.prog).any (Tryz.prog.loopsFrom ·)))=true:=by kernel_rfl
theorem topMost_k17:((Rows.topMostRow.wideKeys == (Tryz.f10.params.toList++Rows.topMostSpec.plain.varTypes Tryz.prog++Tryz.f10.resultTypes.toList).any (Tryz.prog.wideKeysFrom ·)))=true:=by kernel_rfl
theorem topMost_k18:(Rows.topMostSpec.vars.all (Tryz.prog.varReadable ·))=true:=by kernel_rfl
theorem topMost_k19:(Tryz.f10.resultTypes.all (fun t=>Tryz.prog.readableRec t&&decide (t<Tryz.prog.types.size)))=true:=by kernel_rfl
theorem topMost_k20:((Rows.topMostRow.ifacesOut == Tryz.f10.resultTypes.toList.any (Tryz.prog.ifacesRec ·)))=true:=by kernel_rfl
theorem topMost_k21:((Rows.topMostRow.loopsOut == Tryz.f10.resultTypes.toList.any (Tryz.prog.loopsFrom ·)))=true:=by kernel_rfl
theorem topMost_k22:((Rows.topMostRow.plainKeys == Tryz.prog.plainKeys))=true:=by kernel_rfl
theorem topMost_k23:(Rows.topMostRow.shortTexts.isNone)=true:=by kernel_rfl
theorem topMost_k24:(Tryz.prog.stopsHeard)=true:=by kernel_rfl
theorem topMost_k25:(Tryz.prog.mayEnter)=true:=by kernel_rfl
theorem topMost_k26:((Rows.topMostRow.lifted == Tryz.prog.liftsFinal))=true:=by kernel_rfl
theorem topMost_k27:((Tryz.prog.make == some Rows.topMostRow.make))=true:=by kernel_rfl
theorem topMost_k29:((Rows.topMostRow.pinned == Rows.topMostRow.pinnedBy))=true:=by kernel_rfl
theorem topMost_k30:((Rows.topMostRow.veiled == (Tryz.f10.params.toList++Rows.topMostSpec.plain.varTypes Tryz.prog++Tryz.f10.resultTypes.toList).any (Tryz.prog.veiledRec ·)))=true:=by kernel_rfl
theorem topMost_k31:(Rows.topMostRow.veiledFits Tryz.prog Tryz.f10.params.toList (Tryz.f10.params.toList++Rows.topMostSpec.plain.varTypes Tryz.prog++Tryz.f10.resultTypes.toList))=true:=by kernel_rfl
set_option maxRecDepth 100000 in
theorem topMost_facts:joinedFacts Tryz.prog 10 Tryz.f10 Rows.topMostSpec Rows.topMostRow=true:=by
 unfold joinedFacts
 simp only [Bool.and_eq_true]
 exact ⟨⟨⟨⟨⟨⟨⟨⟨⟨⟨⟨⟨⟨⟨⟨⟨⟨⟨⟨⟨⟨⟨⟨⟨⟨⟨⟨⟨⟨⟨⟨topMost_k0,topMost_k1⟩,topMost_k2⟩,topMost_k3⟩,topMost_k4⟩,topMost_k5⟩,topMost_k6⟩,topMost_k7⟩,topMost_k8⟩,topMost_k9⟩,topMost_k10⟩,topMost_k11⟩,topMost_k12⟩,topMost_k13⟩,topMost_k14⟩,topMost_k15⟩,topMost_k16⟩,topMost_k17⟩,topMost_k18⟩,topMost_k19⟩,topMost_k20⟩,topMost_k21⟩,topMost_k22⟩,topMost_k23⟩,topMost_k24⟩,topMost_k25⟩,topMost_k26⟩,topMost_k27⟩,by kernel_rfl⟩,topMost_k29⟩,topMost_k30⟩,topMost_k31⟩
theorem topMost_fn:Tryz.prog.funcNamed Rows.topMostRow.func=some 10:=by kernel_rfl
theorem topMost_row:Rows.TopMostSaid :=
 OpenClaim.holds_of_wide 10 Tryz.f10 rfl rfl rfl rfl rfl rfl rfl ⟨rfl,rfl,rfl,rfl,rfl⟩ rfl rfl rfl rfl rfl topMost_fn Tryz.func10 topMost_facts
  (of_decide_eq_true (by kernel_rfl)) (by unfold Func.isWrapper;first|(rw [if_pos (by decide +kernel)];kernel_rfl)|(rw [if_neg (by decide +kernel)];exact ⟨rfl,rfl⟩))
  (fun os started H enc _=>topMost_lifted os started H enc)
theorem topMost_holds:Rows.TopMostCardSaid :=
 Claim7.holds_tied_plain_at .later [] [.data, .data, .data, .sentinel, .sentinel, .data, .data] true (true, "32ac046ada643940db23b7e471f9ecfa1de6b5ab47678be6288bf1eea9e556e3") true
  topMost_row (fun _ h=>by cases h) (by kernel_rfl) (fun _ h=>by cases h) topMost_row_tie rfl ⟨rfl,rfl⟩ (by kernel_rfl) rfl
  (fun f fn hf hfn=>by
   obtain rfl : f = 10 := Option.some.inj ((show Tryz.prog.funcNamed "fellrunner/fellrunnertop.TopMost" = some 10 by kernel_rfl).symm.trans hf) |>.symm
   obtain rfl:fn=Tryz.f10:=(Option.some.inj (Tryz.func10.symm.trans hfn)).symm
   exact ⟨by kernel_rfl,fun j t ht=>by
    rw [Tryz.params10] at ht
    have hm:t ∈ [24,3,25]:=by simpa using Array.mem_of_getElem? ht
    have hall:([24,3,25].all fun u=>!Tryz.prog.wantsStandIn u)=true:=by kernel_rfl
    exact (show Tryz.prog.wantsStandIn t=false by simpa using List.all_eq_true.1 hall t hm)⟩)
  (by kernel_rfl)
#print axioms topMost_holds
end Go.Proofs.YtipbhlofbpnpjaaGreatDoor
