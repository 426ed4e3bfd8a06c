/-
  Proved: for every plot, every number of levels and every two cells 'TopFrame' returns true and its arguments read afterwards as they read before. The listed variables (tables of strconv and math/bits, strconv's two errors, the tables of steps and of directions) read as the program's text lays them, which the given tie pays; no other condition. The tie speaks of the pruned copy of the project that the seat holds.
-/
import Derived.Test.YtmaefimaeelkbaaGreatDoorTfrW
import Derived.Test.YtmaefimaeelkbaaGreatDoorP29
namespace Go.Proofs.YtmaefimaeelkbaaGreatDoor
open Go.ChangeShapes Go.WideShapes Go.ChangeAt Go.RowKit Go.Joins
set_option maxRecDepth 100000 in
theorem topFrame_lifted (os:Os)(started:os.Started)(H:Type)(enc:TypeId × Value->H) :
  ReturnsInHanded {} Tryz.checked os 5 .any (fun w args=>(Rows.topFrameSpec.pre enc Tryz.prog Tryz.f5 [] false w args/\laidMetH Tryz.prog allLaid w)/\sizedMet enc Tryz.prog Tryz.f5 (OpenSpec.ofChange Rows.topFrameSpec) false w args)
   (Rows.topFrameSpec.post enc Tryz.prog Tryz.f5 false true false false):=by
 refine returnsInHanded_of_change_and (C:=Tryz.checked) (X:=fun w _=>laidMetH Tryz.prog allLaid w) (fun _ _ _ hh h=>h.of_heap hh) Tryz.own started (by kernel_rfl) Tryz.func5
  (ChangeSpec.witness_shaped (enc:=enc) (C:=Tryz.checked) (os:=os) (X:=fun w _=>laidMetH Tryz.prog allLaid w) false (World.doorLaid Tryz.prog 80 os) #[.agg #[.int .i64 0,.int .i64 0,.slice none 0 0],.int .i64 0,.int .i64 0,.int .i64 0] 8 rfl (World.shaped_of_RefB (by kernel_rfl) (by kernel_rfl)) (by kernel_rfl) (by kernel_rfl) (by kernel_rfl) (law_met os _)) ?_
 intro W base args ds gs before hval0 hW _ _ hL _
 have hval:∀ (j:Nat) t v,Tryz.f5.params[j]? = some t->args[j]? = some v->Value.okWide Tryz.prog W .any base t v:=hval0
 have hW':=hW
 obtain ⟨p,q,hA0,hV,rfl,hfz,hnd⟩:=hW
 have hA:DataW.TrodAll enc Tryz.prog W 0 (fun _=>true) true Tryz.f5.params.toList args.toList ds p:=hA0
 rw [Tryz.params5] at hA hval
 obtain ⟨v0,vs0,d0,ds0,p0,q0,hargs,rfl,rfl,h0,r0⟩:=trodAll_cons hA
 obtain ⟨v1,vs1,d1,ds1,p1,q1,rfl,rfl,rfl,h1,r1⟩:=trodAll_cons r0
 obtain ⟨v2,vs2,d2,ds2,p2,q2,rfl,rfl,rfl,h2,r2⟩:=trodAll_cons r1
 obtain ⟨v3,vs3,d3,ds3,p3,q3,rfl,rfl,rfl,h3,r3⟩:=trodAll_cons r2
 obtain ⟨rfl,rfl,rfl⟩:=trodAll_nil r3
 obtain rfl:args=#[v0,v1,v2,v3]:=by cases args;simp_all
 obtain ⟨rfl,rfl⟩:=trodVars_none hV
 have k0:=h0
 have lt0:∀ x ∈ p0,x.block<W.heap.size:=by obtain ⟨m,hm⟩:=k0;exact DataW.trod_lt m _ _ _ hm
 obtain ⟨c0,c1,c2,y0,y1,y2,m,rfl,hd,hp,hy0,hy1,hy2⟩:=open_agg3 Tryz.underlying68 (by kernel_rfl) Tryz.cells68 (hval 0 68 v0 rfl rfl) h0
 obtain ⟨a,e0,_,wa⟩:=DataW.trod_int Tryz.underlying3 hy0
 obtain ⟨b,e1,_,wb⟩:=DataW.trod_int Tryz.underlying3 hy1
 simp at e0 e1
 subst e0 e1
 obtain ⟨A,n,cap,xs,rfl,hm,hx⟩:=row_in hy2
 obtain ⟨i1,rfl,rfl,rfl,wi1⟩:=open_int Tryz.underlying3 (hval 1 3 v1 rfl rfl) h1
 obtain ⟨i2,rfl,rfl,rfl,wi2⟩:=open_int Tryz.underlying3 (hval 2 3 v2 rfl rfl) h2
 obtain ⟨i3,rfl,rfl,rfl,wi3⟩:=open_int Tryz.underlying3 (hval 3 3 v3 rfl rfl) h3
 obtain ⟨E,s,dg⟩:=all_of hL
 clear hA0 hval0
 refine (topFrame_any a b i1 A n cap xs i2 i3 W E s dg hm hx).mono fun e W' ⟨he,hg⟩=>?_
 subst he
 exact ⟨_,rfl,_,_,_,[],_,[],hW',trodAll_mk1 (shut_bool Tryz.underlying4 _),(trodAll_cons_mk (Below.trod Tryz.laidOut (by kernel_rfl) (of_decide_eq_true (by kernel_rfl)) k0 hg lt0) (trodAll_cons_mk (shut_int Tryz.underlying3 wi1) (trodAll_cons_mk (shut_int Tryz.underlying3 wi2) (trodAll_cons_mk (shut_int Tryz.underlying3 wi3) trodAll_mk0)))),rfl,hg.frame _,fun h=>by cases h⟩
theorem topFrame_k0:(Rows.topFrameRow.wf (OpenSpec.ofChange Rows.topFrameSpec))=true:=by kernel_rfl
theorem topFrame_k1:(laidOutB Tryz.prog)=true:=by kernel_rfl
theorem topFrame_k2:(mapsRowed Tryz.prog)=true:=by kernel_rfl
theorem topFrame_k3:(Tryz.f5.params.all (Tryz.prog.readableRec ·))=true:=by kernel_rfl
theorem topFrame_k4:(namedTie Tryz.prog Rows.topFrameRow.named Rows.topFrameSpec.vars)=true:=by kernel_rfl
theorem topFrame_k5:((Rows.topFrameRow.stops == []))=true:=by kernel_rfl
theorem topFrame_k6:((Tryz.prog.stops == []))=true:=by kernel_rfl
theorem topFrame_k7:((Rows.topFrameRow.knobs == []))=true:=by kernel_rfl
theorem topFrame_k8:((Tryz.prog.stopKnobs == []))=true:=by kernel_rfl
theorem topFrame_k9:((Rows.topFrameRow.inPlace == Tryz.prog.inPlace 5))=true:=by kernel_rfl
theorem topFrame_k10:((Rows.topFrameRow.unfollowed == Tryz.prog.unfollowed 5))=true:=by kernel_rfl
theorem topFrame_k11:((Rows.topFrameRow.recurses == Tryz.prog.recurses 5))=true:=by kernel_rfl
theorem topFrame_k12:((Rows.topFrameRow.named == Tryz.prog.varsNamed 5))=true:=by kernel_rfl
theorem topFrame_k13:((Rows.topFrameRow.maps == (Tryz.f5.params.toList++Rows.topFrameSpec.plain.varTypes Tryz.prog).any (Tryz.prog.mapsRec ·)))=true:=by kernel_rfl
theorem topFrame_k14:((Rows.topFrameRow.ifaces == (Tryz.f5.params.toList++Rows.topFrameSpec.plain.varTypes Tryz.prog).any (Tryz.prog.ifacesRec ·)))=true:=by kernel_rfl
theorem topFrame_k15:((Rows.topFrameRow.mapsOut == Tryz.prog.mapsAmong Tryz.f5.resultTypes.toList))=true:=by kernel_rfl
theorem topFrame_k16:((Rows.topFrameRow.loops == (Tryz.f5.params.toList++Rows.topFrameSpec.plain.varTypes Tryz.prog).any (Tryz.prog.loopsFrom ·)))=true:=by kernel_rfl
theorem topFrame_k17:((Rows.topFrameRow.wideKeys == (Tryz.f5.params.toList++Rows.topFrameSpec.plain.varTypes Tryz.prog++Tryz.f5.resultTypes.toList).any (Tryz.prog.wideKeysFrom ·)))=true:=by kernel_rfl
theorem topFrame_k18:(Rows.topFrameSpec.vars.all (Tryz.prog.varReadable ·))=true:=by kernel_rfl
theorem topFrame_k19:(Tryz.f5.resultTypes.all (fun t=>Tryz.prog.readableRec t&&decide (t<Tryz.prog.types.size)))=true:=by kernel_rfl
theorem topFrame_k20:((Rows.topFrameRow.ifacesOut == Tryz.f5.resultTypes.toList.any (Tryz.prog.ifacesRec ·)))=true:=by kernel_rfl
theorem topFrame_k21:((Rows.topFrameRow.loopsOut == Tryz.f5.resultTypes.toList.any (Tryz.prog.loopsFrom ·)))=true:=by kernel_rfl
theorem topFrame_k22:((Rows.topFrameRow.plainKeys == Tryz.prog.plainKeys))=true:=by kernel_rfl
theorem topFrame_k23:(Rows.topFrameRow.shortTexts.isNone)=true:=by kernel_rfl
theorem topFrame_k24:(Tryz.prog.stopsHeard)=true:=by kernel_rfl
theorem topFrame_k25:(Tryz.prog.mayEnter)=true:=by kernel_rfl
theorem topFrame_k26:((Rows.topFrameRow.lifted == Tryz.prog.liftsFinal))=true:=by kernel_rfl
theorem topFrame_k27:((Tryz.prog.make == some Rows.topFrameRow.make))=true:=by kernel_rfl
theorem topFrame_k29:((Rows.topFrameRow.pinned == Rows.topFrameRow.pinnedBy))=true:=by kernel_rfl
theorem topFrame_k30:((Rows.topFrameRow.veiled == (Tryz.f5.params.toList++Rows.topFrameSpec.plain.varTypes Tryz.prog++Tryz.f5.resultTypes.toList).any (Tryz.prog.veiledRec ·)))=true:=by kernel_rfl
theorem topFrame_k31:(Rows.topFrameRow.veiledFits Tryz.prog Tryz.f5.params.toList (Tryz.f5.params.toList++Rows.topFrameSpec.plain.varTypes Tryz.prog++Tryz.f5.resultTypes.toList))=true:=by kernel_rfl
set_option maxRecDepth 100000 in
theorem topFrame_facts:joinedFacts Tryz.prog 5 Tryz.f5 Rows.topFrameSpec Rows.topFrameRow=true:=by
 unfold joinedFacts
 simp only [Bool.and_eq_true]
 exact ⟨⟨⟨⟨⟨⟨⟨⟨⟨⟨⟨⟨⟨⟨⟨⟨⟨⟨⟨⟨⟨⟨⟨⟨⟨⟨⟨⟨⟨⟨⟨topFrame_k0,topFrame_k1⟩,topFrame_k2⟩,topFrame_k3⟩,topFrame_k4⟩,topFrame_k5⟩,topFrame_k6⟩,topFrame_k7⟩,topFrame_k8⟩,topFrame_k9⟩,topFrame_k10⟩,topFrame_k11⟩,topFrame_k12⟩,topFrame_k13⟩,topFrame_k14⟩,topFrame_k15⟩,topFrame_k16⟩,topFrame_k17⟩,topFrame_k18⟩,topFrame_k19⟩,topFrame_k20⟩,topFrame_k21⟩,topFrame_k22⟩,topFrame_k23⟩,topFrame_k24⟩,topFrame_k25⟩,topFrame_k26⟩,topFrame_k27⟩,by kernel_rfl⟩,topFrame_k29⟩,topFrame_k30⟩,topFrame_k31⟩
theorem topFrame_fn:Tryz.prog.funcNamed Rows.topFrameRow.func=some 5:=by kernel_rfl
theorem topFrame_row:Rows.TopFrameSaid :=
 OpenClaim.holds_of_wide 5 Tryz.f5 rfl rfl rfl rfl rfl rfl rfl ⟨rfl,rfl,rfl,rfl,rfl⟩ rfl rfl rfl rfl rfl topFrame_fn Tryz.func5 topFrame_facts
  (of_decide_eq_true (by kernel_rfl)) (by unfold Func.isWrapper;first|(rw [if_pos (by decide +kernel)];kernel_rfl)|(rw [if_neg (by decide +kernel)];exact ⟨rfl,rfl⟩))
  (fun os started H enc _=>topFrame_lifted os started H enc)
theorem topFrame_holds:Rows.TopFrameCardSaid :=
 Claim7.holds_tied_plain_at .later [] [.data, .data, .data, .sentinel, .sentinel, .data, .data] true (true, "a6fd424e03b6d0e42dec879d51b105d8025d93243f43c9e584aa2ffb1c8cb7e7") true
  topFrame_row (fun _ h=>by cases h) (by kernel_rfl) (fun _ h=>by cases h) topFrame_row_tie rfl ⟨rfl,rfl⟩ (by kernel_rfl) rfl
  (fun f fn hf hfn=>by
   obtain rfl : f = 5 := Option.some.inj ((show Tryz.prog.funcNamed "fellrunner/fellrunnertop.TopFrame" = some 5 by kernel_rfl).symm.trans hf) |>.symm
   obtain rfl:fn=Tryz.f5:=(Option.some.inj (Tryz.func5.symm.trans hfn)).symm
   exact ⟨by kernel_rfl,fun j t ht=>by
    rw [Tryz.params5] at ht
    have hm:t ∈ [68,3,3,3]:=by simpa using Array.mem_of_getElem? ht
    have hall:([68,3,3,3].all fun u=>!Tryz.prog.wantsStandIn u)=true:=by kernel_rfl
    exact (show Tryz.prog.wantsStandIn t=false by simpa using List.all_eq_true.1 hall t hm)⟩)
  (by kernel_rfl)
#print axioms topFrame_holds
end Go.Proofs.YtmaefimaeelkbaaGreatDoor
