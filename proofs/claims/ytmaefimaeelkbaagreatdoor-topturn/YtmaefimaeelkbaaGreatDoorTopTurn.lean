/-
  Proved: for every plot, every number of levels, every two cells and every turn 'TopTurn' returns true and its arguments read afterwards as they read before. The listed variables (tables of strconv and math/bits, strconv's two errors, the tables of steps and of directions) read as the program's text lays them, which the given tie pays; no other condition. The tie speaks of the pruned copy of the project that the seat holds.
-/
import Derived.Test.YtmaefimaeelkbaaGreatDoorTtuW
import Derived.Test.YtmaefimaeelkbaaGreatDoorP29
namespace Go.Proofs.YtmaefimaeelkbaaGreatDoor
open Go.ChangeShapes Go.WideShapes Go.ChangeAt Go.RowKit Go.Joins
set_option maxRecDepth 100000 in
theorem topTurn_lifted (os:Os)(started:os.Started)(H:Type)(enc:TypeId × Value->H) :
  ReturnsInHanded {} Tryz.checked os 4 .any (fun w args=>(Rows.topTurnSpec.pre enc Tryz.prog Tryz.f4 [] false w args/\laidMetH Tryz.prog allLaid w)/\sizedMet enc Tryz.prog Tryz.f4 (OpenSpec.ofChange Rows.topTurnSpec) false w args)
   (Rows.topTurnSpec.post enc Tryz.prog Tryz.f4 false true false false):=by
 refine returnsInHanded_of_change_and (C:=Tryz.checked) (X:=fun w _=>laidMetH Tryz.prog allLaid w) (fun _ _ _ hh h=>h.of_heap hh) Tryz.own started (by kernel_rfl) Tryz.func4
  (ChangeSpec.witness_shaped (enc:=enc) (C:=Tryz.checked) (os:=os) (X:=fun w _=>laidMetH Tryz.prog allLaid w) false (World.doorLaid Tryz.prog 80 os) #[.agg #[.int .i64 0,.int .i64 0,.slice none 0 0],.int .i64 0,.int .i64 0,.int .i64 0,.int .i64 0] 8 rfl (World.shaped_of_RefB (by kernel_rfl) (by kernel_rfl)) (by kernel_rfl) (by kernel_rfl) (by kernel_rfl) (law_met os _)) ?_
 intro W base args ds gs before hval0 hW _ _ hL _
 have hval:∀ (j:Nat) t v,Tryz.f4.params[j]? = some t->args[j]? = some v->Value.okWide Tryz.prog W .any base t v:=hval0
 have hW':=hW
 obtain ⟨p,q,hA0,hV,rfl,hfz,hnd⟩:=hW
 have hA:DataW.TrodAll enc Tryz.prog W 0 (fun _=>true) true Tryz.f4.params.toList args.toList ds p:=hA0
 rw [Tryz.params4] at hA hval
 obtain ⟨v0,vs0,d0,ds0,p0,q0,hargs,rfl,rfl,h0,r0⟩:=trodAll_cons hA
 obtain ⟨v1,vs1,d1,ds1,p1,q1,rfl,rfl,rfl,h1,r1⟩:=trodAll_cons r0
 obtain ⟨v2,vs2,d2,ds2,p2,q2,rfl,rfl,rfl,h2,r2⟩:=trodAll_cons r1
 obtain ⟨v3,vs3,d3,ds3,p3,q3,rfl,rfl,rfl,h3,r3⟩:=trodAll_cons r2
 obtain ⟨v4,vs4,d4,ds4,p4,q4,rfl,rfl,rfl,h4,r4⟩:=trodAll_cons r3
 obtain ⟨rfl,rfl,rfl⟩:=trodAll_nil r4
 obtain rfl:args=#[v0,v1,v2,v3,v4]:=by cases args;simp_all
 obtain ⟨rfl,rfl⟩:=trodVars_none hV
 have k0:=h0
 have lt0:∀ x ∈ p0,x.block<W.heap.size:=by obtain ⟨m,hm⟩:=k0;exact DataW.trod_lt m _ _ _ hm
 obtain ⟨c0,c1,c2,y0,y1,y2,m,rfl,hd,hp,hy0,hy1,hy2⟩:=open_agg3 Tryz.underlying68 (by kernel_rfl) Tryz.cells68 (hval 0 68 v0 rfl rfl) h0
 obtain ⟨a,e0,_,wa⟩:=DataW.trod_int Tryz.underlying3 hy0
 obtain ⟨b,e1,_,wb⟩:=DataW.trod_int Tryz.underlying3 hy1
 simp at e0 e1
 subst e0 e1
 obtain ⟨A,n,cap,xs,rfl,hm,hx⟩:=row_in hy2
 obtain ⟨i1,rfl,rfl,rfl,wi1⟩:=open_int Tryz.underlying3 (hval 1 3 v1 rfl rfl) h1
 obtain ⟨i2,rfl,rfl,rfl,wi2⟩:=open_int Tryz.underlying3 (hval 2 3 v2 rfl rfl) h2
 obtain ⟨i3,rfl,rfl,rfl,wi3⟩:=open_int Tryz.underlying3 (hval 3 3 v3 rfl rfl) h3
 obtain ⟨i4,rfl,rfl,rfl,wi4⟩:=open_int Tryz.underlying3 (hval 4 3 v4 rfl rfl) h4
 obtain ⟨E,s,dg⟩:=all_of hL
 clear hA0 hval0
 refine (topTurn_any a b i1 A n cap xs i2 i3 i4 W E s dg hm hx).mono fun e W' ⟨he,hg⟩=>?_
 subst he
 exact ⟨_,rfl,_,_,_,[],_,[],hW',trodAll_mk1 (shut_bool Tryz.underlying4 _),(trodAll_cons_mk (Below.trod Tryz.laidOut (by kernel_rfl) (of_decide_eq_true (by kernel_rfl)) k0 hg lt0) (trodAll_cons_mk (shut_int Tryz.underlying3 wi1) (trodAll_cons_mk (shut_int Tryz.underlying3 wi2) (trodAll_cons_mk (shut_int Tryz.underlying3 wi3) (trodAll_cons_mk (shut_int Tryz.underlying3 wi4) trodAll_mk0))))),rfl,hg.frame _,fun h=>by cases h⟩
theorem topTurn_k0:(Rows.topTurnRow.wf (OpenSpec.ofChange Rows.topTurnSpec))=true:=by kernel_rfl
theorem topTurn_k1:(laidOutB Tryz.prog)=true:=by kernel_rfl
theorem topTurn_k2:(mapsRowed Tryz.prog)=true:=by kernel_rfl
theorem topTurn_k3:(Tryz.f4.params.all (Tryz.prog.readableRec ·))=true:=by kernel_rfl
theorem topTurn_k4:(namedTie Tryz.prog Rows.topTurnRow.named Rows.topTurnSpec.vars)=true:=by kernel_rfl
theorem topTurn_k5:((Rows.topTurnRow.stops == []))=true:=by kernel_rfl
theorem topTurn_k6:((Tryz.prog.stops == []))=true:=by kernel_rfl
theorem topTurn_k7:((Rows.topTurnRow.knobs == []))=true:=by kernel_rfl
theorem topTurn_k8:((Tryz.prog.stopKnobs == []))=true:=by kernel_rfl
theorem topTurn_k9:((Rows.topTurnRow.inPlace == Tryz.prog.inPlace 4))=true:=by kernel_rfl
theorem topTurn_k10:((Rows.topTurnRow.unfollowed == Tryz.prog.unfollowed 4))=true:=by kernel_rfl
theorem topTurn_k11:((Rows.topTurnRow.recurses == Tryz.prog.recurses 4))=true:=by kernel_rfl
theorem topTurn_k12:((Rows.topTurnRow.named == Tryz.prog.varsNamed 4))=true:=by kernel_rfl
theorem topTurn_k13:((Rows.topTurnRow.maps == (Tryz.f4.params.toList++Rows.topTurnSpec.plain.varTypes Tryz.prog).any (Tryz.prog.mapsRec ·)))=true:=by kernel_rfl
theorem topTurn_k14:((Rows.topTurnRow.ifaces == (Tryz.f4.params.toList++Rows.topTurnSpec.plain.varTypes Tryz.prog).any (Tryz.prog.ifacesRec ·)))=true:=by kernel_rfl
theorem topTurn_k15:((Rows.topTurnRow.mapsOut == Tryz.prog.mapsAmong Tryz.f4.resultTypes.toList))=true:=by kernel_rfl
theorem topTurn_k16:((Rows.topTurnRow.loops == (Tryz.f4.params.toList++Rows.topTurnSpec.plain.varTypes Tryz.prog).any (Tryz.prog.loopsFrom ·)))=true:=by kernel_rfl
theorem topTurn_k17:((Rows.topTurnRow.wideKeys == (Tryz.f4.params.toList++Rows.topTurnSpec.plain.varTypes Tryz.prog++Tryz.f4.resultTypes.toList).any (Tryz.prog.wideKeysFrom ·)))=true:=by kernel_rfl
theorem topTurn_k18:(Rows.topTurnSpec.vars.all (Tryz.prog.varReadable ·))=true:=by kernel_rfl
theorem topTurn_k19:(Tryz.f4.resultTypes.all (fun t=>Tryz.prog.readableRec t&&decide (t<Tryz.prog.types.size)))=true:=by kernel_rfl
theorem topTurn_k20:((Rows.topTurnRow.ifacesOut == Tryz.f4.resultTypes.toList.any (Tryz.prog.ifacesRec ·)))=true:=by kernel_rfl
theorem topTurn_k21:((Rows.topTurnRow.loopsOut == Tryz.f4.resultTypes.toList.any (Tryz.prog.loopsFrom ·)))=true:=by kernel_rfl
theorem topTurn_k22:((Rows.topTurnRow.plainKeys == Tryz.prog.plainKeys))=true:=by kernel_rfl
theorem topTurn_k23:(Rows.topTurnRow.shortTexts.isNone)=true:=by kernel_rfl
theorem topTurn_k24:(Tryz.prog.stopsHeard)=true:=by kernel_rfl
theorem topTurn_k25:(Tryz.prog.mayEnter)=true:=by kernel_rfl
theorem topTurn_k26:((Rows.topTurnRow.lifted == Tryz.prog.liftsFinal))=true:=by kernel_rfl
theorem topTurn_k27:((Tryz.prog.make == some Rows.topTurnRow.make))=true:=by kernel_rfl
theorem topTurn_k29:((Rows.topTurnRow.pinned == Rows.topTurnRow.pinnedBy))=true:=by kernel_rfl
theorem topTurn_k30:((Rows.topTurnRow.veiled == (Tryz.f4.params.toList++Rows.topTurnSpec.plain.varTypes Tryz.prog++Tryz.f4.resultTypes.toList).any (Tryz.prog.veiledRec ·)))=true:=by kernel_rfl
theorem topTurn_k31:(Rows.topTurnRow.veiledFits Tryz.prog Tryz.f4.params.toList (Tryz.f4.params.toList++Rows.topTurnSpec.plain.varTypes Tryz.prog++Tryz.f4.resultTypes.toList))=true:=by kernel_rfl
set_option maxRecDepth 100000 in
theorem topTurn_facts:joinedFacts Tryz.prog 4 Tryz.f4 Rows.topTurnSpec Rows.topTurnRow=true:=by
 unfold joinedFacts
 simp only [Bool.and_eq_true]
 exact ⟨⟨⟨⟨⟨⟨⟨⟨⟨⟨⟨⟨⟨⟨⟨⟨⟨⟨⟨⟨⟨⟨⟨⟨⟨⟨⟨⟨⟨⟨⟨topTurn_k0,topTurn_k1⟩,topTurn_k2⟩,topTurn_k3⟩,topTurn_k4⟩,topTurn_k5⟩,topTurn_k6⟩,topTurn_k7⟩,topTurn_k8⟩,topTurn_k9⟩,topTurn_k10⟩,topTurn_k11⟩,topTurn_k12⟩,topTurn_k13⟩,topTurn_k14⟩,topTurn_k15⟩,topTurn_k16⟩,topTurn_k17⟩,topTurn_k18⟩,topTurn_k19⟩,topTurn_k20⟩,topTurn_k21⟩,topTurn_k22⟩,topTurn_k23⟩,topTurn_k24⟩,topTurn_k25⟩,topTurn_k26⟩,topTurn_k27⟩,by kernel_rfl⟩,topTurn_k29⟩,topTurn_k30⟩,topTurn_k31⟩
theorem topTurn_fn:Tryz.prog.funcNamed Rows.topTurnRow.func=some 4:=by kernel_rfl
theorem topTurn_row:Rows.TopTurnSaid :=
 OpenClaim.holds_of_wide 4 Tryz.f4 rfl rfl rfl rfl rfl rfl rfl ⟨rfl,rfl,rfl,rfl,rfl⟩ rfl rfl rfl rfl rfl topTurn_fn Tryz.func4 topTurn_facts
  (of_decide_eq_true (by kernel_rfl)) (by unfold Func.isWrapper;first|(rw [if_pos (by decide +kernel)];kernel_rfl)|(rw [if_neg (by decide +kernel)];exact ⟨rfl,rfl⟩))
  (fun os started H enc _=>topTurn_lifted os started H enc)
theorem topTurn_holds:Rows.TopTurnCardSaid :=
 Claim7.holds_tied_plain_at .later [] [.data, .data, .data, .sentinel, .sentinel, .data, .data] true (true, "a6fd424e03b6d0e42dec879d51b105d8025d93243f43c9e584aa2ffb1c8cb7e7") true
  topTurn_row (fun _ h=>by cases h) (by kernel_rfl) (fun _ h=>by cases h) topTurn_row_tie rfl ⟨rfl,rfl⟩ (by kernel_rfl) rfl
  (fun f fn hf hfn=>by
   obtain rfl : f = 4 := Option.some.inj ((show Tryz.prog.funcNamed "fellrunner/fellrunnertop.TopTurn" = some 4 by kernel_rfl).symm.trans hf) |>.symm
   obtain rfl:fn=Tryz.f4:=(Option.some.inj (Tryz.func4.symm.trans hfn)).symm
   exact ⟨by kernel_rfl,fun j t ht=>by
    rw [Tryz.params4] at ht
    have hm:t ∈ [68,3,3,3,3]:=by simpa using Array.mem_of_getElem? ht
    have hall:([68,3,3,3,3].all fun u=>!Tryz.prog.wantsStandIn u)=true:=by kernel_rfl
    exact (show Tryz.prog.wantsStandIn t=false by simpa using List.all_eq_true.1 hall t hm)⟩)
  (by kernel_rfl)
#print axioms topTurn_holds
end Go.Proofs.YtmaefimaeelkbaaGreatDoor
