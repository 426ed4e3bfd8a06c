/-
  Proved: for every size, number of levels, map and list of acts 'NavSays' returns true and its arguments read afterwards as they read before. The listed variables (tables of strconv and math/bits, strconv's two errors, the tables of steps and of directions) read as the program's text lays them, which the given tie pays; no other condition. The tie speaks of the pruned copy of the project that the seat holds.
-/
import Derived.Test.YtmaefimaeelkbaaGreatDoorP14
namespace Go.Proofs.YtmaefimaeelkbaaGreatDoor
open Go.Proofs.Tryz
open _root_.Bool renaming false→PB
set_option maxHeartbeats 8000000
set_option maxRecDepth 1000000
open Go.ChangeShapes Go.WideShapes Go.ChangeAt Go.RowKit Go.Joins
open Go.ChangeMaps (open_string shut_string)
theorem qf (os:Os)(started:os.Started)(H:Type)(enc:TypeId×Value->H) :
  ReturnsInHanded {} checked os 3 .any (fun w args=>(Rows.navSaysSpec.pre enc prog Tryz.f3 [] PB w args/\laidMetH prog nH w)/\sizedMet enc prog Tryz.f3 (OpenSpec.ofChange Rows.navSaysSpec) PB w args)
   (Rows.navSaysSpec.post enc prog Tryz.f3 PB true PB PB):=by
 refine returnsInHanded_of_change_and (C:=checked) (X:=fun w _=>laidMetH prog nH w) (fun _ _ _ hh h=>h.of_heap hh) Tryz.own started (by kernel_rfl) func3
  (ChangeSpec.witness_shaped (enc:=enc) (C:=checked) (os:=os) (X:=fun w _=>laidMetH prog nH w) PB (World.doorLaid prog 80 os) #[.int .i64 0,.int .i64 0,.int .i64 0,.string ⟨#[]⟩,.slice none 0 0] 8 rfl (World.shaped_of_RefB (by kernel_rfl) (by kernel_rfl)) (by kernel_rfl) (by kernel_rfl) (by kernel_rfl) (I8 os _)) ?_
 intro W base args ds gs before aaC hW _ _ hL _;have U3:∀(j:Nat) t v,Tryz.f3.params[j]? = some t->args[j]? = some v->Value.okWide prog W .any base t v:=aaC;have hW':=hW;obtain⟨p,q,Ux,hV,rfl,hfz,Ud⟩:=hW;have hA:DataW.TrodAll enc prog W 0 (fun _=>true) true Tryz.f3.params.toList args.toList ds p:=Ux;rw[params3]at hA U3;obtain⟨v0,vs0,d0,ds0,p0,q0,alJ,rfl,rfl,h0,r0⟩:=trodAll_cons hA;obtain⟨v1,vs1,d1,ds1,p1,q1,rfl,rfl,rfl,h1,r1⟩:=trodAll_cons r0;obtain⟨v2,vs2,d2,ds2,p2,q2,rfl,rfl,rfl,h2,r2⟩:=trodAll_cons r1;obtain⟨v3,vs3,d3,ds3,p3,q3,rfl,rfl,rfl,h3,r3⟩:=trodAll_cons r2;obtain⟨v4,vs4,d4,ds4,p4,q4,rfl,rfl,rfl,h4,r4⟩:=trodAll_cons r3;obtain⟨rfl,rfl,rfl⟩:=trodAll_nil r4;obtain rfl:args=#[v0,v1,v2,v3,v4]:=by cases args;simp_all
 obtain⟨rfl,rfl⟩:=trodVars_none hV;obtain⟨i0,rfl,rfl,rfl,wi0⟩:=open_int underlying3 (U3 0 3 v0 rfl rfl) h0;obtain⟨i1,rfl,rfl,rfl,wi1⟩:=open_int underlying3 (U3 1 3 v1 rfl rfl) h1;obtain⟨i2,rfl,rfl,rfl,wi2⟩:=open_int underlying3 (U3 2 3 v2 rfl rfl) h2;obtain⟨i3,rfl,rfl,rfl,wi3⟩:=open_string underlying9 (U3 3 9 v3 rfl rfl) h3;have k4:=h4;have lt4:∀x∈p4,x.block<W.heap.size:=by obtain⟨m,hm⟩:=k4;exact DataW.trod_lt m _ _ _ hm
 obtain⟨Aq4,nq4,cq4,rfl⟩:=okWide_slice underlying22 (U3 4 22 v4 rfl rfl);obtain⟨mq4,hq4⟩:=h4;obtain⟨A4,n4,QY,xs4,eq4,Vs,hx4⟩:=Jo (by simpa [Value.cells]using hq4);simp only[Value.slice.injEq]at eq4;obtain⟨rfl,rfl,rfl⟩:=eq4;obtain⟨E,s,dg⟩:=KC hL;obtain⟨t3,rfl⟩:∃t:List UInt8,i3=str t:=⟨i3.data.toList,rfl⟩;clear Ux aaC;refine(xB i0 i1 i2 t3 W E s dg hx4).mono fun e W' ⟨he,hg⟩=>?_;subst he;exact⟨_,rfl,_,_,_,[],_,[],hW',trodAll_mk1 (shut_bool underlying4 _),(trodAll_cons_mk (shut_int underlying3 wi0) (trodAll_cons_mk (shut_int underlying3 wi1) (trodAll_cons_mk (shut_int underlying3 wi2) (trodAll_cons_mk (shut_string underlying9 wi3) (trodAll_cons_mk (Below.trod Tryz.laidOut (by kernel_rfl) (of_decide_eq_true (by kernel_rfl)) k4 hg lt4) trodAll_mk0))))),rfl,hg.frame _,fun h=>by cases h⟩
theorem yL:(Rows.navSaysRow.wf (OpenSpec.ofChange Rows.navSaysSpec))=true:=by kernel_rfl
theorem yM:(laidOutB prog)=true:=by kernel_rfl
theorem yN:(mapsRowed prog)=true:=by kernel_rfl
theorem yO:(Tryz.f3.params.all (prog.readableRec ·))=true:=by kernel_rfl
theorem yP:(namedTie prog Rows.navSaysRow.named Rows.navSaysSpec.vars)=true:=by kernel_rfl
theorem yQ:((Rows.navSaysRow.stops == []))=true:=by kernel_rfl
theorem yR:((prog.stops == []))=true:=by kernel_rfl
theorem yS:((Rows.navSaysRow.knobs == []))=true:=by kernel_rfl
theorem yT:((prog.stopKnobs == []))=true:=by kernel_rfl
theorem yU:((Rows.navSaysRow.inPlace==prog.inPlace 3))=true:=by kernel_rfl
theorem vh:((Rows.navSaysRow.unfollowed==prog.unfollowed 3))=true:=by kernel_rfl
theorem vk:((Rows.navSaysRow.recurses==prog.recurses 3))=true:=by kernel_rfl
theorem vn:((Rows.navSaysRow.named==prog.varsNamed 3))=true:=by kernel_rfl
theorem vp:((Rows.navSaysRow.maps==(Tryz.f3.params.toList++Rows.navSaysSpec.plain.varTypes prog).any (prog.mapsRec ·)))=true:=by kernel_rfl
theorem vq:((Rows.navSaysRow.ifaces==(Tryz.f3.params.toList++Rows.navSaysSpec.plain.varTypes prog).any (prog.ifacesRec ·)))=true:=by kernel_rfl
theorem vr:((Rows.navSaysRow.mapsOut==prog.mapsAmong Tryz.f3.resultTypes.toList))=true:=by kernel_rfl
theorem vt:((Rows.navSaysRow.loops==(Tryz.f3.params.toList++Rows.navSaysSpec.plain.varTypes prog).any (prog.loopsFrom ·)))=true:=by kernel_rfl
theorem vu:((Rows.navSaysRow.wideKeys==(Tryz.f3.params.toList++Rows.navSaysSpec.plain.varTypes prog++Tryz.f3.resultTypes.toList).any (prog.wideKeysFrom ·)))=true:=by kernel_rfl
theorem vw:(Rows.navSaysSpec.vars.all (prog.varReadable ·))=true:=by kernel_rfl
theorem vx:(Tryz.f3.resultTypes.all (fun t=>prog.readableRec t&&decide (t<prog.types.size)))=true:=by kernel_rfl
theorem vy:((Rows.navSaysRow.ifacesOut==Tryz.f3.resultTypes.toList.any (prog.ifacesRec ·)))=true:=by kernel_rfl
theorem vA:((Rows.navSaysRow.loopsOut==Tryz.f3.resultTypes.toList.any (prog.loopsFrom ·)))=true:=by kernel_rfl
theorem vB:((Rows.navSaysRow.plainKeys==prog.plainKeys))=true:=by kernel_rfl
theorem vC:(Rows.navSaysRow.shortTexts.isNone)=true:=by kernel_rfl
theorem vD:(prog.stopsHeard)=true:=by kernel_rfl
theorem vE:(prog.mayEnter)=true:=by kernel_rfl
theorem vF:((Rows.navSaysRow.lifted==prog.liftsFinal))=true:=by kernel_rfl
theorem vG:((prog.make==some Rows.navSaysRow.make))=true:=by kernel_rfl
theorem vH:((Rows.navSaysRow.pinned==Rows.navSaysRow.pinnedBy))=true:=by kernel_rfl
theorem vI:((Rows.navSaysRow.veiled==(Tryz.f3.params.toList++Rows.navSaysSpec.plain.varTypes prog++Tryz.f3.resultTypes.toList).any (prog.veiledRec ·)))=true:=by kernel_rfl
theorem vJ:(Rows.navSaysRow.veiledFits prog Tryz.f3.params.toList (Tryz.f3.params.toList++Rows.navSaysSpec.plain.varTypes prog++Tryz.f3.resultTypes.toList))=true:=by kernel_rfl
theorem sh:joinedFacts prog 3 Tryz.f3 Rows.navSaysSpec Rows.navSaysRow=true:=by
 unfold joinedFacts;simp only[Bool.and_eq_true];exact⟨⟨⟨⟨⟨⟨⟨⟨⟨⟨⟨⟨⟨⟨⟨⟨⟨⟨⟨⟨⟨⟨⟨⟨⟨⟨⟨⟨⟨⟨⟨yL,yM⟩,yN⟩,yO⟩,yP⟩,yQ⟩,yR⟩,yS⟩,yT⟩,yU⟩,vh⟩,vk⟩,vn⟩,vp⟩,vq⟩,vr⟩,vt⟩,vu⟩,vw⟩,vx⟩,vy⟩,vA⟩,vB⟩,vC⟩,vD⟩,vE⟩,vF⟩,vG⟩,by kernel_rfl⟩,vH⟩,vI⟩,vJ⟩
theorem yV:prog.funcNamed Rows.navSaysRow.func=some 3:=by kernel_rfl
theorem vK:Rows.NavSaysSaid :=
 OpenClaim.holds_of_wide 3 Tryz.f3 rfl rfl rfl rfl rfl rfl rfl ⟨rfl,rfl,rfl,rfl,rfl⟩ rfl rfl rfl rfl rfl yV func3 sh
  (of_decide_eq_true (by kernel_rfl)) (by unfold Func.isWrapper;first|(rw[if_pos (by decide +kernel)];kernel_rfl)|(rw[if_neg (by decide +kernel)];exact⟨rfl,rfl⟩))
  (fun os started H enc _=>qf os started H enc)
theorem navSays_holds:Rows.NavSaysCardSaid :=
 Claim7.holds_tied_plain_at .later [] [.data, .data, .data, .sentinel, .sentinel, .data, .data] true (true, "a6fd424e03b6d0e42dec879d51b105d8025d93243f43c9e584aa2ffb1c8cb7e7") true
  vK (fun _ h=>by cases h) (by kernel_rfl) (fun _ h=>by cases h) navSays_row_tie rfl ⟨rfl,rfl⟩ (by kernel_rfl) rfl
  (fun f fn hf hfn=>by
   obtain rfl : f = 3 := Option.some.inj ((show prog.funcNamed "fellrunner/fellrunnerlaw.NavSays" = some 3 by kernel_rfl).symm.trans hf) |>.symm
   obtain rfl:fn=Tryz.f3:=(Option.some.inj (func3.symm.trans hfn)).symm;exact⟨by kernel_rfl,fun j t ht=>by
    rw[params3]at ht;have hm:t∈[3,3,3,9,22]:=by simpa using Array.mem_of_getElem? ht
    have Qe:([3,3,3,9,22].all fun u=>!prog.wantsStandIn u)=true:=(by kernel_rfl);exact(show prog.wantsStandIn t=PB by simpa using List.all_eq_true.1 Qe t hm)⟩)
  (by kernel_rfl)
#print axioms navSays_holds
end Go.Proofs.YtmaefimaeelkbaaGreatDoor
