/-
  Proved: for every list of lines 'ConsoleSays' returns true and its argument reads afterwards as it read before. The listed variables (tables of strconv, of math/bits and of unicode/utf8, strconv's two errors, the tables of steps and of directions) read as the program's text lays them, which the given tie pays; no other condition. The tie speaks of the pruned copy of the project that the seat holds.
-/
import Derived.Test.YtikdmenjibkgiaaGreatDoorP20
import Derived.SliceStrings
import Derived.HandedShaped
import Derived.Shelf.Vars
import Derived.Lay
namespace Go.Proofs.YtikdmenjibkgiaaGreatDoor
open Go.Proofs.Tryz renaming prog->Vyj
open _root_.Array renaming size->G
open _root_.List renaming length->K
open Go.Proofs.Tryz
open _root_.Bool renaming false->Vl
open Go renaming Value->Vr
set_option maxHeartbeats 8000000
set_option maxRecDepth 1000000
open Go.ChangeShapes Go.WideShapes Go.ChangeAt Go.RowKit Go.Joins
theorem Jj {H:Type}{enc:TypeId×Vr->H}{W:World}{z:Bn}{m:Bool}{o:Nat}{c:Vr}{x:DataW H×List MemPlace}(h:DataW.trod enc Vyj W 0 z m o 22 [c]=some x) :
  ∃A n g w,c=.slice A n g/\n=K w/\eE W A w:=by
 rcases open_strings underlying22 underlying9 kQ h with⟨p,_⟩|⟨a,d,g,q,p,_,I,F,l,_,y,_⟩
 simp at p;exact⟨none,0,0,[],p,rfl,λ i x f=>by simp at f⟩;simp at p;have B:d<=K q:=by rw[l];split<;>omega
 refine⟨some a,d,g,(q.take d).map λ s=>s.data.toList,p,by rw[List.length_map,List.length_take];omega,λ i x f=>?_⟩;rw[List.getElem?_map]at f;cases k:(q.take d)[i]? with
 |none=>rw[k]at f;cases f
 |some s =>
  rw[k]at f;cases f;obtain⟨C,_⟩:=List.getElem?_eq_some_iff.1 k;rw[List.length_take]at C;rw[List.getElem?_take_of_lt U]at k;have r:=y i U;have e:q.getD i ByteArray.empty=s:=by rw[List.getD_eq_getElem?_getD,k];rfl
  rw[e]at r;obtain⟨b,t,j⟩:=a;have u:=y 0 U;have v:j=none:=by simpa [Addr.add]using World.cell?_spot u
  subst v;rw[Go.WideShapes.add_plain]at r;exact⟨b,t,rfl,Dt r,r⟩
theorem vU {H:Type}{enc:TypeId×Vr->H}{a:Assume}{C:Checked}{os:Os}{f:FuncId}{p:Func}{s:ChangeSpec}{n:List PathCond}{c m h o:Bool}{X:World->Array Vr->Prop}
  (hX:∀(w I:World) (b:Array Vr),w.heap=I.heap->X w b->X I b)
  (q:ownKnob C.prog.godebug=none) (l:os.Started) (L:C.prog.inits.idxOf? f=none) (y:C.prog.funcs[f]? = some p)
  (k:∃(w:World) (d:Tape) (i:Input),w.os=os/\(w.forCall d i).Shaped C.prog/\i.vars=[]/\Input.okWide C.prog (w.forCall d i) .any (G w.heap) f i /\
   ((s.pre enc C.prog p n c (w.forCall d i).memory i.args/\X (w.forCall d i).memory i.args)/\sizedMet enc C.prog p (OpenSpec.ofChange s) c (w.forCall d i).memory i.args)/\a.holds C.prog (lone (Frame.enter C.prog f i.args .normal) [] (w.forCall d i)))
  (N:∀(W:World) (base:Nat) (b:Array Vr) (B z:List (DataW H)) (g:List MemPlace),
   (∀(j:Nat) t v,p.params[j]? = some t->b[j]? = some v->Value.okWide C.prog W .any base t v) ->
   DataW.Whole enc C.prog p.params.toList s.vars c W b.toList B z g ->
   X W b->W.ShapedOpen C.prog ->
   Calls C.prog f b W λ e S=>∃v,e=.returned v/\s.post enc C.prog p c m h o W b v S) :
  ReturnsInHanded a C os f .any (λ w b=>(s.pre enc C.prog p n c w b/\X w b)/\sizedMet enc C.prog p (OpenSpec.ofChange s) c w b) (s.post enc C.prog p c m h o):=by
 refine returnsInHanded_of_calls q l L k ?_;intro w d i _ u _ x R _;obtain⟨_,_,_,A,F,_,_,_,_,P⟩:=x;have e:A=p:=Option.some.inj (F.symm.trans y);subst e;obtain⟨⟨⟨B,z,g,V,_⟩,T⟩,_⟩:=R;have r:=DataW.Whole.of_heap (w':=w.forCall d i) (by rfl) V;refine(N (w.forCall d i) (G w.heap) i.args B z g P r (hX _ _ _ (by rfl) T) u).mono λ e S ⟨v,he,Y⟩=>?_;subst he;exact ChangeSpec.post_blind Y
theorem QI {W:World}(h:W.ShapedOpen Vyj):Mx W :=
 cell_of_shapedOpen_int (g:=0) (t:=3) (zero:=#[J 0]) h (Q1 kQ) kQ rfl kQ kQ underlying3
theorem Cx (os:Os):((World.laidAll Vyj os jT).forCall (λ _ _=>0) ⟨#[],#[.slice none 0 0],[]⟩).Shaped Vyj:=World.shaped_of_ZipB kQ kQ
theorem Nb (os:Os)(a:Array Vr):laidMetH Vyj jT ((World.laidAll Vyj os jT).forCall (λ _ _=>0) ⟨#[],a,[]⟩).memory:=by
 rw[MakeChecks.laidMetH_plain _ _ _ kQ];exact laidMet_laidAll _ kQ kQ
theorem pf (os:Os)(b:os.Started)(H:Type)(enc:TypeId×Vr->H) :
  ReturnsInHanded {} checked os 3 .any (λ w a=>(Rows.consoleSaysSpec.pre enc Vyj Tryz.f3 [] Vl w a/\laidMetH Vyj jT w)/\sizedMet enc Vyj Tryz.f3 (OpenSpec.ofChange Rows.consoleSaysSpec) Vl w a)
   (Rows.consoleSaysSpec.post enc Vyj Tryz.f3 Vl true Vl Vl):=by
 refine vU (C:=checked) (X:=λ w _=>laidMetH Vyj jT w) (λ _ _ _ hh h=>h.of_heap hh) Tryz.own b kQ func3
  (ChangeSpec.witness_shaped (enc:=enc) (C:=checked) (os:=os) (X:=λ w _=>laidMetH Vyj jT w) Vl (World.laidAll Vyj os jT) #[.slice none 0 0] 8 (World.laidAll_os _ _ _) (Cx os) kQ kQ kQ (Nb os _)) ?_
 intro W f a ds gs k g F hL o;have i:∀(j:Nat) t v,Tryz.f3.params[j]? = some t->a[j]? = some v->Value.okWide Vyj W .any f t v:=g;have y:=F;obtain⟨p,q,c,hV,rfl,ab,V⟩:=F;have I:DataW.TrodAll enc Vyj W 0 (λ _=>true) true Tryz.f3.params.toList a.toList ds p:=c;rw[params3]at I i;obtain⟨z,N,d0,ac,R,q0,ag,rfl,rfl,L,P⟩:=trodAll_cons I;obtain⟨rfl,rfl,rfl⟩:=trodAll_nil P;obtain rfl:a=#[z]:=by cases a;simp_all
 obtain⟨rfl,rfl⟩:=trodVars_none hV;have A:=L;have l:∀x∈R,x.block<G W.heap:=by obtain⟨m,Y⟩:=A;exact DataW.trod_lt m _ _ _ Y
 obtain⟨an,S,ad,rfl⟩:=okWide_slice underlying22 (i 0 22 z rfl rfl);obtain⟨T,r⟩:=L;obtain⟨A0,n0,am,ls,d,u,n⟩:=Jj (by simpa [Value.cells]using r);simp only[Value.slice.injEq]at d;obtain⟨rfl,rfl,rfl⟩:=d;subst u;obtain⟨E9,s,dg⟩:=PS hL;have M9:=QI o;clear c g;refine(Ou W E9 M9 s dg n).mono λ e W' ⟨he,B⟩=>?_;subst he;exact⟨_,rfl,_,_,_,[],_,[],y,trodAll_mk1 (shut_bool underlying4 _),(trodAll_cons_mk (Below.trod Tryz.laidOut kQ (Q1 kQ) A B l) trodAll_mk0),rfl,B.frame _,λ h=>by cases h⟩
theorem pV:joinedFacts Vyj 3 Tryz.f3 Rows.consoleSaysSpec Rows.consoleSaysRow=true:=by
 unfold joinedFacts;simp only[Bool.and_eq_true]
 and_intros<;>(as_aux_lemma=>kernel_rfl)
theorem tR:prog.funcNamed Rows.consoleSaysRow.func=some 3:=kQ
theorem sY:Rows.ConsoleSaysSaid :=
 OpenClaim.holds_of_wide 3 Tryz.f3 rfl rfl rfl rfl rfl rfl rfl ⟨rfl,rfl,rfl,rfl,rfl⟩ rfl rfl rfl rfl rfl tR func3 pV
  (Q1 kQ) (by unfold Func.isWrapper;first|(rw[Q5 (by decide +kernel)];kernel_rfl)|(rw[Q6 (by decide +kernel)];exact⟨rfl,rfl⟩))
  (λ c a H b _=>pf c a H b)
theorem consoleSays_holds:Rows.ConsoleSaysCardSaid :=
 Claim7.holds_tied_plain_at .later [] [.data, .data, .data, .data, .sentinel, .sentinel, .data, .data, .pinned] true (true, "b9df2d6e257851a4cf1ebfcab7b44aa1a0a7740c0006db48efa46f321b057a38") true
  sY (λ _ h=>by cases h) kQ (λ _ h=>by cases h) consoleSays_row_tie rfl ⟨rfl,rfl⟩ kQ rfl
  (λ f e d a=>by
   obtain rfl : f = 3 := Option.some.inj ((show prog.funcNamed "fellrunner/fellrunnerlaw.ConsoleSays" = some 3 by kernel_rfl).symm.trans d) |>.symm
   obtain rfl:e=Tryz.f3:=(Option.some.inj (func3.symm.trans a)).symm;exact⟨kQ,λ j t b=>by
    rw[params3]at b;have c:t∈[22]:=by simpa using Array.mem_of_getElem? b
    have g:([22].all λ u=>!prog.wantsStandIn u)=true:=kQ;exact(show prog.wantsStandIn t=Vl by simpa using List.all_eq_true.1 g t c)⟩)
  kQ
#print axioms consoleSays_holds
end Go.Proofs.YtikdmenjibkgiaaGreatDoor
