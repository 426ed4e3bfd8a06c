/- Texts laid together. -/
import Derived.Test.YtmaefimaeelkbaaGreatDoorP6
import Derived.Test.YtmaefimaeelkbaaGreatDoorP8
import Derived.Shelf.Spec.SlicesInsertGrow
import Derived.WideKeyEntry
namespace Go.Proofs.YtmaefimaeelkbaaGreatDoor
open _root_.List renaming flatMap_append→O8,flatMap_cons→Oh,flatMap_nil→Pv,append_nil→Nt,length_append→MM,length_cons→Nf,getElem?_append_right→Ni,getElem?_drop→OD,length_eq_zero_iff→NK,getElem?_eq_some_iff→Np,take_add_one→Nb,filter_append→NQ,length_filter_le→Nk,length_take→MY,take_length→M9,mem_of_getElem?→MZ,Nodup→Pu,pairwise_map→N7,mem_map→NH,mem_filter→Ns,mem_append→MT,nil_append→Pf,append_assoc→Nq,length_map→NP,length_drop→NM,filter_cons_of_pos→Pb,mem_cons_self→M4,mem_cons_of_mem→MV,filter_cons_of_neg→O9,mem_cons→Nh,getElem_of_mem→Nv,getElem?_eq_getElem→MJ,pairwise_iff_getElem→NT,getElem?_eq_none→NC,take_of_length_le→NV,take_append_of_le_length→Ol,size_toArray→Oi,mem_singleton→MU,getD_eq_getElem?_getD→MS,getElem_take→OV,mem_range→NR,length_reverse→O3,getElem_mem→ND,replicate→N8,length_replicate→OE,getElem?_map→NF,getElem?_range→Oj,getElem?_append_left→Nd
open _root_.Or renaming inl→MG,inr→MF
open _root_.Array renaming getElem?_eq_some_iff→Na
open _root_.Nat renaming zero_add→M8,le_trans→M5,zero_le→MQ,ne_of_lt→NO,lt_of_lt_of_le→MN,mul_le_mul→Ov,lt_irrefl→NJ,add_comm→Po
open Go.World renaming ownsRow_nil→Nj,cell?_alloc_at→ME,frozen?→OU,cell?_of_block→NS,cell?_setCell_same→MO,cell?_setCell_other→MH,block_lt_of_cell?→MK,rangeAt_setCells_same→NG,there_setCells→NU,rangeAt_setCells_apart→NL
open _root_.Int renaming toNat_natCast→ML,le_refl→Nc,toNat_of_nonneg→Nl,add_comm→NI
open Go.Value renaming int→NB,bool→OZ,slice→Ny
open _root_.Bool renaming false_or→OS,or_false→OT,and_eq_true→MW
open Go.Value renaming int→PE
open Go.IntKind renaming i64→PF
open Go.Proofs.Tryz
open _root_.Option renaming some→OM,none→Pk
open _root_.Bool renaming true→Pm,false→PB
open Go renaming World→PG,Value→PH,Calls→PK
open Go.RowKit renaming Below→PI,Hid→PJ
open Go.Ending renaming returned→PM
open Go.Obj renaming cells→PN
variable {F:Int->Option (Int×Int)}{b o gf cap xb N lb vb eb top nh j g t i rb pb r:Nat}{v:PH}{cs xs:List PH}{A:Option Addr}{L l:List Nat}{f:Int->Option PH}{s d a c W H V:Int}{w w':PG}
set_option maxHeartbeats 8000000
set_option maxRecDepth 1000000
section
open Go.RowKit
def leV (e:LE):List Value:=[PE PF (e.to:Int),PE PF e.s,PE PF e.d,PE PF e.mid]
def bB (l:List LE):List Value:=l.flatMap leV
theorem dw (e:LE)(l:List LE):bB (e::l)=leV e++bB l:=rfl
theorem eU (l l':List LE):bB (l++l')=bB l++bB l':=by
 unfold bB;rw[O8]
theorem eh (e:LE):bB [e]=leV e:=by
 unfold bB;rw[Oh,Pv,Nt]
theorem rU (l:List LE):(bB l).length=l.length*4:=by
 induction l with
 |nil=>rfl
 |cons n l ih=>rw[dw,MM,ih,Nf];show 4+_=_;omega
theorem fU (l:List LE):∀u∈bB l,u.oneCell'=true:=by
 intro u hu;unfold bB at hu;obtain⟨n,_,hn⟩:=List.mem_flatMap.1 hu;unfold leV at hn;simp at hn;rcases hn with rfl|rfl|rfl|rfl<;>rfl
theorem Cm:∀(l:List LE) (i:Nat) (e:LE),l[i]? = OM e->(bB l)[i*4]? = OM (PE PF (e.to:Int))/\(bB l)[i*4+1]? = OM (PE PF e.s)/\(bB l)[i*4+2]? = OM (PE PF e.d)/\(bB l)[i*4+3]? = OM (PE PF e.mid)
 |[],i,e,h=>by simp at h
 |x::l,0,e,h=>by
  simp at h;subst h;rw[dw];exact⟨rfl,rfl,rfl,rfl⟩
 |x::l,i+1,e,h=>by
  have ih:=Cm l i e (by simpa using h);have hl:(leV x).length=4:=rfl;have key:∀k,(bB (x::l))[(i+1)*4+k]? = (bB l)[i*4+k]? := fun k=>by
   rw[dw,Ni (by rw[hl];omega),hl]
   congr 1;omega
  exact⟨(key 0).trans ih.1,(key 1).trans ih.2.1,(key 2).trans ih.2.2.1,(key 3).trans ih.2.2.2⟩
def dG (w:PG) (A:Option Addr) (l:List LE):Prop:=∀(i:Nat) (e:LE),l[i]? = OM e->∃b o,A=OM ⟨b,o,Pk⟩/\w.cell? ⟨b,o+i*4,Pk⟩=OM (PE PF (e.to:Int))/\w.cell? ⟨b,o+i*4+1,Pk⟩=OM (PE PF e.s)/\w.cell? ⟨b,o+i*4+2,Pk⟩=OM (PE PF e.d)/\w.cell? ⟨b,o+i*4+3,Pk⟩=OM (PE PF e.mid)
section
variable {w w' : PG} {A : Option Addr} {l : List LE}
theorem dG.keep {F:Nat->Prop}(h:dG w A l)(K:ai F w w')(hF:∀b o,A=OM ⟨b,o,Pk⟩->¬F b):dG w' A l:=fun i e hi=>by
 obtain⟨b,o,e0,h1,h2,h3,h4⟩:=h i e hi;have hb:=hF b o e0;exact⟨b,o,e0,K.cellOf h1 hb,K.cellOf h2 hb,K.cellOf h3 hb,K.cellOf h4 hb⟩
theorem dG.below (h:dG w A l)(hb:PI w.heap.size w w'):dG w' A l:=h.keep (F:=fun _=>False) (ai.of_below hb) (fun _ _ _=>id)
theorem dG.nil (w:PG)(A:Option Addr):dG w A []:=fun i e h=>by simp at h
theorem dG.lt (h:dG w A l)(hl:0<l.length):∃b o,A=OM ⟨b,o,Pk⟩/\b<w.heap.size:=by
 obtain⟨b,o,e0,h1,_⟩:=h 0 l[0] (by simp);exact⟨b,o,e0,aJ h1⟩
theorem dG.drop (h:dG w (OM ⟨b,o,Pk⟩) l)(k:Nat):dG w (OM ⟨b,o+k*4,Pk⟩) (l.drop k):=fun i e hi=>by
 rw[OD]at hi;obtain⟨b',o',e0,h1,h2,h3,h4⟩:=h (k+i) e hi;cases e0;refine⟨b,o+k*4,rfl,?_,?_,?_,?_⟩
 ·rw[show o+k*4+i*4=o+(k+i)*4 by omega];exact h1
 ·rw[show o+k*4+i*4+1=o+(k+i)*4+1 by omega];exact h2
 ·rw[show o+k*4+i*4+2=o+(k+i)*4+2 by omega];exact h3
 ·rw[show o+k*4+i*4+3=o+(k+i)*4+3 by omega];exact h4
theorem dY {base:Nat}(h:w.ownsRow base 204 4 v l.length (bB l)):∃A cap,v=.slice A l.length cap/\dG w A l/\((A=Pk/\l=[])\/∃g,A=OM ⟨g,0,Pk⟩/\v.ownBlock=OM g/\base<=g/\g<w.heap.size):=by
 rcases h.2 with⟨rfl,h0⟩|⟨g,cap,cur,rfl,hb,hg,_⟩
 ·have e:l=[]:=NK.1 h0;subst e;exact⟨Pk,0,rfl,dG.nil _ _,MG ⟨rfl,rfl⟩⟩
 ·refine⟨_,_,rfl,fun i e hi=>?_,MF ⟨g,rfl,rfl,hb,(Na.1 hg).1⟩⟩;obtain⟨e0,e1,e2,e3⟩:=Cm l i e hi;have VP:i<l.length:=(Np.1 hi).1;refine⟨g,0,rfl,?_,?_,?_,?_⟩
  ·rw[M8];exact(h.cellAt _ (by omega)).trans e0
  ·rw[M8];exact(h.cellAt _ (by omega)).trans e1
  ·rw[M8];exact(h.cellAt _ (by omega)).trans e2
  ·rw[M8];exact(h.cellAt _ (by omega)).trans e3
end
def dS (p:LE->Bool) (l:List LE) (k:Nat):List LE:=(l.take k).filter p
theorem yr {p:LE->Bool}{l:List LE}{k:Nat}{e:LE}(h:l[k]? = OM e)(hp:p e=PB):dS p l (k+1)=dS p l k:=by
 unfold dS;rw[Nb,h,NQ];simp[hp]
theorem tU {p:LE->Bool}{l:List LE}{k:Nat}{e:LE}(h:l[k]? = OM e)(hp:p e=Pm):dS p l (k+1)=dS p l k++[e]:=by
 unfold dS;rw[Nb,h,NQ];simp[hp]
theorem tV {p:LE->Bool}{l:List LE}{k:Nat}:(dS p l k).length<=l.length :=
 M5 (Nk _ _) (by rw[MY];omega)
theorem tW {p:LE->Bool}{l:List LE}:dS p l l.length=l.filter p:=by
 unfold dS;rw[M9]
end
section
open Go.RowKit
theorem Qzx {l:List LE}{p:LE->Bool}(w:PG)(PT:dG w A l)(hl:l.length<=256)(Zg:∀(args:Array PH) (w:PG),(callFunc gf args).run prog w=.ok (.enter gf args) w)
  (hC:∀(w':PG) (e:LE),PI w.heap.size w w'->e∈l->PK prog gf (.agg #[PE PF (e.to:Int),PE PF e.s,PE PF e.d,PE PF e.mid]::cs).toArray w' fun r Q2=>r=PM (.bool (p e))/\PI w'.heap.size w' Q2) :
  PK prog 101 #[.slice A l.length cap,.func (.func gf) #[] cs.toArray] w fun e w'=>∃v,e=PM v/\w'.ownsRow w.heap.size 204 4 v (l.filter p).length (bB (l.filter p))/\PI w.heap.size w w':=by
 obtain⟨i0,hi,P0,P3,Qd⟩:=info_parts Tryz.infoE;have HC:=ae hC;clear hC;go_enter func101,ntmps101;go_wp2;go_loopw [5,10] (fun fv iv wr=>∃k:Nat,k<=l.length/\iv=PE PF k/\wr.ownsRow w.heap.size 204 4 fv (dS p l k).length (bB (dS p l k))/\PI w.heap.size w wr)
  (fun _ i _=>l.length-(intOf i).toNat)
 case atStart=>exact⟨0,MQ _,rfl,Nj _ _ _ _,al⟩
 case round =>
  obtain⟨k,hk,rfl,hown,hB⟩:=hrel;by_cases PO:k<l.length
  ·obtain⟨e,he⟩:∃e,l[k]? = OM e:=⟨l[k],by simp[PO]⟩;obtain⟨b,o,rfl,q1,q2,q3,q4⟩:=(PT.below hB) k e he;have hem:e∈l:=MZ he;have i1:(0:Int)<=(k:Int):=(by omega);have i2:(k:Int)<(l.length:Int):=(by omega);have VM:=hB.size;have B0:PI w.heap.size w (wr.alloc (PN #[PE PF (e.to:Int),PE PF e.s,PE PF e.d,PE PF e.mid] 204)):=hB.alloc VM _;have b0:=aQ wr (PN #[PE PF (e.to:Int),PE PF e.s,PE PF e.d,PE PF e.mid] 204);have Ql:=HC.out (wr.alloc (PN #[PE PF (e.to:Int),PE PF e.s,PE PF e.d,PE PF e.mid] 204)) e B0 hem;have RY:(dS p l k).length<=256:=M5 tV hl;have WQ:=aq hown b0;have x0:(wr.alloc (PN #[PE PF (e.to:Int),PE PF e.s,PE PF e.d,PE PF e.mid] 204)).cell? ⟨wr.heap.size,0,Pk⟩=OM (PE PF (e.to:Int)):=ME _ _ _ 0 rfl;have x1:(wr.alloc (PN #[PE PF (e.to:Int),PE PF e.s,PE PF e.d,PE PF e.mid] 204)).cell? ⟨wr.heap.size,1,Pk⟩=OM (PE PF e.s):=ME _ _ _ 1 rfl;have x2:(wr.alloc (PN #[PE PF (e.to:Int),PE PF e.s,PE PF e.d,PE PF e.mid] 204)).cell? ⟨wr.heap.size,2,Pk⟩=OM (PE PF e.d):=ME _ _ _ 2 rfl;have x3:(wr.alloc (PN #[PE PF (e.to:Int),PE PF e.s,PE PF e.d,PE PF e.mid] 204)).cell? ⟨wr.heap.size,3,Pk⟩=OM (PE PF e.mid):=ME _ _ _ 3 rfl;have Zm:PJ (leV e=[PE PF (e.to:Int),PE PF e.s,PE PF e.d,PE PF e.mid]):=rfl;have Qc:=fun h=>yr (p:=p) he h;have hys:=fun h=>tU (p:=p) he h;generalize WA:p e=pe at *;have SW:=ae Qc;have Xo:=ae hys;clear Qc hys WA hem he hown b0 hB;generalize (e.to:Int)=et at *;generalize e.s=es at *;generalize e.d=ed at *;generalize e.mid=em at *;have hX:w.heap.size<=wr.heap.size:=VM;cases pe with
   |false =>
    have HS:PJ (dS p l (k+1)=dS p l k):=SW.out rfl;clear SW Xo;go_wp2_with fail;generalize wr.alloc (PN #[PE PF et,PE PF es,PE PF ed,PE PF em] 204)=w1 at *;refine Ql.mono ?_;rintro r w2 ⟨rfl,hb2⟩;have Uv:=aq WQ hb2;have B2:=ak B0 hb2;clear Ql WQ hb2 x0 x1 x2 x3 B0;go_wp2;go_roundw
    case rel=>exact⟨k+1,by omega,by go_num,by rw[HS.out];exact Uv,B2⟩
    case measure=>simp[intOf];omega
   |true =>
    have HS:PJ (dS p l (k+1)=dS p l k++[e]):=Xo.out rfl;clear SW Xo;generalize dS p l k=F at *;go_wp2_with fail;generalize wr.alloc (PN #[PE PF et,PE PF es,PE PF ed,PE PF em] 204)=w1 at *;refine Ql.mono ?_;rintro r w2 ⟨rfl,hb2⟩;have QT:=aq WQ hb2;have B3:=ak B0 hb2;have y0:=ar hb2 x0;have y1:=ar hb2 x1;have y2:=ar hb2 x2;have y3:=ar hb2 x3;have hz3:=B3.size;clear Ql WQ hb2 x0 x1 x2 x3 B0;go_wp2_with (at_builtin;refine wpList_append_own _ rfl _ _ 126 rfl w.heap.size 204 i0 (.agg #[PE PF 0,PE PF 0,PE PF 0,PE PF 0]) 4 32 Tryz.underE hi P0 P3 Qd rfl (by decide) _ _ _ rfl (QT.alloc _) ⟨w2.heap.size,0,Pk⟩ 1 1 [PE PF et,PE PF es,PE PF ed,PE PF em] rfl rfl (bK _ _ _ _ _ _) (by intro u hu;simp at hu;rcases hu with rfl|rfl|rfl|rfl<;>rfl) ?c3 ?c4 ?c5 ?_)
    case c3=>unfold maxLen;omega
    case c4=>omega
    case c5=>simp;omega
    intro v' w4 PS PR _;have PX:=fun q hq=>(QT.lt q hq).1;have B4:PI w.heap.size w w4:=(B3.alloc hz3 _).grown PR (by simp;omega) PX;have O4:w4.ownsRow w.heap.size 204 4 v' (F++[e]).length (bB (F++[e])):=by
     rw[eU,eh,Zm.out]
     simpa using PS
    clear PS PR QT B3 y0 y1 y2 y3;go_wp2;go_roundw
    case rel=>exact⟨k+1,by omega,by go_num,by rw[HS.out];exact O4,B4⟩
    case measure=>simp[intOf];omega
  ·have e:k=l.length:=(by omega);subst e;have HF:PJ (dS p l l.length=l.filter p):=tW;rw[HF.out]at hown;go_wp2;go_ret;exact⟨_,rfl,hown,hB⟩
theorem AG {l:List LE}{p:LE->Bool}(w:PG)(PT:dG w A l)(hl:l.length<=256)
  (hC:∀(w':PG) (e:LE),PI w.heap.size w w'->e∈l->PK prog 102 #[.agg #[PE PF (e.to:Int),PE PF e.s,PE PF e.d,PE PF e.mid]] w' fun r Q2=>r=PM (.bool (p e))/\PI w'.heap.size w' Q2) :
  PK prog 101 #[.slice A l.length cap,.func (.func 102) #[] #[]] w fun e w'=>∃v,e=PM v/\w'.ownsRow w.heap.size 204 4 v (l.filter p).length (bB (l.filter p))/\PI w.heap.size w w' :=
 Qzx (cs:=[]) w PT hl (fun _ _=>by kernel_rfl) hC
theorem Ev {l:List LE}{p:LE->Bool}(w:PG)(PT:dG w A l)(hl:l.length<=256)
  (hC:∀(w':PG) (e:LE),PI w.heap.size w w'->e∈l->PK prog 161 #[.agg #[PE PF (e.to:Int),PE PF e.s,PE PF e.d,PE PF e.mid],.pointer (OM ⟨xb,0,Pk⟩)] w' fun r Q2=>r=PM (.bool (p e))/\PI w'.heap.size w' Q2) :
  PK prog 101 #[.slice A l.length cap,.func (.func 161) #[] #[.pointer (OM ⟨xb,0,Pk⟩)]] w fun e w'=>∃v,e=PM v/\w'.ownsRow w.heap.size 204 4 v (l.filter p).length (bB (l.filter p))/\PI w.heap.size w w' :=
 Qzx (cs:=[.pointer (OM ⟨xb,0,Pk⟩)]) w PT hl (fun _ _=>by kernel_rfl) hC
theorem AH {kb nb:Nat}{l:List LE}{p:LE->Bool}(w:PG)(PT:dG w A l)(hl:l.length<=256)
  (hC:∀(w':PG) (e:LE),PI w.heap.size w w'->e∈l->PK prog 227 #[.agg #[PE PF (e.to:Int),PE PF e.s,PE PF e.d,PE PF e.mid],.pointer (OM ⟨kb,0,Pk⟩),.pointer (OM ⟨nb,0,Pk⟩),.pointer (OM ⟨xb,0,Pk⟩)] w' fun r Q2=>r=PM (.bool (p e))/\PI w'.heap.size w' Q2) :
  PK prog 101 #[.slice A l.length cap,.func (.func 227) #[] #[.pointer (OM ⟨kb,0,Pk⟩),.pointer (OM ⟨nb,0,Pk⟩),.pointer (OM ⟨xb,0,Pk⟩)]] w fun e w'=>∃v,e=PM v/\w'.ownsRow w.heap.size 204 4 v (l.filter p).length (bB (l.filter p))/\PI w.heap.size w w' :=
 Qzx (cs:=[.pointer (OM ⟨kb,0,Pk⟩),.pointer (OM ⟨nb,0,Pk⟩),.pointer (OM ⟨xb,0,Pk⟩)]) w PT hl (fun _ _=>by kernel_rfl) hC
end
section
open Go.RowKit
theorem Tryz.underV:Tryz.prog.underlying 129=OM (.map 3 3):=by kernel_rfl
theorem Tryz.underK:Tryz.prog.underlying 225=OM (.map 3 53):=by kernel_rfl
theorem jD (w:PG):(zeroValue 53).run prog w=.ok (.agg #[PE PF 0,PE PF 0]) w:=by kernel_rfl
def lvF (L:List Nat) (lev:Nat->Nat):Int->Option Value:=fun i=>if 0<=i/\i.toNat∈L then OM (PE PF (lev i.toNat:Int)) else Pk
theorem rV {lev:Nat->Nat}{n:Nat}(h:n∈L):lvF L lev (n:Int)=OM (PE PF (lev n:Int)):=by
 unfold lvF;rw[if_pos ⟨by omega,by simpa using h⟩,ML]
theorem JJ {lev:Nat->Nat}{n:Nat}(h:n∈L)(t:Nat):bL (lvF L lev) (n:Int) (PE PF (t:Int))=lvF L (fun k=>if k=n then t else lev k):=by
 funext i
 unfold bL lvF;by_cases e:i=(n:Int)
 ·subst e;rw[if_pos rfl,if_pos ⟨by omega,by simpa using h⟩,ML];show _=OM (NB .i64 ((if n=n then t else lev n:Nat):Int));rw[if_pos rfl]
 ·rw[if_neg e];by_cases hi:0<=i/\i.toNat∈L
  ·rw[if_pos hi,if_pos hi];show _=OM (NB .i64 ((if i.toNat=n then t else lev i.toNat:Nat):Int));rw[if_neg (by omega)]
  ·rw[if_neg hi,if_neg hi]
structure cD (w:PG) (N lb vb eb:Nat) (top:Nat) (L:List Nat) (st:LSt) (f:Int->Option PH):Prop where
 c0:w.cell? ⟨lb,0,Pk⟩=OM (PE PF (top:Int))
 c1:w.cell? ⟨lb,1,Pk⟩=OM (.map (OM vb))
 c2:w.cell? ⟨lb,2,Pk⟩=OM (.map (OM eb))
 fz:w.frozen? ⟨lb,0,Pk⟩=PB
 lv:aZ prog 3 w vb (lvF L st.lev) L.length
 em:aZ prog 3 w eb f L.length
 row:∀n∈L,∃v,f (n:Int)=OM v/\w.ownsRow N 204 4 v (st.es n).length (bB (st.es n))
 no:∀i v,f i=OM v->0<=i/\i.toNat∈L
 apart:∀n m v v' g,f n=OM v->f m=OM v'->v.ownBlock=OM g->v'.ownBlock=OM g->n=m
 off:∀n v,f n=OM v->v.ownBlock≠OM lb
 nb:N<=lb/\N<=vb/\N<=eb
 ne:vb≠eb
 bd:∀n∈L,n<256
 len:L.length<=256
def LvB (lb vb eb:Nat) (f:Int->Option PH) (g:Nat):Prop:=g=lb\/g=vb\/g=eb\/∃i v,f i=OM v/\v.ownBlock=OM g
section
variable {w w' : PG} {N lb vb eb top : Nat} {L : List Nat} {st : LSt} {f : Int → Option PH}
theorem cD.lts (V:cD w N lb vb eb top L st f):lb<w.heap.size/\vb<w.heap.size/\eb<w.heap.size:=⟨aJ V.c0,V.lv.lt,V.em.lt⟩
theorem cD.nes (V:cD w N lb vb eb top L st f):lb≠vb/\lb≠eb:=by
 constructor
 ·intro e;have h:=V.lv.cell 0;rw[<- e,V.c0]at h;cases h
 ·intro e;have h:=V.em.cell 0;rw[<- e,V.c0]at h;cases h
theorem cD.keep {F:Nat->Prop}(V:cD w N lb vb eb top L st f)(K:ai F w w')(h:∀g,LvB lb vb eb f g->¬F g):cD w' N lb vb eb top L st f:=by
 have h1:=h lb (MG rfl);refine⟨K.cellOf V.c0 h1,K.cellOf V.c1 h1,K.cellOf V.c2 h1,(K.frozen (p:=⟨lb,0,Pk⟩) V.lts.1 h1).trans V.fz,V.lv.keep K (h vb (MF (MG rfl))),V.em.keep K (h eb (MF (MF (MG rfl)))),fun n hn=>?_,V.no,V.apart,V.off,V.nb,V.ne,V.bd,V.len⟩;obtain⟨v,e1,e2⟩:=V.row n hn;exact⟨v,e1,bq e2 K (fun g hg=>h g (MF (MF (MF ⟨_,v,e1,hg⟩))))⟩
theorem cD.below (V:cD w N lb vb eb top L st f)(hb:PI w.heap.size w w'):cD w' N lb vb eb top L st f:=V.keep (F:=fun _=>False) (ai.of_below hb) (fun _ _=>id)
theorem cD.look (V:cD w N lb vb eb top L st f){n:Nat}(hn:n∈L):(Instr.lookup 129 (.map (OM vb)) (PE PF (n:Int)) PB).run prog w=.ok (PE PF (st.lev n:Int)) w :=
 V.lv.look_some aY Tryz.underV (kP w) (aC (by omega) (by have:=V.bd n hn;omega)) (rV hn) PB
theorem cD.edges (V:cD w N lb vb eb top L st f){n:Nat}(hn:n∈L):∃A cap,(Instr.lookup 123 (.map (OM eb)) (PE PF (n:Int)) PB).run prog w=.ok (.slice A (st.es n).length cap) w/\dG w A (st.es n)/\f (n:Int)=OM (.slice A (st.es n).length cap):=by
 obtain⟨v,e1,e2⟩:=V.row n hn;obtain⟨A,cap,rfl,h1,_⟩:=dY e2;exact⟨A,cap,V.em.look_some aY Tryz.underM (j6 w) (aC (by omega) (by have:=V.bd n hn;omega)) e1 PB,h1,e1⟩
end
theorem rW {n:Nat}{st:LSt}(w:PG)(V:cD w N lb vb eb top L st f)(hn:n∈L) :
  PK prog 162 #[.pointer (OM ⟨lb,0,Pk⟩),PE PF (n:Int)] w fun e w'=>e=PM (.bool (st.lev n==0))/\w'=w:=by
 have h1:=V.look hn;have c1:=V.c1;have hr:(st.lev n==0)=decide ((st.lev n:Int)=0):=by
  by_cases e:st.lev n=0
  ·rw[e];rfl
  ·have e2:¬(st.lev n:Int)=0:=(by omega);rw[decide_eq_false e2];simpa using e
 rw[hr];clear V hr;generalize (st.lev n:Int)=k at *;go_enter func162,ntmps162;go_wp2;go_ret;exact⟨rfl,rfl⟩
theorem Ig {st:LSt}(w:PG)(V:cD w N lb vb eb top L st f)(hx:w.cell? ⟨xb,0,Pk⟩=OM (.pointer (OM ⟨lb,0,Pk⟩)))(e:LE)(he:e.to∈L) :
  PK prog 161 #[.agg #[PE PF (e.to:Int),PE PF e.s,PE PF e.d,PE PF e.mid],.pointer (OM ⟨xb,0,Pk⟩)] w fun r w'=>r=PM (.bool (st.lev e.to==0))/\PI w.heap.size w w':=by
 have B0:=aQ w (PN #[PE PF (e.to:Int),PE PF e.s,PE PF e.d,PE PF e.mid] 204);have h1:=rW _ (V.below B0) he;have Yj:=ar B0 hx;clear V hx;generalize (st.lev e.to==0)=r at *;generalize (e.to:Int)=et at *;generalize e.s=es at *;generalize e.d=ed at *;generalize e.mid=em at *;go_enter func161,ntmps161;go_wp2_with fail;refine h1.mono ?_;rintro r1 w1 ⟨rfl,rfl⟩;clear h1;go_wp2;go_ret;exact⟨rfl,B0⟩
theorem Ew {kb nb mb k n:Nat}{st:LSt}{F:Int->Option (Int×Int)}(w:PG)(V:cD w N lb vb eb top L st f)(hx:w.cell? ⟨xb,0,Pk⟩=OM (.pointer (OM ⟨lb,0,Pk⟩)))
  (hk:w.cell? ⟨kb,0,Pk⟩=OM (.map (OM mb))) (hn:w.cell? ⟨nb,0,Pk⟩=OM (PE PF (n:Int))) (M:aZ prog 3 w mb (fv F) k) (e:LE) (he:e.to∈L) :
  PK prog 227 #[.agg #[PE PF (e.to:Int),PE PF e.s,PE PF e.d,PE PF e.mid],.pointer (OM ⟨kb,0,Pk⟩),.pointer (OM ⟨nb,0,Pk⟩),.pointer (OM ⟨xb,0,Pk⟩)] w fun r w'=>r=PM (.bool (!(F (e.to:Int)).isSome&&(decide (e.to≠n)&&(st.lev e.to==0))))/\PI w.heap.size w w':=by
 have B0:=aQ w (PN #[PE PF (e.to:Int),PE PF e.s,PE PF e.d,PE PF e.mid] 204);have VJ:=aC (a:=(e.to:Int)) (by omega) (by have:=V.bd _ he;omega);have M0:=M.keep (F:=fun _=>False) (ai.of_below B0) id;have Yj:=ar B0 hx;have hk0:=ar B0 hk;have Vu:=ar B0 hn;have V0:=V.below B0;have x0:(w.alloc (PN #[PE PF (e.to:Int),PE PF e.s,PE PF e.d,PE PF e.mid] 204)).cell? ⟨w.heap.size,0,Pk⟩=OM (PE PF (e.to:Int)):=ME _ _ _ 0 rfl;have hdn:decide (e.to≠n)=decide (¬(e.to:Int)=(n:Int)):=by
  by_cases q:e.to=n
  ·have q2:(e.to:Int)=(n:Int):=(by omega);rw[decide_eq_false (by simpa using q),decide_eq_false (by simpa using q2)]
  ·have q2:¬(e.to:Int)=(n:Int):=(by omega);rw[decide_eq_true q,decide_eq_true q2]
 rw[hdn];clear hdn M V hx hk hn;cases hF:F (e.to:Int) with
 |some c =>
  obtain⟨s,d⟩:=c;have hl:(Instr.lookup 225 (.map (OM mb)) (PE PF (e.to:Int)) Pm).run prog (w.alloc (PN #[PE PF (e.to:Int),PE PF e.s,PE PF e.d,PE PF e.mid] 204))=.ok (.tuple #[.agg #[PE PF s,PE PF d],.bool Pm]) (w.alloc (PN #[PE PF (e.to:Int),PE PF e.s,PE PF e.d,PE PF e.mid] 204)):=M0.look_some aY Tryz.underK (jD _) VJ (gP hF) Pm;have er:(!(OM (s,d)).isSome&&(decide (¬(e.to:Int)=(n:Int))&&(st.lev e.to==0)))=false:=rfl;rw[er];have B1:=B0.alloc B0.size (PN #[PE PF s,PE PF d] 53);clear er hF M0 V0;generalize (e.to:Int)=et at *;generalize e.s=es at *;generalize e.d=ed at *;generalize e.mid=em at *;go_enter func227,ntmps227;go_wp2;go_ret;exact⟨rfl,B1⟩
 |none =>
  have hl:(Instr.lookup 225 (.map (OM mb)) (PE PF (e.to:Int)) Pm).run prog (w.alloc (PN #[PE PF (e.to:Int),PE PF e.s,PE PF e.d,PE PF e.mid] 204))=.ok (.tuple #[.agg #[PE PF 0,PE PF 0],.bool PB]) (w.alloc (PN #[PE PF (e.to:Int),PE PF e.s,PE PF e.d,PE PF e.mid] 204)):=M0.look_none aY Tryz.underK (jD _) VJ (jR hF) Pm;have B1:=B0.alloc B0.size (PN #[PE PF 0,PE PF 0] 53);have b1:PI (w.alloc (PN #[PE PF (e.to:Int),PE PF e.s,PE PF e.d,PE PF e.mid] 204)).heap.size (w.alloc (PN #[PE PF (e.to:Int),PE PF e.s,PE PF e.d,PE PF e.mid] 204)) ((w.alloc (PN #[PE PF (e.to:Int),PE PF e.s,PE PF e.d,PE PF e.mid] 204)).alloc (PN #[PE PF 0,PE PF 0] 53)):=al.alloc aj _;have h1:=rW _ (V0.below b1) he;have SM:=ar b1 Yj;have Za:=ar b1 Vu;have x1:=ar b1 x0;by_cases q:(e.to:Int)=(n:Int)
  ·have er:(!(Pk:Option (Int×Int)).isSome&&(decide (¬(e.to:Int)=(n:Int))&&(st.lev e.to==0)))=false:=(by rw[decide_eq_false (by simpa using q)];rfl);rw[er];rw[<- q]at Vu Za;clear er hF M0 V0 h1 b1 q;generalize (e.to:Int)=et at *;generalize e.s=es at *;generalize e.d=ed at *;generalize e.mid=em at *;go_enter func227,ntmps227;go_wp2;go_ret;exact⟨rfl,B1⟩
  ·have er:(!(Pk:Option (Int×Int)).isSome&&(decide (¬(e.to:Int)=(n:Int))&&(st.lev e.to==0)))=(st.lev e.to==0):=(by rw[decide_eq_true q];rfl);rw[er];clear er hF M0 V0;generalize (st.lev e.to==0)=r at *;generalize (e.to:Int)=et at *;generalize e.s=es at *;generalize e.d=ed at *;generalize e.mid=em at *;have q2:(et != (n:Int))=true:=by simpa using q
   go_enter func227,ntmps227;go_wp2_with fail;refine h1.mono ?_;rintro r1 w1 ⟨rfl,rfl⟩;clear h1;go_wp2;go_ret;refine⟨?_,B1⟩;simp
end
section
open Go.RowKit
structure Okl (L:List Nat) (K:Int) (st:LSt):Prop where
 esy:Esy st.es
 cor:Cor L st
 bd:∀{a e},e∈st.es a->0<=e.s/\0<=e.d/\e.s<=K/\e.d<=K
section
variable {L : List Nat} {K : Int} {st : LSt} {n o : Nat}
theorem Okl.edge (O:Okl L K st){a b t u:Int}(h:EdR st n a b t u):0<=t/\0<=u/\t<=K/\u<=K/\∃m:Nat,b=(m:Int)/\m∈L:=by
 obtain⟨e,h1,rfl,rfl,rfl,_,_⟩:=h;obtain⟨b1,b2,b3,b4⟩:=O.bd h1;exact⟨b1,b2,b3,b4,e.to,rfl,(O.cor.ends h1).2⟩
theorem Okl.way (O:Okl L K st)(ho:o∈L){a s d:Int}(h:Wg (EdR st n) (o:Int) a s d):0<=s/\0<=d/\∃m:Nat,a=(m:Int)/\m∈L :=
 h (fun a s d=>0<=s/\0<=d/\∃m:Nat,a=(m:Int)/\m∈L) ⟨Nc _,Nc _,o,rfl,ho⟩ (fun a s d b t u hx e=>by
  obtain⟨h1,h2,_,_,h3⟩:=O.edge e;exact⟨by omega,by omega,h3⟩)
theorem Okl.one (O:Okl L K st){a b t u t' u':Int}(h:EdR st n a b t u)(h':EdR st n a b t' u'):t'=t/\u'=u:=by
 obtain⟨e,h1,h2,rfl,rfl,_,_⟩:=h;obtain⟨e',h1',Zc,rfl,rfl,_,_⟩:=h';have:=(O.esy.ord _).one h1' h1 (by omega);subst this;exact⟨rfl,rfl⟩
theorem Okl.len (O:Okl L K st)(hb:∀n∈L,n<256)(a:Nat):(st.es a).length<=256:=by
 have h1:((st.es a).map (·.to)).Nodup:=by
  unfold Pu;rw[N7];exact(O.esy.ord a).imp (fun h=>NO h)
 have:=cQ 256 h1 (fun n hn=>by
  obtain⟨e,he,rfl⟩:=NH.1 hn;exact hb _ (O.cor.ends he).2)
 simpa using this
end
theorem Ih (h1:0<=s)(h2:0<=d)(h:val s d<=val 1024 1024):s<=2500/\d<=2500:=by
 have e:val 1024 1024=95459694592:=by decide
 rw[e]at h;unfold val at h;omega
def JK (st:LSt) (n a:Nat) (M:Int) (F:Int->Option (Int×Int)):Prop :=
 ∀(b x y:Int),val x y<=M->((∃p q,Wg (EdR st n) (a:Int) b p q/\val p q<=val x y)↔∃p q,F b=OM (p,q)/\val p q<=val x y)
structure kV (w:PG) (X lb:Nat) (n ms md:Int) (v:PH) (nh:Nat) (R F:Int->Option (Int×Int)):Prop where
 x:w.cell? ⟨X,0,Pk⟩=OM (.pointer (OM ⟨lb,0,Pk⟩))
 n:w.cell? ⟨X+1,0,Pk⟩=OM (PE PF n)
 m:bz w (X+2) ms md
 k:w.cell? ⟨X+4,0,Pk⟩=OM (.map (OM (X+3)))
 mp:aZ prog 3 w (X+3) (fv F) (cnt F 256)
 hp:bS w (X+6) (X+5) v nh R
 own:∀g,v.ownBlock=OM g->X+7<=g
 few:nh<=1+256*cnt F 256
section
variable {w w' : PG} {X lb : Nat} {n ms md : Int} {v v' : PH} {nh Sp : Nat} {R R' F : Int → Option (Int × Int)}
theorem kV.below (D:kV w X lb n ms md v nh R F)(hb:PI w.heap.size w w'):kV w' X lb n ms md v nh R F :=
 ⟨(hb.cell (aJ D.x)).trans D.x,(hb.cell (aJ D.n)).trans D.n,D.m.below hb,(hb.cell (aJ D.k)).trans D.k,D.mp.keep (F:=fun _=>False) (ai.of_below hb) id,D.hp.below hb,D.own,D.few⟩
theorem kV.far (D:kV w X lb n ms md v nh R F):∀g,hb3 (X+6) (X+5) v g->X+5<=g:=by
 rintro g (rfl|rfl|h)
 ·omega
 ·omega
 ·have:=D.own g h;omega
theorem kV.heap (D:kV w X lb n ms md v nh R F)(K:ai (hb3 (X+6) (X+5) v) w w')(hp:bS w' (X+6) (X+5) v' Sp R')(hown:∀g,v'.ownBlock=OM g->X+7<=g)(hf:Sp<=1+256*cnt F 256):kV w' X lb n ms md v' Sp R' F:=by
 have nf:∀g,g<X+5->¬hb3 (X+6) (X+5) v g:=fun g hg h=>by have:=D.far g h;omega
 exact⟨K.cellOf D.x (nf X (by omega)),K.cellOf D.n (nf (X+1) (by omega)),D.m.keep K (nf (X+2) (by omega)),K.cellOf D.k (nf (X+4) (by omega)),D.mp.keep K (nf (X+3) (by omega)),hp,hown,hf⟩
theorem kV.known (D:kV w X lb n ms md v nh R F){a s d:Int}(h0:0<=a)(h1:a<256)(hF:F a=Pk)(hm:aZ prog 3 w' (X+3) (bL (fv F) a (.agg #[PE PF s,PE PF d])) (if (fv F a).isSome then cnt F 256 else cnt F 256+1))(ht:w.mapTurned w' (X+3)):kV w' X lb n ms md v nh R (aB F a s d):=by
 have K:=aA ht;have e:cnt (aB F a s d) 256=cnt F 256+1:=fY F a s d 256 h0 h1 hF;rw[uR,jR hF]at hm;have hown:=D.own;refine⟨K.cellOf D.x (by show ¬X=X+3;omega),K.cellOf D.n (by show ¬X+1=X+3;omega),D.m.keep K (by omega),K.cellOf D.k (by show ¬X+4=X+3;omega),?_,D.hp.keep K (by omega) (by omega) (fun g hg=>by have:=hown g hg;omega),D.own,?_⟩
 ·rw[e];exact hm
 ·have:=D.few;rw[e];omega
end
end
section
open Go.RowKit
structure Mm (w wr:PG) (X lb:Nat) (st:LSt) (n a:Nat) (ms md:Int) (F:Int->Option (Int×Int)) (nv cv mv:PH):Prop where
 ex:∃(Hh R:Int->Option (Int×Int)) (v:PH) (nh cb:Nat) (s d:Int),cv=.pointer (OM ⟨cb,0,Pk⟩)/\X+7<=cb/\v.ownBlock≠OM cb/\bz wr cb s d/\okC s d/\kV wr X lb (n:Int) ms md v nh R F/\Dg (EdR st n) (a:Int) F Hh (fun _ _=>True) /\
  ((mv=.bool PB/\∀x,Hh x=Pk)\/∃c:Nat,mv=.bool Pm/\nv=PE PF (c:Int)/\Hh (c:Int)=OM (s,d)/\(∀{b t u},Hh b=OM (t,u)->val s d<=val t u)/\R=jO Hh (c:Int))
 sm:∀{x s d},F x=OM (s,d)->val s d<=val ms md
 bl:PI w.heap.size w wr
theorem kV.other {X C:Nat}{n ms md:Int}{R:Int->Option (Int×Int)}(D:kV w X lb n ms md v nh R F)(K:ai (fun k=>k=C) w w')(hC:X+7<=C)(hv:v.ownBlock≠OM C):kV w' X lb n ms md v nh R F :=
 ⟨K.cellOf D.x (by show ¬X=C;omega),K.cellOf D.n (by show ¬X+1=C;omega),D.m.keep K (by omega),K.cellOf D.k (by show ¬X+4=C;omega),D.mp.keep K (by omega),D.hp.keep K (by omega) (by omega) (fun g hg e=>hv (by rw[hg,e])),D.own,D.few⟩
theorem iQ (w:PG)(B:Nat)(x y:PH):ai (fun k=>k=B) w ((w.setCell ⟨B,0,Pk⟩ x).setCell ⟨B,1,Pk⟩ y) :=
 ((ai.refl (fun k=>k=B) w).setCell (p:=⟨B,0,Pk⟩) (fun _=>rfl) x).setCell (p:=⟨B,1,Pk⟩) (fun _=>rfl) y
theorem yu {n a:Nat}{st:LSt}{ms md:Int}(w:PG)(V:cD w N lb vb eb top L st f)(O:Okl L 512 st)(ha:a∈L)(m1:0<=ms)(m2:ms<=1024)(d1:0<=md)(d2:md<=1024) :
  PK prog 196 #[.pointer (OM ⟨lb,0,Pk⟩),PE PF (a:Int),PE PF (n:Int),.agg #[PE PF ms,PE PF md]] w fun e w'=>∃kb F,e=PM (.map (OM kb))/\aZ prog 3 w' kb (fv F) (cnt F 256)/\JK st n a (val ms md) F/\(∀{x s d},F x=OM (s,d)->okC s d)/\w.heap.size<=kb/\PI w.heap.size w w':=by
 have Tl:=@run_makeMap prog;have haL:=V.bd a ha;have VO:=aC (a:=(a:Int)) (by omega) (by omega);have okM:okC ms md:=by unfold okC;omega
 have ok0:okC 0 0:=by unfold okC;omega
 have Uy:0<=val ms md:=by unfold val;omega
 have hMb:val ms md<=val 1024 1024:=by unfold val;omega
 have HE:PJ (∀{a b t u},EdR st n a b t u->0<=val t u):=fun {a b t u} e=>by
  obtain⟨h1,h2,_⟩:=O.edge e;unfold val;omega
 have af4:PJ (∀F Hh,Dg (EdR st n) (a:Int) F Hh (fun _ _=>True)->(∀{b t u},Hh b=OM (t,u)->val ms md<val t u)->(∀{x s d},F x=OM (s,d)->val s d<=val ms md)->JK st n a (val ms md) F/\∀{x s d},F x=OM (s,d)->okC s d):=fun F Hh D hh sm =>
  ⟨fun b x y hxy=>D.within hh Uy HE.out hxy,fun {x s d} hx=>by
   obtain⟨h1,h2,_⟩:=O.way ha (D.sF hx);have:=Ih h1 h2 (Int.le_trans (sm hx) hMb);unfold okC;omega⟩
 obtain⟨W0,Ru⟩:∃W0,W0=(((((w.alloc (PN #[.pointer (OM ⟨lb,0,Pk⟩)] 89)).alloc (PN #[PE PF (n:Int)] 3)).alloc (PN #[PE PF ms,PE PF md] 53)).alloc (.map #[] 0)).alloc (PN #[.map (OM (w.heap.size+1+1+1))] 225)):=⟨_,rfl⟩;have P0:W0.heap.size=w.heap.size+5:=by rw[Ru];simp
 have BW:PI w.heap.size w W0:=by
  rw[Ru];exact((((al.alloc aj _).alloc (by simp) _).alloc (by simp;omega) _).alloc (by simp;omega) _).alloc (by simp;omega) _
 have k0:W0.cell? ⟨w.heap.size,0,Pk⟩=OM (.pointer (OM ⟨lb,0,Pk⟩)):=by
  rw[Ru];exact Lib.cell?_alloc_some _ (Lib.cell?_alloc_some _ (Lib.cell?_alloc_some _ (Lib.cell?_alloc_some _ (ME _ _ _ 0 rfl))))
 have k1:W0.cell? ⟨w.heap.size+1,0,Pk⟩=OM (PE PF (n:Int)):=by
  rw[Ru];exact Lib.cell?_alloc_some _ (Lib.cell?_alloc_some _ (Lib.cell?_alloc_some _ (ME _ _ _ 0 (by simp))))
 have k2:bz W0 (w.heap.size+2) ms md:=by
  have e2:((w.alloc (PN #[.pointer (OM ⟨lb,0,Pk⟩)] 89)).alloc (PN #[PE PF (n:Int)] 3)).heap.size=w.heap.size+2:=by simp
  have q:=bz.new ((w.alloc (PN #[.pointer (OM ⟨lb,0,Pk⟩)] 89)).alloc (PN #[PE PF (n:Int)] 3)) ms md;rw[e2]at q;rw[Ru];exact(q.below (al.alloc aj _)).below (al.alloc aj _)
 have k3:aZ prog 3 W0 (w.heap.size+3) (fv fun _=>Pk) (cnt (fun _=>Pk) 256):=by
  have e3:(((w.alloc (PN #[.pointer (OM ⟨lb,0,Pk⟩)] 89)).alloc (PN #[PE PF (n:Int)] 3)).alloc (PN #[PE PF ms,PE PF md] 53)).heap.size=w.heap.size+3:=by simp
  have q:=aZ.made (((w.alloc (PN #[.pointer (OM ⟨lb,0,Pk⟩)] 89)).alloc (PN #[PE PF (n:Int)] 3)).alloc (PN #[PE PF ms,PE PF md] 53)) prog 3;rw[e3]at q;rw[Ru,jg];exact q.keep (F:=fun _=>False) ((ai.refl _ _).alloc _) id
 have k4:W0.cell? ⟨w.heap.size+4,0,Pk⟩=OM (.map (OM (w.heap.size+3))):=by
  rw[Ru];exact ME _ _ _ 0 (by simp)
 have QU:=Ci W0;rw[P0]at QU;go_enter func196,ntmps196;go_wp2_with fail;rw[<- Ru];refine QU.mono ?_;rintro e w1 ⟨rfl,HA,hb1,P3⟩;have b1:PI W0.heap.size W0 w1:=by rw[P0];exact hb1
 have B1:=ak BW b1;have D1:kV w1 w.heap.size lb (n:Int) ms md (.slice Pk 0 0) 0 (fun _=>Pk) (fun _=>Pk) :=
  ⟨ar b1 k0,ar b1 k1,k2.below b1,ar b1 k4,k3.keep (F:=fun _=>False) (ai.of_below b1) id,HA,fun g hg=>(by cases hg),by omega⟩
 have S1:w.heap.size+7<=w1.heap.size:=by omega
 clear QU HA hb1 P3 b1 BW k0 k1 k2 k3 k4 P0;simp only[Nat.add_assoc,Nat.reduceAdd];go_wp2_with fail;refine(yd (a:Int) 0 0 _ D1.hp rfl ok0 VO (by omega)).mono ?_;rintro e w2 ⟨rfl,⟨v2,HB,WZ⟩,K2⟩;have D2:=D1.heap K2 HB (fun g hg=>by
  rcases WZ with h|⟨g',h,hg'⟩
  ·rw[h]at hg;cases hg
  ·rw[h]at hg;cases hg;omega) (by omega)
 have B2:PI w.heap.size w w2:=B1.trans (K2.to_below B1.size (fun k hk=>by have:=D1.far k hk;omega));have S2:w.heap.size+7<=w2.heap.size:=M5 S1 K2.size;clear D1 HB WZ K2 B1;go_wp2_with fail;refine(uU _ D2.hp).mono ?_;rintro e w3 ⟨c,s,d,rfl,Vo,Vm,⟨v3,HC,Xi⟩,K3⟩;have okc:=(D2.hp.fits Vo).1;have D3:=D2.heap K3 HC (fun g hg=>D2.own g (by rw[<- Xi];exact hg)) (by omega);have B3:PI w.heap.size w w3:=B2.trans (K3.to_below B2.size (fun k hk=>by have:=D2.far k hk;omega));have S3:w.heap.size+7<=w3.heap.size:=M5 S2 K3.size;have QV:PJ (Mm w (w3.alloc (PN #[PE PF s,PE PF d] 53)) w.heap.size lb st n a ms md (fun _=>Pk) (PE PF c) (.pointer (OM ⟨w3.heap.size,0,Pk⟩)) (.bool Pm)):=by
  have b4:=aQ w3 (PN #[PE PF s,PE PF d] 53);have DG:=Dg.start (EdR st n) (a:Int);obtain⟨_,_,m,SU,_⟩:=O.way ha (DG.sH Vo);subst SU;refine⟨⟨_,_,v3,_,w3.heap.size,s,d,rfl,S3,fun h=>?_,bz.new w3 s d,okc,D3.below b4,DG,MF ⟨m,rfl,rfl,Vo,fun {b t u} hb=>?_,rfl⟩⟩,fun h=>(by cases h),ak B3 b4⟩
  ·have:=(D3.hp.blocks).2.2 _ h;omega
  ·have:=Vm b t u hb;unfold bef br.v at this;simp only at this;omega
 clear D2 HC Xi K3 B2 Vo Vm D3 B3;go_wp2;go_loopg [11,12,13] 257 (fun gk nv cv mv wr=>∃F:Int->Option (Int×Int),gk=257-cnt F 256/\Mm w wr w.heap.size lb st n a ms md F nv cv mv)
 case atStart=>exact⟨_,by rw[jg],QV⟩
 case round =>
  clear QV;obtain⟨F,QD,R⟩:=hrel;have HG:=ae QD;clear QD;obtain⟨Hh,R0,v,nh,cb,s,d,rfl,hcb,hvc,sl,okc,D,DG,QS⟩:=R.ex;have hB:=R.bl;have SMF:PJ (∀{x s d},F x=OM (s,d)->val s d<=val ms md):=fun h=>R.sm h;clear R;have q7:=D.m.c0;have q8:=D.m.c1;have qk:=D.k;have s0:=sl.c0;have s1:=sl.c1;rcases QS with⟨rfl,Qc⟩|⟨c,rfl,rfl,hHc,hle,hR⟩
  ·obtain⟨hD1,hD2⟩:=af4.out F Hh DG (fun h=>by rw[Qc]at h;cases h) SMF.out;have HD1:PJ _:=hD1;have HD2:PJ (∀{x s d},F x=OM (s,d)->okC s d):=hD2;have mp:=D.mp;clear hD1 hD2 Qc DG;go_wp2;go_ret;exact⟨_,F,rfl,mp,HD1.out,HD2.out,by omega,hB⟩
  ·have PO:=jU (r:=ltB ms md s d) rfl wr okM okc;cases hl:ltB ms md s d with
   |true =>
    have hv:val ms md<val s d:=(ew okM okc).1 hl;obtain⟨hD1,hD2⟩:=af4.out F Hh DG (fun h=>Int.lt_of_lt_of_le hv (hle h)) SMF.out;have HD1:=ae hD1;have HD2:PJ (∀{x s d},F x=OM (s,d)->okC s d):=hD2;rw[hl]at PO;clear hD1 hD2 DG hHc hle hR hv hl;go_wp2_with fail;refine PO.mono ?_;rintro e w5 ⟨rfl,PV⟩;have D5:=D.below PV;have qk5:=D5.k;have mp5:=D5.mp;have B5:=ak hB PV;clear PO D PV D5 hB;go_wp2;go_ret;exact⟨_,F,rfl,mp5,HD1.out,HD2.out,by omega,B5⟩
   |false =>
    have hv:val s d<=val ms md:=by
     have h1:¬val ms md<val s d:=fun h=>by rw[(ew okM okc).2 h]at hl;cases hl
     omega
    rw[hl]at PO;clear hl;go_wp2_with fail;refine PO.mono ?_;rintro e w5 ⟨rfl,PV⟩;have hnh:nh<=1+256*cnt F 256:=D.few;have D5:=D.below PV;have sl5:=sl.below PV;have B5:=ak hB PV;clear PO D PV hB sl q7 q8 qk s0 s1;have qk:=D5.k;have s0:=sl5.c0;have s1:=sl5.c1;obtain⟨DG2,hFc,hmx⟩:=DG.pop hHc hle;obtain⟨n1,n2,c',VR,hcL⟩:=O.way ha (DG.sH hHc);have VR:c=c':=(by omega);subst VR;have aeJ:=V.bd c hcL;have hwc:=aC (a:=(c:Int)) (by omega) (by omega);have YN:=iA F 256;obtain⟨w6,abo,YJ,Zx⟩:=D5.mp.store aY Tryz.underK (by unfold maxLen;omega) hwc (.agg #[PE PF s,PE PF d]);have D6:=D5.known (by omega) (by omega) hFc YJ Zx;have K6:=aA Zx;have sl6:=sl5.keep K6 (by omega);have B6:PI w.heap.size w w6:=B5.trans (K6.to_below B5.size (fun k e=>by omega));have V6:=V.below B6;obtain⟨A,cap,hl6,SP,_⟩:=V6.edges hcL;have Qv:=AH (kb:=w.heap.size+4) (nb:=w.heap.size+1) (xb:=w.heap.size) (cap:=cap) (p:=fun e=>!(aB F c s d (e.to:Int)).isSome&&(decide (e.to≠n)&&(st.lev e.to==0))) w6 SP (O.len V.bd c) (fun w' e Su he =>
     Ew w' (V6.below Su) ((Su.cell (aJ D6.x)).trans D6.x) ((Su.cell (aJ D6.k)).trans D6.k) ((Su.cell (aJ D6.n)).trans D6.n) (D6.mp.keep (F:=fun _=>False) (ai.of_below Su) id) e (O.cor.ends he).2)
    have HL:PJ (∀e,e∈(st.es c).filter (fun e=>!(aB F c s d (e.to:Int)).isSome&&(decide (e.to≠n)&&(st.lev e.to==0)))↔e∈st.es c/\aB F c s d (e.to:Int)=Pk/\e.to≠n/\st.lev e.to=0):=fun e=>by
     rw[Ns];simp
    have T8:((st.es c).filter (fun e=>!(aB F c s d (e.to:Int)).isSome&&(decide (e.to≠n)&&(st.lev e.to==0)))).length<=256:=M5 (Nk _ _) (O.len V.bd c);have c2:=V6.c2;have x6:=D6.x;have aat:aB F c s d c=OM (s,d):=bt _ _ _ _;have aog:cnt (aB F c s d) 256=cnt F 256+1:=fY F _ s d 256 (by omega) (by omega) hFc;have SM':PJ (∀{x s' d'},aB F c s d x=OM (s',d')->val s' d'<=val ms md):=fun h=>Int.le_trans (hmx h) hv;have HMX:PJ (∀{x t u},aB F c s d x=OM (t,u)->val t u<=val s d):=fun h=>hmx h;have hvl:=Ih n1 n2 (Int.le_trans hv hMb);have HDG:PJ (Dg (EdR st n) (a:Int) (aB F c s d) R0 (fun x _=>x≠c)):=(by rw[hR];exact DG2);clear YJ Zx K6 D5 sl5 B5 DG DG2 hle hHc hR SMF hmx hFc;generalize (st.es c).filter (fun e=>!(aB F c s d (e.to:Int)).isSome&&(decide (e.to≠n)&&(st.lev e.to==0)))=l at *;generalize aB F c s d=F' at *;go_wp2_with fail;refine Qv.mono ?_;rintro e w7 ⟨v7,rfl,Tx,Rm⟩;obtain⟨A7,aso,rfl,Wj,hA7⟩:=dY Tx;have HA7:PJ (∀b o,A7=OM ⟨b,o,Pk⟩->w6.heap.size<=b/\b<w7.heap.size):=fun b o h=>by
     rcases hA7 with⟨h1,_⟩|⟨g,h1,_,h2,h3⟩
     ·rw[h1]at h;cases h
     ·rw[h1]at h;cases h;exact⟨h2,h3⟩
    have D7:=D6.below Rm;have sl7:=sl6.below Rm;have B7:=ak B6 Rm;have hS7:w.heap.size+7<=w6.heap.size:=(by have:=D6.hp.blocks.1;omega);have hv7:∀g,v.ownBlock=OM g->g<w6.heap.size:=D6.hp.blocks.2.2;have asr:=Rm.size;clear Qv Tx Rm D6 sl6 B6 V6 hl6 SP abo c2 x6 hA7 qk s0 s1;go_wp2;go_loopw [55] (fun iv wr=>∃(k:Nat) (v':PH) (Sp:Nat) (H':Int->Option (Int×Int)),k<=l.length/\iv=PE PF k/\kV wr w.heap.size lb (n:Int) ms md v' Sp H' F'/\Sp<=nh+k/\bz wr cb s d/\v'.ownBlock≠OM cb/\PJ (Dg (EdR st n) (a:Int) F' H' (fun x y=>x≠c\/∃e∈l.take k,y=(e.to:Int)))/\dG wr A7 l/\PJ (∀g,v'.ownBlock=OM g->g<w6.heap.size\/w7.heap.size<=g)/\w7.heap.size<=wr.heap.size/\PI w.heap.size w wr)
     (fun i _=>l.length-(intOf i).toNat)
    case atStart=>exact⟨0,v,nh,R0,MQ _,rfl,D7,by omega,sl7,hvc,HDG.out.pass (s:=s) (d:=d) HMX.out aat (fun _ h=>MG (by rcases h with h|⟨e,he,_⟩;exact h;simp at he)) (fun hx _=>hx),Wj,fun g hg=>MG (hv7 g hg),aj,B7⟩
    case round =>
     clear D7 sl7 Wj B7 HDG;obtain⟨k,v',Sp,H',hk,rfl,D7,ass,sl7,af7,HDG,Wj,XF,QC,B7⟩:=hrel;by_cases PO:k<l.length
     ·obtain⟨e,he⟩:∃e,l[k]? = OM e:=⟨l[k],by simp[PO]⟩;obtain⟨b,o,rfl,q1,q2,q3,q4⟩:=Wj k e he;obtain⟨Qr,Rm⟩:=HA7.out b o rfl;obtain⟨hee,hFe,TM,Wb⟩:=(HL.out e).1 (MZ he);obtain⟨e1,e2,e3,e4⟩:=O.bd hee;have Xm:=V.bd _ (O.cor.ends hee).2;have hwe:=aC (a:=(e.to:Int)) (by omega) (by omega);have i1:(0:Int)<=(k:Int):=(by omega);have i2:(k:Int)<(l.length:Int):=(by omega);have Sj:PJ (∀y:Int,(∃e'∈l.take (k+1),y=(e'.to:Int))->(∃e'∈l.take k,y=(e'.to:Int))\/y=(e.to:Int)):=fun y ⟨e',h1,h2⟩=>by
       rw[Nb,he,MT]at h1;rcases h1 with h1|h1
       ·exact MG ⟨e',h1,h2⟩
       ·simp at h1;rw[h1]at h2;exact MF h2
      have Wa:PJ (EdR st n (c:Int) (e.to:Int) e.s e.d):=⟨e,by simpa using hee,rfl,rfl,rfl,Wb,TM⟩;have HPU:PJ (∀H2,oX H' (e.to:Int) (s+e.s) (d+e.d) H2->Dg (EdR st n) (a:Int) F' H2 (fun x y=>x≠c\/∃e∈l.take (k+1),y=(e.to:Int))):=fun H2 hp=>by
       have h1:=HDG.out.push aat HMX.out Wa.out (by unfold val;omega) hFe hp (fun h=>O.one Wa.out h);refine h1.pass (s:=s) (d:=d) HMX.out aat (fun {y t u} _ h=>MG ?_) (fun {x y} hx _=>MG (MG hx));rcases h with h|h
       ·exact absurd rfl h
       ·rcases Sj.out y h with h|h
        ·exact MG (MF h)
        ·exact MF ⟨rfl,h⟩
      have okE:okC e.s e.d:=(by unfold okC;omega);have okS:okC (s+e.s) (d+e.d):=(by unfold okC;omega);have hE:w.heap.size+7<=wr.heap.size:=(by omega);have b8:=aQ wr (PN #[PE PF (e.to:Int),PE PF e.s,PE PF e.d,PE PF e.mid] 204);have y0:(wr.alloc (PN #[PE PF (e.to:Int),PE PF e.s,PE PF e.d,PE PF e.mid] 204)).cell? ⟨wr.heap.size,0,Pk⟩=OM (PE PF (e.to:Int)):=ME _ _ _ 0 rfl;have y1:(wr.alloc (PN #[PE PF (e.to:Int),PE PF e.s,PE PF e.d,PE PF e.mid] 204)).cell? ⟨wr.heap.size,1,Pk⟩=OM (PE PF e.s):=ME _ _ _ 1 rfl;have y2:(wr.alloc (PN #[PE PF (e.to:Int),PE PF e.s,PE PF e.d,PE PF e.mid] 204)).cell? ⟨wr.heap.size,2,Pk⟩=OM (PE PF e.d):=ME _ _ _ 2 rfl;have D8:=D7.below b8;have sl8:=sl7.below b8;have Z9:=Wj.below b8;have B8:=ak B7 b8;have hz8:wr.heap.size<(wr.alloc (PN #[PE PF (e.to:Int),PE PF e.s,PE PF e.d,PE PF e.mid] 204)).heap.size:=(by simp);have hvE:∀g,v'.ownBlock=OM g->g<wr.heap.size:=D7.hp.blocks.2.2;clear D7 sl7 Wj B7 b8 Sj HDG hee Wb TM he hFe Wa;generalize (e.to:Int)=et at *;generalize e.s=es at *;generalize e.d=ed at *;generalize e.mid=em at *;go_wp2_with fail;generalize wr.alloc (PN #[PE PF et,PE PF es,PE PF ed,PE PF em] 204)=w8 at *;have b9:=cI w8;have D9:=D8.below b9;have VL:=sl8.below b9;have YV:=Z9.below b9;have B9:=ak B8 b9;have hz9:wr.heap.size<w8.drew.heap.size:=hz8;have t0:=bH y0;have t1:=bH y1;have t2:=bH y2;have t3:=VL.c0;have t4:=VL.c1;have QF:=jF s d es ed w8.drew okc okE;clear D8 sl8 Z9 B8 b9 y0 y1 y2 q1 q2 q3 q4 hz8;generalize wr.heap.size=E at *;go_region_held3 (fun w'=>w'.cell? ⟨E,0,Pk⟩=OM (PE PF et)/\w'.cell? ⟨E,1,Pk⟩=OM (PE PF es)/\w'.cell? ⟨E,2,Pk⟩=OM (PE PF ed)/\w'.cell? ⟨cb,0,Pk⟩=OM (PE PF s)/\w'.cell? ⟨cb,1,Pk⟩=OM (PE PF d)) (first|exact⟨t0,t1,t2,t3,t4⟩|exact⟨u0,u1,u2,u3,u4⟩|exact⟨x0,x1,x2,x3,x4⟩)
       (first
        |(go_at_call 177;refine QF.mono ?_;rintro r Tq ⟨rfl,QJ⟩;have u0:=ar QJ t0;have u1:=ar QJ t1;have u2:=ar QJ t2;have u3:=ar QJ t3;have u4:=ar QJ t4;have D10:=D9.below QJ;have aga:=VL.below QJ;have YW:=YV.below QJ;have Ts:=ak B9 QJ;have ab1:=MN hz9 QJ.size;have Vp:=yf et (s+es) (d+ed) Tq D10.hp okS hwe (by omega))
        |(go_at_call 202;refine Vp.mono ?_;rintro r Sw ⟨rfl,⟨v11,Ye,agb,ast,TZ⟩,Sx⟩;have nE:¬hb3 (w.heap.size+6) (w.heap.size+5) v' E:=(by rintro (h|h|h);omega;omega;have:=hvE _ h;omega);have nC:¬hb3 (w.heap.size+6) (w.heap.size+5) v' cb:=(by rintro (h|h|h);omega;omega;exact af7 h);have x0:=Sx.cellOf u0 nE;have x1:=Sx.cellOf u1 nE;have x2:=Sx.cellOf u2 nE;have x3:=Sx.cellOf u3 nC;have x4:=Sx.cellOf u4 nC))
      have nB:¬hb3 (w.heap.size+6) (w.heap.size+5) v' b:=by
       rintro (h|h|h)
       ·omega
       ·omega
       ·rcases XF.out _ h with h|h<;>omega
      have D11:=D10.heap Sx agb (fun g hg=>by
       rcases TZ g hg with h|h
       ·exact D10.own g h
       ·omega) (by omega)
      have akK:=aga.keep Sx nC;have agc:=YW.keep Sx (fun b' o' h=>by cases h;exact nB);have B11:PI w.heap.size w Sw:=Ts.trans (Sx.to_below Ts.size (fun k hk=>by have:=D10.far k hk;omega));have HDN:=HPU.out _ (Ld H' et (s+es) (d+ed));have HDN:PJ (Dg (EdR st n) (a:Int) F' (pushH H' et (s+es) (d+ed)) (fun x y=>x≠c\/∃e∈l.take (k+1),y=(e.to:Int))):=HDN;have asv:=MN ab1 Sx.size;have akM:v11.ownBlock≠OM cb:=fun h=>by
       rcases TZ cb h with h|h
       ·exact af7 h
       ·have:=aJ u3;simp only at this;omega
      have ZO:PJ (∀g,v11.ownBlock=OM g->g<w6.heap.size\/w7.heap.size<=g):=fun g hg=>by
       rcases TZ g hg with h|h
       ·exact XF.out g h
       ·right;omega
      clear QF Vp D10 aga YW Ts Sx agb TZ D9 VL YV B9 t0 t1 t2 t3 t4 u0 u1 u2 u3 u4 x0 x1 x2 x3 x4 HPU QJ;go_wp2;go_roundw
      case rel=>exact⟨k+1,v11,Ye,_,by omega,by go_num,D11,by omega,akK,akM,HDN.out,agc,ZO.out,by omega,B11⟩
      case measure=>simp[intOf];omega
     ·have e:k=l.length:=(by omega);subst e;have HDA:PJ (Dg (EdR st n) (a:Int) F' H' (fun _ _=>True)):=by
       refine HDG.out.pass (s:=s) (d:=d) HMX.out aat (fun {y t u} he _=>?_) (fun {x y} hx _=>MG hx);obtain⟨e',h1,rfl,rfl,rfl,h2,h3⟩:=he;have h1:e'∈st.es c:=by simpa using h1
       cases hF:F' (e'.to:Int) with
       |some q =>
        right;obtain⟨b1,b2,_⟩:=O.bd h1;exact⟨by simp,by unfold val;omega⟩
       |none=>exact MG (MF ⟨e',by rw[M9];exact(HL.out e').2 ⟨h1,hF,h3,h2⟩,rfl⟩)
      have b8:=aQ wr (PN #[PE PF s,PE PF d] 53);have D8:=D7.below b8;have sl8:=bz.new wr s d;have B8:=ak B7 b8;have s0:=sl7.c0;have s1:=sl7.c1;have hvE:∀g,v'.ownBlock=OM g->g<wr.heap.size:=D7.hp.blocks.2.2;have hX:w.heap.size+7<=wr.heap.size:=(by omega);clear HDG b8 Wj D7 B7 XF;cases Sp with
      |zero =>
       have Re:=ye _ D8.hp;have hH0:∀x,H' x=none:=fun x=>D8.hp.empty x;go_wp2_with fail;refine Re.mono ?_;rintro r w9 ⟨rfl,Yk⟩;have D9:=D8.below Yk;have VL:=sl8.below Yk;have B9:=ak B8 Yk;clear Re D8 sl8 B8 Yk sl7 s0 s1;generalize wr.heap.size=C2 at *;have z0:=VL.z0;have z1:=VL.z1;have c0:=VL.c0;have c1:=VL.c1;go_wp2;go_roundg (257-cnt F' 256)
       case measure=>have:=HG.out;omega
       case rel =>
        refine⟨F',rfl,⟨⟨H',H',v',0,C2,0,0,rfl,by omega,fun h=>?_,VL.set 0 0,ok0,D9.other (iQ _ _ _ _) (by omega) (fun h=>?_),HDA.out,MG ⟨rfl,hH0⟩⟩,SM'.out,B9.trans ((iQ _ _ _ _).to_below B9.size (fun k e=>by omega))⟩⟩
        ·have:=hvE _ h;omega
        ·have:=hvE _ h;omega
      |succ m =>
       have Re:=uU _ D8.hp;go_wp2_with fail;refine Re.mono ?_;rintro r w9 ⟨c9,s9,d9,rfl,Vo,Vm,⟨v9,HC,ho9⟩,K9⟩;have akN:=(D8.hp.fits Vo).1;have nC:¬hb3 (w.heap.size+6) (w.heap.size+5) v' wr.heap.size:=by
        rintro (h|h|h)
        ·omega
        ·omega
        ·have:=hvE _ h;omega
       have D9:=D8.heap K9 HC (fun g hg=>D8.own g (by rw[<- ho9];exact hg)) (by omega);have VL:=sl8.keep K9 nC;have B9:PI w.heap.size w w9:=B8.trans (K9.to_below B8.size (fun k hk=>by have:=D8.far k hk;omega));have HW:PJ (∃m9:Nat,c9=(m9:Int)):=by
        obtain⟨_,_,m9,h9,_⟩:=O.way ha (HDA.out.sH Vo);exact⟨m9,h9⟩
       have HMI:PJ (∀{b t u},H' b=OM (t,u)->val s9 d9<=val t u):=fun {b t u} hb=>by
        have:=Vm b t u hb;unfold bef br.v at this;simp only at this;omega
       have HHA:=ae Vo;have HV9:PJ (∀g,v9.ownBlock=OM g->g<wr.heap.size):=fun g hg=>hvE g (by rw[<- ho9];exact hg);clear Re D8 sl8 B8 sl7 s0 s1 Vm Vo ho9 K9 HC nC;generalize wr.heap.size=C2 at *;have z0:=VL.z0;have z1:=VL.z1;have c0:=VL.c0;have c1:=VL.c1;go_wp2;go_roundg (257-cnt F' 256)
       case measure=>have:=HG.out;omega
       case rel =>
        obtain⟨m9,rfl⟩:=HW.out;refine⟨F',rfl,⟨⟨H',_,v9,m,C2,s9,d9,rfl,by omega,fun h=>?_,VL.set s9 d9,akN,D9.other (iQ _ _ _ _) (by omega) (fun h=>?_),HDA.out,MF ⟨m9,rfl,rfl,HHA.out,HMI.out,rfl⟩⟩,SM'.out,B9.trans ((iQ _ _ _ _).to_below B9.size (fun k e=>by omega))⟩⟩
        ·have:=HV9.out _ h;omega
        ·have:=HV9.out _ h;omega
end
section
open Go.RowKit
theorem Qzy {l:List LE}(w:PG)(PT:dG w A l)(hl:l.length<=256)(hb:∀e∈l,0<=e.s/\0<=e.d/\e.s<=512/\e.d<=512) :
  PK prog 197 #[.slice A l.length cap] w fun e w'=>∃gs gd,e=PM (.agg #[PE PF gs,PE PF gd])/\(0<=gs/\0<=gd/\gs<=512/\gd<=512)/\(∀e∈l,val e.s e.d<=val gs gd)/\PI w.heap.size w w':=by
 have ok0:okC 0 0:=by unfold okC;omega
 have B0:PI w.heap.size w ((w.alloc (PN #[PE PF 0,PE PF 0] 53)).alloc (PN #[PE PF 0,PE PF 0] 53)):=(al.alloc aj _).alloc (by simp) _;have r0:bz ((w.alloc (PN #[PE PF 0,PE PF 0] 53)).alloc (PN #[PE PF 0,PE PF 0] 53)) w.heap.size 0 0:=(bz.new w 0 0).below (al.alloc aj _);have g0:bz ((w.alloc (PN #[PE PF 0,PE PF 0] 53)).alloc (PN #[PE PF 0,PE PF 0] 53)) (w.heap.size+1) 0 0:=by
  have q:=bz.new (w.alloc (PN #[PE PF 0,PE PF 0] 53)) 0 0;have e:(w.alloc (PN #[PE PF 0,PE PF 0] 53)).heap.size=w.heap.size+1:=by simp
  rw[e]at q;exact q
 have HB:=ae hb;clear hb;go_enter func197,ntmps197;go_wp2;go_loopw [8] (fun iv wr=>∃(k:Nat) (gs gd:Int),k<=l.length/\iv=PE PF k/\bz wr w.heap.size 0 0/\bz wr (w.heap.size+1) gs gd/\PJ (0<=gs/\0<=gd/\gs<=512/\gd<=512)/\PJ (∀e∈l.take k,val e.s e.d<=val gs gd)/\w.heap.size+2<=wr.heap.size/\PI w.heap.size w wr)
  (fun i _=>l.length-(intOf i).toNat)
 case atStart=>exact⟨0,0,0,MQ _,rfl,r0,g0,by unfold PJ;decide,fun e he=>by simp at he,by simp,B0⟩
 case round =>
  clear r0 g0 B0;obtain⟨k,gs,gd,hk,rfl,r0,g0,HG,HM,QC,hB⟩:=hrel;have g1:=g0.c0;have g2:=g0.c1;by_cases PO:k<l.length
  ·obtain⟨e,he⟩:∃e,l[k]? = OM e:=⟨l[k],by simp[PO]⟩;obtain⟨b,o,rfl,q1,q2,q3,q4⟩:=(PT.below hB) k e he;obtain⟨e1,e2,e3,e4⟩:=HB.out e (MZ he);obtain⟨f1,f2,f3,f4⟩:=HG.out;have okE:okC e.s e.d:=(by unfold okC;omega);have okG:okC gs gd:=(by unfold okC;omega);have i1:(0:Int)<=(k:Int):=(by omega);have i2:(k:Int)<(l.length:Int):=(by omega);have HT:PJ (∀x,x∈l.take (k+1)->x∈l.take k\/x=e):=fun x hx=>by
    rw[Nb,he,MT]at hx
    simpa using hx
   have b1:=aQ wr (PN #[PE PF (e.to:Int),PE PF e.s,PE PF e.d,PE PF e.mid] 204);have B1:=ak hB b1;have r1:=r0.below b1;have gg1:=g0.below b1;have y1:(wr.alloc (PN #[PE PF (e.to:Int),PE PF e.s,PE PF e.d,PE PF e.mid] 204)).cell? ⟨wr.heap.size,1,Pk⟩=OM (PE PF e.s):=ME _ _ _ 1 rfl;have y2:(wr.alloc (PN #[PE PF (e.to:Int),PE PF e.s,PE PF e.d,PE PF e.mid] 204)).cell? ⟨wr.heap.size,2,Pk⟩=OM (PE PF e.d):=ME _ _ _ 2 rfl;have h1:=gg1.c0;have h2:=gg1.c1;have QZ:=jU (r:=ltB gs gd e.s e.d) rfl (wr.alloc (PN #[PE PF (e.to:Int),PE PF e.s,PE PF e.d,PE PF e.mid] 204)) okG okE;have Rx:w.heap.size+2<=(wr.alloc (PN #[PE PF (e.to:Int),PE PF e.s,PE PF e.d,PE PF e.mid] 204)).heap.size:=(by simp;omega);have HMn:PJ (val e.s e.d<=val gs gd->∀x∈l.take (k+1),val x.s x.d<=val gs gd):=fun h x hx=>by
    rcases HT.out x hx with h1|h1
    ·exact HM.out x h1
    ·rw[h1];exact h
   have HMy:PJ (val gs gd<val e.s e.d->∀x∈l.take (k+1),val x.s x.d<=val e.s e.d):=fun h x hx=>by
    rcases HT.out x hx with h1|h1
    ·have:=HM.out x h1;omega
    ·rw[h1];exact Nc _
   clear he b1 r0 g0 hB;generalize (e.to:Int)=et at *;generalize e.s=es at *;generalize e.d=ed at *;generalize e.mid=em at *;cases Ut:ltB gs gd es ed with
   |true =>
    have hv:=HMy.out ((ew okG okE).1 Ut);have HV:=ae hv;rw[Ut]at QZ;clear hv Ut HMy HMn HM HT;go_wp2_with fail;generalize wr.alloc (PN #[PE PF et,PE PF es,PE PF ed,PE PF em] 204)=w1 at *;refine QZ.mono ?_;rintro r w2 ⟨rfl,hb2⟩;have B2:=ak B1 hb2;have r2:=r1.below hb2;have gg2:=gg1.below hb2;have z1:=ar hb2 y1;have z2:=ar hb2 y2;have Rz:=M5 Rx hb2.size;have f0:=gg2.z0;have f1':=gg2.z1;have c0:=gg2.c0;have c1:=gg2.c1;clear QZ hb2 B1 r1 gg1 y1 y2 h1 h2 g1 g2 q1 q2 q3 q4;go_wp2;go_roundw
    case rel=>exact⟨k+1,es,ed,by omega,by go_num,r2.keep (iQ _ _ _ _) (by omega),gg2.set es ed,by unfold PJ;exact⟨e1,e2,e3,e4⟩,HV.out,by simpa using Rz,B2.trans ((iQ _ _ _ _).to_below B2.size (fun k e=>by omega))⟩
    case measure=>simp[intOf];omega
   |false =>
    have hv:=HMn.out (by
     have:¬val gs gd<val es ed:=fun h=>by rw[(ew okG okE).2 h]at Ut;cases Ut
     omega)
    have HV:=ae hv;rw[Ut]at QZ;clear hv Ut HMy HMn HM HT;go_wp2_with fail;generalize wr.alloc (PN #[PE PF et,PE PF es,PE PF ed,PE PF em] 204)=w1 at *;refine QZ.mono ?_;rintro r w2 ⟨rfl,hb2⟩;have B2:=ak B1 hb2;have r2:=r1.below hb2;have gg2:=gg1.below hb2;have Rz:=M5 Rx hb2.size;clear QZ hb2 B1 r1 gg1 y1 y2 h1 h2 g1 g2 q1 q2 q3 q4;go_wp2;go_roundw
    case rel=>exact⟨k+1,gs,gd,by omega,by go_num,r2,gg2,HG.out,HV.out,Rz,B2⟩
    case measure=>simp[intOf];omega
  ·have e:k=l.length:=(by omega);subst e;have HM2:PJ (∀e∈l,val e.s e.d<=val gs gd):=fun e he=>HM.out e (by rw[M9];exact he);have c0:=r0.c0;have c1:=r0.c1;have z0:=r0.z0;have z1:=r0.z1;clear HM;go_wp2;have q:=kK wr w.heap.size gs gd c0 c1;have hd:=q.1;have ht:=q.2;refine bodyPost_ret (v:=.agg #[PE PF gs,PE PF gd]) (by simp[results,results197,go_sem,hd,ht]) rfl ⟨gs,gd,rfl,HG.out,HM2.out,?_⟩;exact hB.trans ((iQ _ _ _ _).to_below hB.size (fun k e=>by omega))
def dt (p:LE->LE->Bool) (n:Nat) (a:LE) (l:List LE):List (Nat×LE):=(l.filter (p a)).map (fun b=>(a.to,⟨b.to,a.s+b.s,a.d+b.d,(n:Int)⟩))
def mTo (p:LE->LE->Bool) (n:Nat):List LE->Nat->List (Nat×LE)
 |[],_=>[]
 |_::_,0=>[]
 |a::l,i+1=>dt p n a l++mTo p n l i
theorem oq (p:LE->LE->Bool)(n:Nat)(l:List LE):mTo p n l 0=[]:=by
 cases l<;>rfl
theorem rX {p:LE->LE->Bool}{n:Nat}:∀{l:List LE}{i:Nat}{a:LE},l[i]? = OM a->mTo p n l (i+1)=mTo p n l i++dt p n a (l.drop (i+1))
 |[],i,a,h=>by simp at h
 |x::l,0,a,h=>by
  simp at h;subst h;show dt p n x l++mTo p n l 0=[]++dt p n x l;rw[oq,Nt,Pf]
 |x::l,i+1,a,h=>by
  show dt p n x l++mTo p n l (i+1)=(dt p n x l++mTo p n l i)++dt p n a (l.drop (i+1));rw[rX (l:=l) (i:=i) (a:=a) (by simpa using h),Nq]
theorem ot (p:LE->LE->Bool)(n:Nat):∀l:List LE,mTo p n l l.length=cq p n l
 |[]=>rfl
 |a::l=>by
  show dt p n a l++mTo p n l l.length=_;rw[ot p n l];rfl
theorem Cn {p:LE->LE->Bool}{n:Nat}{a:LE}{l:List LE}{b:LE}(h:l[j]? = OM b)(hp:p a b=PB):dt p n a (l.take (j+1))=dt p n a (l.take j):=by
 unfold dt;rw[Nb,h,NQ];simp[hp]
theorem yw {p:LE->LE->Bool}{n:Nat}{a:LE}{l:List LE}{b:LE}(h:l[j]? = OM b)(hp:p a b=Pm):dt p n a (l.take (j+1))=dt p n a (l.take j)++[(a.to,⟨b.to,a.s+b.s,a.d+b.d,(n:Int)⟩)]:=by
 unfold dt;rw[Nb,h,NQ];simp[hp]
theorem rY (p:LE->LE->Bool)(n:Nat)(a:LE)(l:List LE):(dt p n a l).length<=l.length:=by
 unfold dt;rw[NP];exact Nk _ _
theorem ou (p:LE->LE->Bool)(n:Nat):∀(l:List LE) (i:Nat),(mTo p n l i).length<=i*l.length
 |[],_=>MQ _
 |_::_,0=>MQ _
 |a::l,i+1=>by
  show (dt p n a l++mTo p n l i).length<=(i+1)*(l.length+1);rw[MM];have h1:=rY p n a l;have h2:=ou p n l i;rw[Nat.mul_succ,Nat.succ_mul];omega
end
section
open Go.RowKit
def lkV (x:Nat×LE):List Value:=[PE PF (x.1:Int),PE PF (x.2.to:Int),PE PF x.2.s,PE PF x.2.d]
def fV (l:List (Nat×LE)):List Value:=l.flatMap lkV
theorem Ii (l l':List (Nat×LE)):fV (l++l')=fV l++fV l':=by
 unfold fV;rw[O8]
theorem Ij (x:Nat×LE):fV [x]=lkV x:=by
 unfold fV;rw[Oh,Pv,Nt]
theorem Tryz.infoK:(Tryz.prog.info? 248).map (fun i=>(i.zero,i.size,i.bytes))=OM (OM (.agg #[PE PF 0,PE PF 0,PE PF 0,PE PF 0]),4,32):=by kernel_rfl
theorem Tryz.underL:Tryz.prog.underlying 245=OM (.slice 248):=by kernel_rfl
theorem JL {st:LSt}{n:Nat}{a b:LE}{p:LE->LE->Bool}{M:Int}(hp:∀a b,p a b=Pm↔uQ st n a b)(hD:JK st n a.to M F)(hM:val (a.s+b.s) (a.d+b.d)<=M) :
  (F (b.to:Int)=Pk->p a b=Pm)/\∀s d,F (b.to:Int)=OM (s,d)->(p a b=Pm↔val (a.s+b.s) (a.d+b.d)<val s d):=by
 have h:=hD (b.to:Int) (a.s+b.s) (a.d+b.d) hM;refine⟨fun hn=>(hp a b).2 (fun hw=>?_),fun s d hs=>⟨fun h1=>?_,fun h1=>(hp a b).2 (fun hw=>?_)⟩⟩
 ·obtain⟨x,y,h1,_⟩:=h.1 hw;rw[hn]at h1;cases h1
 ·have h2:=(hp a b).1 h1;rcases Int.lt_or_le (val (a.s+b.s) (a.d+b.d)) (val s d) with h3|h3
  ·exact h3
  ·exact absurd (h.2 ⟨s,d,hs,h3⟩) h2
 ·obtain⟨x,y,h2,h3⟩:=h.1 hw;rw[hs]at h2;cases h2;omega
theorem AI {n cap:Nat}{st:LSt}{l:List LE}{p:LE->LE->Bool}(w:PG)(V:cD w N lb vb eb top L st f)(O:Okl L 512 st)(PT:dG w (OM ⟨g,0,Pk⟩) l)(hl:l.length<=256)(Vd:l.length<=cap)(aaQ:cap<=maxLen)(PY:∀e∈l,e∈st.es n)(hp:∀a b,p a b=Pm↔uQ st n a b) :
  PK prog 163 #[.pointer (OM ⟨lb,0,Pk⟩),PE PF (n:Int),.slice (OM ⟨g,0,Pk⟩) l.length cap] w fun e w'=>∃v,e=PM v/\w'.ownsRow w.heap.size 248 4 v (cq p n l).length (fV (cq p n l))/\PI w.heap.size w w':=by
 obtain⟨i0,hi,P0,P3,Qd⟩:=info_parts Tryz.infoK;have HP:=ae hp;have Sk:=ae PY;have aol:cap<=9223372036854775807:=by unfold maxLen at aaQ;omega
 clear hp PY;go_enter func163,ntmps163;go_wp2;go_loopw [7,19] (fun rv iv wr=>∃(k:Nat),k<=l.length/\iv=PE PF k/\wr.ownsRow w.heap.size 248 4 rv (mTo p n l k).length (fV (mTo p n l k))/\PI w.heap.size w wr)
  (fun _ i _=>l.length-(intOf i).toNat)
 case atStart=>exact⟨0,MQ _,rfl,by rw[oq];exact Nj _ _ _ _,al⟩
 case round =>
  obtain⟨k,hk,rfl,hown,hB⟩:=hrel;by_cases PO:k<l.length
  ·obtain⟨a,ha⟩:∃a,l[k]? = OM a:=⟨l[k],by simp[PO]⟩;have QV:PJ (mTo p n l (k+1)=mTo p n l k++dt p n a (l.drop (k+1))):=rX ha;have R8:=PT.below hB;have YX:=R8.drop (k+1);obtain⟨b,o,hbo,q1,q2,q3,q4⟩:=R8 k a ha;have haM:=Sk.out a (MZ ha);cases hbo;rw[M8]at q1 q2 q3 q4 YX;have i1:(0:Int)<=(k:Int):=(by omega);have i2:(k:Int)<(l.length:Int):=(by omega);have i3:((k:Int)+1)<=(l.length:Int):=(by omega);obtain⟨l2,Ut⟩:∃l2,l2=l.drop (k+1):=⟨_,rfl⟩;have YY:l2.length=l.length-(k+1):=(by rw[Ut,NM]);have HL2:PJ (∀e∈l2,e∈st.es n):=fun e he=>Sk.out e (List.mem_of_mem_drop (by rw[<- Ut];exact he));have hgw:g<w.heap.size:=by
    obtain⟨b',o',h1,h2⟩:=PT.lt (by omega);cases h1;exact h2
   rw[<- Ut]at QV YX;have hPl:=ou p n l k;have asz:k*l.length<=256*256:=Ov (by omega) hl;obtain⟨e1,e2,e3,e4⟩:=O.bd haM;have haL:=(O.cor.ends haM).2;have okA:okC a.s a.d:=(by unfold okC;omega);generalize hP:mTo p n l k=P at *;clear hP;have aav:(cap=k+1->dG wr (OM ⟨g,0,Pk⟩) l2)/\(¬cap=k+1->dG wr (OM ⟨g,(k+1)*4,Pk⟩) l2) :=
    ⟨fun h=>by
     have e:l2=[]:=NK.1 (by omega);rw[e];exact dG.nil _ _,fun _=>YX⟩
   have b8:=aQ wr (PN #[PE PF (a.to:Int),PE PF a.s,PE PF a.d,PE PF a.mid] 204);have y0:(wr.alloc (PN #[PE PF (a.to:Int),PE PF a.s,PE PF a.d,PE PF a.mid] 204)).cell? ⟨wr.heap.size,0,Pk⟩=OM (PE PF (a.to:Int)):=ME _ _ _ 0 rfl;have y1:(wr.alloc (PN #[PE PF (a.to:Int),PE PF a.s,PE PF a.d,PE PF a.mid] 204)).cell? ⟨wr.heap.size,1,Pk⟩=OM (PE PF a.s):=ME _ _ _ 1 rfl;have y2:(wr.alloc (PN #[PE PF (a.to:Int),PE PF a.s,PE PF a.d,PE PF a.mid] 204)).cell? ⟨wr.heap.size,2,Pk⟩=OM (PE PF a.d):=ME _ _ _ 2 rfl;have Vq:=aq hown b8;have B8:=ak hB b8;have hrE:∀q,u7.ownBlock=OM q->q<wr.heap.size:=fun q hq=>(hown.lt q hq).2;clear hown R8;rcases Decidable.em (cap=k+1) with Rs|Rs
   all_goals
    first
     |(have rowP:=aav.1 Rs;clear aav YX)
     |(have rowP:=aav.2 Rs;clear aav YX)
    go_wp2_with fail;rw[<- YY];have HLN:=ae YY;have age:l2.length<=256:=(by omega);have HCK:PJ _:=Rs;have HLD:=ae Ut;clear Rs YY Ut;have agf:=rowP.below b8;have hBs:=hB.size;clear b8 rowP q1 q2 q3 q4 hB;generalize wr.alloc (PN #[PE PF (a.to:Int),PE PF a.s,PE PF a.d,PE PF a.mid] 204)=w8 at *;have hE8:wr.heap.size<w8.heap.size:=aJ y0;have hEw:w.heap.size<=wr.heap.size:=hBs;generalize wr.heap.size=E at *;have b9:=cI w8;have B9:=ak B8 b9;have t0:=bH y0;have t1:=bH y1;have t2:=bH y2;have YV:=agf.below b9;have T7:w8.drew.ownsRow w.heap.size 248 4 u7 P.length (fV P):=aq Vq b9;have agh:=fun cc=>Qzy (cap:=cc) w8.drew YV age (fun e he=>O.bd (HL2.out e he));have hgr:PJ _:=agh;clear agh;have V9:=V.below B9;have QF:PJ (∀(gs gd:Int) (Tq:PG),(0<=gs/\0<=gd/\gs<=512/\gd<=512)->PK prog 177 #[.agg #[PE PF a.s,PE PF a.d],.agg #[PE PF gs,PE PF gd]] Tq fun e w'=>e=PM (.agg #[PE PF (a.s+gs),PE PF (a.d+gd)])/\PI Tq.heap.size Tq w'):=fun gs gd Tq hg=>jF a.s a.d gs gd Tq okA (by obtain⟨g1,g2,g3,g4⟩:=hg;unfold okC;omega);have agi:PJ (∀(gs gd:Int) (Sw:PG),(0<=gs/\0<=gd/\gs<=512/\gd<=512)->PI w8.drew.heap.size w8.drew Sw->PK prog 196 #[.pointer (OM ⟨lb,0,Pk⟩),PE PF (a.to:Int),PE PF (n:Int),.agg #[PE PF (a.s+gs),PE PF (a.d+gd)]] Sw fun e w'=>∃kb F,e=PM (.map (OM kb))/\aZ prog 3 w' kb (fv F) (cnt F 256)/\JK st n a.to (val (a.s+gs) (a.d+gd)) F/\(∀{x s d},F x=OM (s,d)->okC s d)/\Sw.heap.size<=kb/\PI Sw.heap.size Sw w'):=fun gs gd Sw hg hb=>yu (n:=n) (ms:=a.s+gs) (md:=a.d+gd) Sw (V9.below hb) O haL (by omega) (by omega) (by omega) (by omega);clear B8 b9 y0 y1 y2 agf Vq V9;generalize UD:(a.to:Int)=ta at *;generalize hsa:a.s=sa at *;generalize hda:a.d=da at *;have HTA:=ae UD;have HSA:=ae hsa;have HDA:=ae hda;clear UD hsa hda;go_region_held3 (fun w'=>w'.cell? ⟨E,0,Pk⟩=OM (PE PF ta)/\w'.cell? ⟨E,1,Pk⟩=OM (PE PF sa)/\w'.cell? ⟨E,2,Pk⟩=OM (PE PF da)) (first|exact⟨t0,t1,t2⟩|exact⟨u0,u1,u2⟩|exact⟨x0,x1,x2⟩|exact⟨z0,z1,z2⟩)
     (first
      |(go_at_call 197;refine(hgr.out _).mono ?_;rintro r Tq ⟨gs,gd,rfl,Uk,agj,QJ⟩;have hgm:PJ _:=agj;clear agj;have u0:=ar QJ t0;have u1:=ar QJ t1;have u2:=ar QJ t2)
      |(go_at_call 177;refine(QF.out gs gd Tq Uk).mono ?_;rintro r Sw ⟨rfl,QW⟩;have x0:=ar QW u0;have x1:=ar QW u1;have x2:=ar QW u2;have UZ:=ak QJ QW)
      |(go_at_call 196;refine(agi.out gs gd Sw Uk UZ).mono ?_;rintro r w12 ⟨kb,F,rfl,ac0,agk,abq,agl,TW⟩;have z0:=ar TW x0;have z1:=ar TW x1;have z2:=ar TW x2))
    have b12:=ak UZ TW;have WR:=aq T7 b12;have Yg:=ak B9 b12;have hEk:kb≠E:=(by have:=UZ.size;have h:w8.drew.heap.size=w8.heap.size:=rfl;omega);have HND:PJ (∀b∈l2,(F (b.to:Int)=Pk->p a b=Pm)/\∀s d,F (b.to:Int)=OM (s,d)->(p a b=Pm↔val (sa+b.s) (da+b.d)<val s d)):=fun b hb=>by
     have h1:=hgm.out b hb;have h2:=cC sa da gs gd;have h3:=cC sa da b.s b.d;have:=JL (a:=a) (b:=b) HP.out agk (by rw[HSA.out,HDA.out];omega);rw[HSA.out,HDA.out]at this;exact this
    have HOK:PJ (∀{x s d},F x=OM (s,d)->okC s d):=fun h=>abq h;have HQ:PJ (∀q,u7.ownBlock=OM q->q≠E/\q≠kb):=fun q hq=>by
     have h1:=hrE q hq;have h2:=UZ.size;have h:w8.drew.heap.size=w8.heap.size:=rfl;exact⟨by omega,by omega⟩
    clear hgr QF agi hgm agk abq agl TW QW QJ UZ b12 T7 B9 t0 t1 t2 u0 u1 u2 x0 x1 x2 YV hE8 Uk;go_wp2
   ·have h0:l2.length=0:=(by have:=HLN.out;have:=HCK.out;omega);have HE0:PJ (mTo p n l (k+1)=P):=by
     have e:l2=[]:=NK.1 h0;rw[QV.out,e];show P++[]=P;rw[Nt]
    go_loopw [7,40] (fun rv jv wr=>jv=PE PF 0/\wr.ownsRow w.heap.size 248 4 rv P.length (fV P)/\PI w.heap.size w wr) (fun _ _ _=>0)
    case atStart=>exact⟨rfl,WR,Yg⟩
    case round =>
     obtain⟨rfl,ho,Uz⟩:=hrel;clear WR Yg ac0 z0 z1 z2;go_wp2;go_roundw
     case rel=>exact⟨k+1,by omega,by go_num,by rw[HE0.out];exact ho,Uz⟩
     case measure=>simp[intOf];omega
   ·go_loopw [7,40] (fun rv jv wr=>∃j:Nat,j<=l2.length/\jv=PE PF j/\wr.ownsRow w.heap.size 248 4 rv (P++dt p n a (l2.take j)).length (fV (P++dt p n a (l2.take j)))/\wr.cell? ⟨E,0,Pk⟩=OM (PE PF ta)/\wr.cell? ⟨E,1,Pk⟩=OM (PE PF sa)/\wr.cell? ⟨E,2,Pk⟩=OM (PE PF da)/\aZ prog 3 wr kb (fv F) (cnt F 256)/\PJ (∀q,rv.ownBlock=OM q->q≠E/\q≠kb)/\PI w.heap.size w wr)
     (fun _ i _=>l2.length-(intOf i).toNat)
    case atStart=>exact⟨0,MQ _,rfl,by show World.ownsRow _ _ _ _ _ (P++[]).length (fV (P++[]));rw[Nt];exact WR,z0,z1,z2,ac0,HQ,Yg⟩
    case round =>
     clear WR z0 z1 z2 ac0 HQ Yg;obtain⟨j,hj,rfl,ho,z0,z1,z2,hM,HQ,Uz⟩:=hrel;by_cases QZ:j<l2.length
     ·obtain⟨b,hb⟩:∃b,l2[j]? = OM b:=⟨l2[j],by simp[QZ]⟩;have R8:=(PT.below Uz).drop (k+1);rw[<- HLD.out,M8]at R8;obtain⟨b',o',hbo,q1,q2,q3,q4⟩:=R8 j b hb;cases hbo;have Vl:=MZ hb;obtain⟨f1,f2,f3,f4⟩:=O.bd (HL2.out b Vl);have hbL:=V.bd _ (O.cor.ends (HL2.out b Vl)).2;have hwb:=aC (a:=(b.to:Int)) (by omega) (by omega);obtain⟨ac1,ac2⟩:=HND.out b Vl;have j1:(0:Int)<=(j:Int):=(by omega);have j2:(j:Int)<(l2.length:Int):=(by omega);have okB:okC b.s b.d:=(by unfold okC;omega);have okS:okC (sa+b.s) (da+b.d):=(by unfold okC;omega);have SW:PJ (p a b=PB->dt p n a (l2.take (j+1))=dt p n a (l2.take j)):=fun h=>Cn hb h;have Xo:PJ (p a b=Pm->fV (P++dt p n a (l2.take (j+1)))=fV (P++dt p n a (l2.take j))++[PE PF ta,PE PF (b.to:Int),PE PF (sa+b.s),PE PF (da+b.d)]/\(P++dt p n a (l2.take (j+1))).length=(P++dt p n a (l2.take j)).length+1):=fun h=>by
       rw[yw hb h,<- Nq,Ii,Ij,MM];refine⟨?_,rfl⟩;show _++[_,_,_,_]=_;rw[HTA.out,HSA.out,HDA.out]
      have hR2:(P++dt p n a (l2.take j)).length<=65536+256:=by
       have:=rY p n a (l2.take j);rw[MY]at this;rw[MM];omega
      have HRR:PJ (∃R,R=P++dt p n a (l2.take j)):=⟨_,rfl⟩;generalize hRR:P++dt p n a (l2.take j)=R at *;have HRJ:=ae hRR;clear hRR HRR;generalize WA:p a b=pe at *;have HPE:=ae WA;clear WA;have b1:=aQ wr (PN #[PE PF (b.to:Int),PE PF b.s,PE PF b.d,PE PF b.mid] 204);have v0:(wr.alloc (PN #[PE PF (b.to:Int),PE PF b.s,PE PF b.d,PE PF b.mid] 204)).cell? ⟨wr.heap.size,0,Pk⟩=OM (PE PF (b.to:Int)):=ME _ _ _ 0 rfl;have v1:(wr.alloc (PN #[PE PF (b.to:Int),PE PF b.s,PE PF b.d,PE PF b.mid] 204)).cell? ⟨wr.heap.size,1,Pk⟩=OM (PE PF b.s):=ME _ _ _ 1 rfl;have v2:(wr.alloc (PN #[PE PF (b.to:Int),PE PF b.s,PE PF b.d,PE PF b.mid] 204)).cell? ⟨wr.heap.size,2,Pk⟩=OM (PE PF b.d):=ME _ _ _ 2 rfl;have ho1:=aq ho b1;have x0:=ar b1 z0;have x1:=ar b1 z1;have x2:=ar b1 z2;have Ti:=hM.keep (F:=fun _=>False) (ai.of_below b1) id;have B1:=ak Uz b1;have QF:=jF sa da b.s b.d (wr.alloc (PN #[PE PF (b.to:Int),PE PF b.s,PE PF b.d,PE PF b.mid] 204)) okA okB;have aiD:w.heap.size<=wr.heap.size:=Uz.size;clear hb Vl R8 b1 ho z0 z1 z2 hM Uz;generalize (b.to:Int)=tb at *;generalize b.s=sb at *;generalize b.d=db at *;generalize b.mid=mb at *;go_wp2_with fail;generalize wr.alloc (PN #[PE PF tb,PE PF sb,PE PF db,PE PF mb] 204)=w1 at *;generalize wr.heap.size=E1 at *;refine QF.mono ?_;rintro r w2 ⟨rfl,hb2⟩;have b3:=aQ w2 (PN #[PE PF (sa+sb),PE PF (da+db)] 53);have b23:=ak hb2 b3;have Xi:=aq ho1 b23;have y0:=ar b23 x0;have y1:=ar b23 x1;have y2:=ar b23 x2;have r0:=ar b23 v0;have hM3:=Ti.keep (F:=fun _=>False) (ai.of_below b23) id;have B3:=ak B1 b23;have RO:=bz.new w2 (sa+sb) (da+db);clear QF hb2 b3 b23 ho1 x0 x1 x2 v0 v1 v2 Ti B1 q1 q2 q3 q4;cases hF:F tb with
      |none =>
       have RM:(Instr.lookup 225 (.map (OM kb)) (PE PF tb) Pm).run prog (w2.alloc (PN #[PE PF (sa+sb),PE PF (da+db)] 53))=.ok (.tuple #[.agg #[PE PF 0,PE PF 0],.bool PB]) (w2.alloc (PN #[PE PF (sa+sb),PE PF (da+db)] 53)):=hM3.look_none aY Tryz.underK (jD _) hwb (jR hF) Pm;obtain⟨XT,hy2⟩:=Xo.out (ac1 hF);have HY1:PJ _:=XT;have HY2:PJ _:=hy2;have b4:PI (w2.alloc (PN #[PE PF (sa+sb),PE PF (da+db)] 53)).heap.size (w2.alloc (PN #[PE PF (sa+sb),PE PF (da+db)] 53)) ((w2.alloc (PN #[PE PF (sa+sb),PE PF (da+db)] 53)).alloc (PN #[PE PF 0,PE PF 0] 53)):=al.alloc aj _;have ho4:=aq Xi b4;have a0:=ar b4 y0;have a1:=ar b4 y1;have a2:=ar b4 y2;have a3:=ar b4 r0;have UY:=RO.below b4;have a4:=UY.c0;have a5:=UY.c1;have sd4:=bz.new (w2.alloc (PN #[PE PF (sa+sb),PE PF (da+db)] 53)) 0 0;have e4:(w2.alloc (PN #[PE PF (sa+sb),PE PF (da+db)] 53)).heap.size=w2.heap.size+1:=(by simp);rw[e4]at sd4;have a6:=sd4.c0;have a7:=sd4.c1;have hM4:=hM3.keep (F:=fun _=>False) (ai.of_below b4) id;have B4:=ak B3 b4;clear b4 e4;clear ac1 ac2 SW Xo hF XT hy2 RO UY sd4;obtain⟨W5,hW5⟩:∃W5,W5=(w2.alloc (PN #[PE PF (sa+sb),PE PF (da+db)] 53)).alloc (PN #[PE PF 0,PE PF 0] 53):=⟨_,rfl⟩;rw[<- hW5]at ho4 a0 a1 a2 a3 hM4 B4;have hoW:=ho4;have d0:=a0;have d1:=a1;have d2:=a2;have d3:=a3;have hMW:=hM4;have BW:=B4;clear ho4 hM4 B4;have XI:=bK W5 (PE PF ta) (PE PF tb) (PE PF (sa+sb)) (PE PF (da+db)) 248;have Tp:W5.heap.size=w2.heap.size+1+1:=(by rw[hW5];simp);rw[Tp]at XI;clear Tp;subst hW5;go_wp2_with (at_builtin;refine wpList_append_own_at _ rfl _ _ 245 rfl w.heap.size 248 i0 (.agg #[PE PF 0,PE PF 0,PE PF 0,PE PF 0]) 4 32 Tryz.underL hi P0 P3 Qd rfl (by decide) _ _ _ rfl (hoW.alloc _) ⟨w2.heap.size+1+1,0,Pk⟩ 1 1 [PE PF ta,PE PF tb,PE PF (sa+sb),PE PF (da+db)] rfl rfl XI (by intro u hu;simp at hu;rcases hu with rfl|rfl|rfl|rfl<;>rfl) ?c3 ?c4 ?c5 ?_)
       case c3=>unfold maxLen;omega
       case c4=>omega
       case c5=>have h5:=BW.size;first|(simp;omega)|(simp at h5 ⊢;omega)
       intro v' w6 PS PR _ Sh;have K6:ai (fun q=>u7.ownBlock=OM q) _ w6:=((ai.refl _ _).alloc _).grown PR (fun q hq _=>hq);have c0':=K6.cellOf d0 (fun h=>(HQ.out E h).1 rfl);have Xp:=K6.cellOf d1 (fun h=>(HQ.out E h).1 rfl);have c2':=K6.cellOf d2 (fun h=>(HQ.out E h).1 rfl);have M6:=hMW.keep K6 (fun h=>(HQ.out kb h).2 rfl);have B6:PI w.heap.size w w6:=BW.trans (K6.to_below BW.size (fun q hq=>(hoW.lt q hq).1));have HQ6:PJ (∀q,v'.ownBlock=OM q->q≠E/\q≠kb):=fun q hq=>by
        rcases Sh with h|h
        ·exact HQ.out q (by rw[<- h];exact hq)
        ·rw[h]at hq;cases hq;have h1:=aJ d0;have h2:=hMW.lt;simp only at h1;exact⟨by first|(simp;omega)|(simp at h1 ⊢;omega),by first|(simp;omega)|(simp at h2 ⊢;omega)⟩
       have O6:w6.ownsRow w.heap.size 248 4 v' (P++dt p n a (l2.take (j+1))).length (fV (P++dt p n a (l2.take (j+1)))):=by
        rw[HY1.out,HY2.out];exact PS
       clear PS PR Sh K6 hoW d0 d1 d2 d3 hMW BW;go_wp2;go_roundw
       case rel=>exact⟨j+1,by omega,by go_num,O6,c0',Xp,c2',M6,HQ6.out,B6⟩
       case measure=>simp[intOf];omega
      |some cc =>
       obtain⟨s,d⟩:=cc;have RM:(Instr.lookup 225 (.map (OM kb)) (PE PF tb) Pm).run prog (w2.alloc (PN #[PE PF (sa+sb),PE PF (da+db)] 53))=.ok (.tuple #[.agg #[PE PF s,PE PF d],.bool Pm]) (w2.alloc (PN #[PE PF (sa+sb),PE PF (da+db)] 53)):=hM3.look_some aY Tryz.underK (jD _) hwb (gP hF) Pm;have okF:=HOK.out hF;have ac3:=ac2 s d hF;have b4:PI (w2.alloc (PN #[PE PF (sa+sb),PE PF (da+db)] 53)).heap.size (w2.alloc (PN #[PE PF (sa+sb),PE PF (da+db)] 53)) ((w2.alloc (PN #[PE PF (sa+sb),PE PF (da+db)] 53)).alloc (PN #[PE PF s,PE PF d] 53)):=al.alloc aj _;have ho4:=aq Xi b4;have a0:=ar b4 y0;have a1:=ar b4 y1;have a2:=ar b4 y2;have a3:=ar b4 r0;have UY:=RO.below b4;have a4:=UY.c0;have a5:=UY.c1;have sd4:=bz.new (w2.alloc (PN #[PE PF (sa+sb),PE PF (da+db)] 53)) s d;have e4:(w2.alloc (PN #[PE PF (sa+sb),PE PF (da+db)] 53)).heap.size=w2.heap.size+1:=(by simp);rw[e4]at sd4;have a6:=sd4.c0;have a7:=sd4.c1;have hM4:=hM3.keep (F:=fun _=>False) (ai.of_below b4) id;have B4:=ak B3 b4;clear b4 e4;have YZ:=jU (r:=ltB (sa+sb) (da+db) s d) rfl ((w2.alloc (PN #[PE PF (sa+sb),PE PF (da+db)] 53)).alloc (PN #[PE PF s,PE PF d] 53)) okS okF;have agm:pe=ltB (sa+sb) (da+db) s d:=by
        cases hq:ltB (sa+sb) (da+db) s d with
        |true=>exact ac3.2 ((ew okS okF).1 hq)
        |false =>
         cases pe with
         |false=>rfl
         |true=>rw[(ew okS okF).2 (ac3.1 rfl)]at hq;cases hq
       rw[<- agm]at YZ;clear ac1 ac2 hF ac3 agm RO UY sd4 Xi hM3 B3;go_wp2_with fail;generalize (w2.alloc (PN #[PE PF (sa+sb),PE PF (da+db)] 53)).alloc (PN #[PE PF s,PE PF d] 53)=w4 at *;refine YZ.mono ?_;rintro r W5 ⟨rfl,PV⟩;have hoW:=aq ho4 PV;have d0:=ar PV a0;have d1:=ar PV a1;have d2:=ar PV a2;have d3:=ar PV a3;have d4:=ar PV a4;have d5:=ar PV a5;have hMW:=hM4.keep (F:=fun _=>False) (ai.of_below PV) id;have BW:=ak B4 PV;clear YZ PV ho4 y0 y1 y2 r0 a0 a1 a2 a3 a4 a5 a6 a7 hM4 B4 RM;cases pe with
       |false =>
        have HS:PJ (P++dt p n a (l2.take (j+1))=R):=(by rw[SW.out rfl];exact HRJ.out);clear SW Xo;go_wp2;go_roundw
        case rel=>exact⟨j+1,by omega,by go_num,by rw[HS.out];exact hoW,d0,d1,d2,hMW,HQ.out,BW⟩
        case measure=>simp[intOf];omega
       |true =>
        obtain⟨XT,hy2⟩:=Xo.out rfl;have HY1:PJ _:=XT;have HY2:PJ _:=hy2;clear SW Xo XT hy2;go_wp2_with (at_builtin;refine wpList_append_own_at _ rfl _ _ 245 rfl w.heap.size 248 i0 (.agg #[PE PF 0,PE PF 0,PE PF 0,PE PF 0]) 4 32 Tryz.underL hi P0 P3 Qd rfl (by decide) _ _ _ rfl (hoW.alloc _) ⟨W5.heap.size,0,Pk⟩ 1 1 [PE PF ta,PE PF tb,PE PF (sa+sb),PE PF (da+db)] rfl rfl (bK _ _ _ _ _ _) (by intro u hu;simp at hu;rcases hu with rfl|rfl|rfl|rfl<;>rfl) ?c3 ?c4 ?c5 ?_)
        case c3=>unfold maxLen;omega
        case c4=>omega
        case c5=>have h5:=BW.size;first|(simp;omega)|(simp at h5 ⊢;omega)
        intro v' w6 PS PR _ Sh;have K6:ai (fun q=>u7.ownBlock=OM q) W5 w6:=((ai.refl _ _).alloc _).grown PR (fun q hq _=>hq);have c0':=K6.cellOf d0 (fun h=>(HQ.out E h).1 rfl);have Xp:=K6.cellOf d1 (fun h=>(HQ.out E h).1 rfl);have c2':=K6.cellOf d2 (fun h=>(HQ.out E h).1 rfl);have M6:=hMW.keep K6 (fun h=>(HQ.out kb h).2 rfl);have B6:PI w.heap.size w w6:=BW.trans (K6.to_below BW.size (fun q hq=>(hoW.lt q hq).1));have HQ6:PJ (∀q,v'.ownBlock=OM q->q≠E/\q≠kb):=fun q hq=>by
         rcases Sh with h|h
         ·exact HQ.out q (by rw[<- h];exact hq)
         ·rw[h]at hq;cases hq;have h1:=aJ d0;have h2:=hMW.lt;simp only at h1;exact⟨by first|(simp;omega)|(simp at h1 ⊢;omega),by first|(simp;omega)|(simp at h2 ⊢;omega)⟩
        have O6:w6.ownsRow w.heap.size 248 4 v' (P++dt p n a (l2.take (j+1))).length (fV (P++dt p n a (l2.take (j+1)))):=by
         rw[HY1.out,HY2.out];exact PS
        clear PS PR Sh K6 hoW d0 d1 d2 d3 hMW BW;go_wp2;go_roundw
        case rel=>exact⟨j+1,by omega,by go_num,O6,c0',Xp,c2',M6,HQ6.out,B6⟩
        case measure=>simp[intOf];omega
     ·have e:j=l2.length:=(by omega);subst e;have HE2:PJ (mTo p n l (k+1)=P++dt p n a (l2.take l2.length)):=(by rw[M9];exact QV.out);clear z0 z1 z2 hM HQ;go_wp2;go_roundw
      case rel=>exact⟨k+1,by omega,by go_num,by rw[HE2.out];exact ho,Uz⟩
      case measure=>simp[intOf];omega
  ·have e:k=l.length:=(by omega);subst e;rw[ot]at hown;go_wp2;go_ret;exact⟨_,rfl,hown,hB⟩
end
section
open Go.RowKit
def eH (l:List LE) (t:Nat):Nat:=(l.filter (fun e=>decide (e.to<t))).length
def jE (l:List LE) (t:Nat):Bool:=match l[eH l t]? with|some e=>decide (e.to=t)|none=>PB
theorem jV {x:LE}{l:List LE}(h:x.to<t):eH (x::l) t=eH l t+1:=by
 unfold eH;rw[Pb (by simpa using h),Nf]
theorem Co:∀{l:List LE}{t:Nat},(∀e∈l,t<=e.to)->eH l t=0
 |[],_,_=>rfl
 |x::l,t,h=>by
  have h1:=h x (M4 ..);have ih:=Co (l:=l) (t:=t) (fun e he=>h e (MV _ he));unfold eH at *;rw[O9 (by simpa using h1)];exact ih
theorem jW {x:LE}{l:List LE}(hR:Rsg (x::l))(h:¬x.to<t):eH (x::l) t=0 :=
 Co (fun e he=>by
  rcases Nh.1 he with rfl|he
  ·omega
  ·have:=hR.head e he;omega)
theorem Cq (l:List LE)(t:Nat):eH l t<=l.length:=Nk _ _
theorem ow:∀{l:List LE}{t i:Nat}{e:LE},Rsg l->l[i]? = OM e->(e.to<t↔i<eH l t)
 |[],_,_,_,_,h=>by simp at h
 |x::l,t,0,e,hR,h=>by
  simp at h;subst h;by_cases hx:x.to<t
  ·rw[jV hx];exact⟨fun _=>by omega,fun _=>hx⟩
  ·rw[jW hR hx];exact⟨fun h=>absurd h hx,fun h=>absurd h (NJ _)⟩
 |x::l,t,i+1,e,hR,h=>by
  have h:l[i]? = OM e:=by simpa using h
  have he:=MZ h;have:=hR.head e he;by_cases hx:x.to<t
  ·rw[jV hx,ow (t:=t) hR.tail h];omega
  ·rw[jW hR hx];exact⟨fun h=>by omega,fun h=>by omega⟩
theorem Cr (x:LE):∀{l:List LE},Rsg l->cV x l=l.take (eH l x.to)++x::l.drop (eH l x.to+if jE l x.to then 1 else 0)
 |[],_=>by
  show [x]=[].take _++x::[].drop _;simp
 |y::l,hR=>by
  by_cases h1:y.to<x.to
  ·have ih:=Cr x hR.tail;have e1:eH (y::l) x.to=eH l x.to+1:=jV h1;have e2:jE (y::l) x.to=jE l x.to:=by
    unfold jE;rw[e1];simp
   rw[e1,e2];show (if x.to<y.to then _ else if x.to=y.to then _ else y::cV x l)=_;rw[if_neg (by omega),if_neg (by omega),ih];cases jE l x.to<;>simp
  ·have e1:eH (y::l) x.to=0:=jW hR h1;have e2:jE (y::l) x.to=decide (y.to=x.to):=by
    unfold jE;rw[e1];rfl
   rw[e1,e2];show (if x.to<y.to then x::y::l else if x.to=y.to then x::l else y::cV x l)=_;by_cases h2:y.to=x.to
   ·rw[if_neg (by omega),if_pos h2.symm,decide_eq_true h2];rfl
   ·rw[if_pos (by omega),decide_eq_false h2];rfl
theorem Ik {l:List LE}{t:Nat}(hR:Rsg l):jE l t=Pm↔∃e∈l,e.to=t:=by
 constructor
 ·intro h;unfold jE at h;cases he:l[eH l t]? with
  |none=>rw[he]at h;cases h
  |some e=>rw[he]at h;exact⟨e,MZ he,of_decide_eq_true h⟩
 ·rintro⟨e,he,ht⟩;obtain⟨i,hi,h⟩:=Nv he;have VQ:l[i]? = OM e:=by rw[MJ hi,h]
  have h1:¬i<eH l t:=fun h=>by have:=(ow (t:=t) hR VQ).2 h;omega
  have PO:eH l t<l.length:=by omega
  have WA:l[eH l t]? = OM l[eH l t]:=MJ PO;have h2:¬(l[eH l t]).to<t:=fun h=>absurd ((ow (t:=t) hR WA).1 h) (NJ _);unfold jE;rw[WA];show decide _=Pm;refine decide_eq_true ?_;by_cases e1:i=eH l t
  ·subst e1;rw[h];exact ht
  ·have:=NT.1 hR (eH l t) i PO hi (by omega);rw[h]at this;omega
theorem mL (n:Int)(w:PG):PK prog 248 #[PE PF n] w fun e w'=>e=PM (.bool PB)/\w'=w:=by
 go_enter func248,ntmps248;go_wp2;go_ret;exact⟨by simp,rfl⟩
theorem AJ (a b:Int)(w:PG):PK prog 230 #[PE PF a,PE PF b] w fun e w'=>e=PM (PE PF (fy a b))/\w'=w:=by
 by_cases h:a<b
 ·have e:fy a b=-1:=by unfold fy;rw[if_pos h]
  rw[e];clear e;go_enter func230,ntmps230;go_wp2_with (go_at_call 248;refine(mL _ _).mono ?_;rintro e w' ⟨rfl,rfl⟩);go_ret;exact⟨rfl,rfl⟩
 ·by_cases h2:b<a
  ·have e:fy a b=1:=(by unfold fy;rw[if_neg h,if_pos h2]);rw[e];clear e;go_enter func230,ntmps230;go_wp2_with (go_at_call 248;refine(mL _ _).mono ?_;rintro e w' ⟨rfl,rfl⟩);go_ret;exact⟨rfl,rfl⟩
  ·have e:fy a b=0:=(by unfold fy;rw[if_neg h,if_neg h2]);rw[e];clear e;go_enter func230,ntmps230;go_wp2_with (go_at_call 248;refine(mL _ _).mono ?_;rintro e w' ⟨rfl,rfl⟩);go_ret;exact⟨rfl,rfl⟩
theorem tX (w:PG)(et es ed em t:Int) :
  PK prog 229 #[.agg #[PE PF et,PE PF es,PE PF ed,PE PF em],PE PF t] w fun e w'=>e=PM (PE PF (fy et t))/\PI w.heap.size w w':=by
 have B0:=aQ w (PN #[PE PF et,PE PF es,PE PF ed,PE PF em] 204);have h1:=AJ et t (w.alloc (PN #[PE PF et,PE PF es,PE PF ed,PE PF em] 204));generalize fy et t=r at *;go_enter func229,ntmps229;go_wp2_with fail;refine h1.mono ?_;rintro r1 w1 ⟨rfl,rfl⟩;clear h1;go_wp2;go_ret;exact⟨rfl,B0⟩
theorem AK {l:List LE}(w:PG)(PT:dG w A l)(hl:l.length<=256)(hR:Rsg l) :
  PK prog 228 #[.slice A l.length cap,PE PF (t:Int),.func (.func 229) #[] #[]] w fun e w'=>e=PM (.tuple #[PE PF (eH l t:Int),.bool (jE l t)])/\PI w.heap.size w w':=by
 have ac4:=Cq l t;have HPI:PJ (∀i e,l[i]? = OM e->(e.to<t↔i<eH l t)):=fun i e h=>ow hR h;have HH:PJ (jE l t=match l[eH l t]? with|some e=>decide (e.to=t)|none=>PB):=rfl;clear hR;generalize jE l t=hs at *;generalize eH l t=ps at *;go_enter func228,ntmps228;go_wp2;go_loopw [9,10] (fun iv jv wr=>∃(i j:Nat),i<=ps/\ps<=j/\j<=l.length/\iv=PE PF i/\jv=PE PF j/\PI w.heap.size w wr)
  (fun i j _=>(intOf j).toNat-(intOf i).toNat)
 case atStart=>exact⟨0,l.length,MQ _,ac4,aj,rfl,rfl,al⟩
 case round =>
  obtain⟨i,j,hi,hj,Vw,rfl,rfl,hB⟩:=hrel;by_cases PO:i<j
  ·have i1:(0:Int)<=(i:Int):=(by omega);have i2:(i:Int)<(j:Int):=(by omega);have i3:(j:Int)<=256:=(by omega);obtain⟨m,hm⟩:∃m:Nat,m=(i+j)/2:=⟨_,rfl⟩;have hmi:((i:Int)+(j:Int))/2=(m:Int):=(by omega);have Vt:i<=m:=(by omega);have Uf:m<j:=(by omega);obtain⟨e,he⟩:∃e,l[m]? = OM e:=⟨l[m]'(by omega),MJ _⟩;obtain⟨b,o,rfl,q1,q2,q3,q4⟩:=(PT.below hB) m e he;have hpi:=HPI.out m e he;have m1:(0:Int)<=(m:Int):=(by omega);have m2:(m:Int)<(l.length:Int):=(by omega);have Ql:=tX wr (e.to:Int) e.s e.d e.mid (t:Int);have HCN:PJ (fy (e.to:Int) (t:Int)<0↔m<ps):=by
    rw[mQ _ _,<- hpi];exact Int.ofNat_lt
   clear hpi hm he;generalize fy (e.to:Int) (t:Int)=r at *;generalize (e.to:Int)=et at *;generalize e.s=es at *;generalize e.d=ed at *;generalize e.mid=em at *;go_wp2_with fail;refine Ql.mono ?_;rintro r1 w1 ⟨rfl,hb1⟩;have B1:=ak hB hb1;clear Ql hB hb1 q1 q2 q3 q4;by_cases hr:r<0
   ·have hmp:=HCN.out.1 hr;go_wp2;go_roundw
    case rel=>exact⟨m+1,j,by omega,hj,Vw,by go_num,rfl,B1⟩
    case measure=>simp[intOf];omega
   ·have hmp:ps<=m:=by
     have:¬m<ps:=fun h=>hr (HCN.out.2 h);omega
    go_wp2;go_roundw
    case rel=>exact⟨i,m,hi,hmp,by omega,rfl,rfl,B1⟩
    case measure=>simp[intOf];omega
  ·have ei:i=ps:=(by omega);have ej:j=ps:=(by omega);subst ei;subst ej;by_cases PY:j<l.length
   ·obtain⟨e,he⟩:∃e,l[j]? = OM e:=⟨l[j],MJ PY⟩;obtain⟨b,o,rfl,q1,q2,q3,q4⟩:=(PT.below hB) j e he;have i1:(0:Int)<=(j:Int):=(by omega);have i2:(j:Int)<(l.length:Int):=(by omega);have Ql:=tX wr (e.to:Int) e.s e.d e.mid (t:Int);have HHE:PJ (hs=decide (fy (e.to:Int) (t:Int)=0)):=by
     have h1:=HH.out;rw[he]at h1;rw[h1];by_cases q:e.to=t
     ·rw[decide_eq_true ((sK _ _).2 (by omega))];exact decide_eq_true q
     ·rw[decide_eq_false (fun h=>q (by have:=(sK _ _).1 h;omega))];exact decide_eq_false q
    clear HH he;generalize fy (e.to:Int) (t:Int)=r at *;generalize (e.to:Int)=et at *;generalize e.s=es at *;generalize e.d=ed at *;generalize e.mid=em at *;go_wp2_with fail;refine Ql.mono ?_;rintro r1 w1 ⟨rfl,hb1⟩;have B1:=ak hB hb1;clear Ql hB hb1 q1 q2 q3 q4;go_wp2;go_ret2;refine⟨?_,B1⟩;rw[HHE.out];show Ending.returned (Value.tuple #[NB .i64 (j:Int),OZ (r==0)])=_;rw[show (r==0)=decide (r=0) from rfl]
   ·have HHE:PJ (hs=PB):=by
     have h1:=HH.out;rw[NC (by omega)]at h1;exact h1
    clear HH;have asH:¬(j:Int)<(l.length:Int):=(by omega);go_wp2;go_ret2;refine⟨?_,hB⟩;rw[HHE.out];rfl
theorem tY {cap t:Nat}{l:List LE}(w:PG)(PT:dG w A l)(hl:l.length<=256)(hR:Rsg l) :
  PK prog 198 #[.slice A l.length cap,PE PF (t:Int)] w fun e w'=>e=PM (.tuple #[PE PF (eH l t:Int),.bool (jE l t)])/\PI w.heap.size w w':=by
 have h1:=AK (cap:=cap) (t:=t) w PT hl hR;generalize jE l t=hs at *;generalize (eH l t:Int)=ps at *;go_enter func198,ntmps198;go_wp2_with fail;refine h1.mono ?_;rintro r1 w1 ⟨rfl,hb1⟩;clear h1;go_wp2;go_ret2;exact⟨rfl,hb1⟩
end
section
open Go.RowKit Go.Lib
theorem Ex (l:List LE)(i:Nat):bB (l.take i)=(bB l).take (i*4):=by
 induction l generalizing i with
 |nil=>simp[bB]
 |cons x l ih =>
  cases i with
  |zero=>simp[bB]
  |succ i =>
   rw[List.take_succ_cons,dw,dw,ih,List.take_append];have h:(leV x).length=4:=rfl;rw[NV (l:=leV x) (by rw[h];omega),h,show (i+1)*4-4=i*4 by omega]
theorem Ey (l:List LE)(i:Nat):bB (l.drop i)=(bB l).drop (i*4):=by
 induction l generalizing i with
 |nil=>simp[bB]
 |cons x l ih =>
  cases i with
  |zero=>simp
  |succ i =>
   rw[List.drop_succ_cons,ih,dw,List.drop_append];have h:(leV x).length=4:=rfl;rw[List.drop_of_length_le (l:=leV x) (by rw[h];omega),h,Pf,show (i+1)*4-4=i*4 by omega]
theorem Il (l:List LE)(i:Nat)(e:LE):bB (l.take i++e::l.drop i)=(bB l).take (i*4)++leV e++(bB l).drop (i*4):=by
 rw[eU,dw,Ex,Ey,Nq]
theorem fI {P:Program}(w:PG)(dT sT ty elem:TypeId)(g o agn ak3 k m:Nat)(a:Addr)(ago ak4:Nat)(cur:Array PH)(t:TypeId)(cs:List PH)
  (hu:P.underlying dT=OM (.slice elem)) (hs:(P.info? elem).map (·.size)=OM k)
  (hg:w.heap[g]? = OM (.cells cur t (0,0))) (hm:Nat.min ago agn=m) (hn:cs.length=m*k)
  (Vf:∀j v,cs[j]? = OM v->w.cell? (a.add j)=OM v) (ak5:o+cs.length<=cur.size) (h1:∀v∈cs,v.oneCell'=Pm) :
  (Builtin.copy_ #[dT,sT] ty #[.slice (OM ⟨g,o,Pk⟩) agn ak3,.slice (OM a) ago ak4]).run P w =
   .ok (goInt m) (w.setRow g (cur.toList.take o++cs++cur.toList.drop (o+cs.length)).toArray):=by
 have hl:=run_loadCells_list (P:=P) w a cs Vf;have Qq:=run_storeCells_at P g o t cs 0 cur w hg (by simpa using ak5) h1;cases hq:P.info? elem with
 |none=>simp[hq]at hs
 |some i =>
  have hi:i.size=k:=by simpa [hq]using hs
  simp[Builtin.copy_,run_underlying hu,Builtin.lenOf,Builtin.firstCells,sizeOf,typeInfo,hq,hi,hm,<- hn,hl,Qq]
theorem Ez {cur ev:List PH}{n:Nat}(hx:cur.take (n*4)=xs)(hl:xs.length=n*4)(he:ev.length=4)(hi:i<n)(hc:(n+1)*4<=cur.length) :
  let c1:=cur.take (i*4+4)++xs.drop (i*4)++cur.drop (i*4+4+(xs.drop (i*4)).length)
  c1.length=cur.length/\(c1.take (i*4)++ev++c1.drop (i*4+ev.length)).length=cur.length/\(c1.take (i*4)++ev++c1.drop (i*4+ev.length)).take ((n+1)*4)=xs.take (i*4)++ev++xs.drop (i*4):=by
 intro c1;have hd:(xs.drop (i*4)).length=n*4-i*4:=by rw[NM,hl]
 have ht:(cur.take (i*4+4)).length=i*4+4:=by rw[MY];omega
 have h1:c1.length=cur.length:=by
  show (cur.take (i*4+4)++xs.drop (i*4)++cur.drop (i*4+4+(xs.drop (i*4)).length)).length=_;simp only[MM,MY,NM,hl];omega
 have h2:c1.take (i*4)=xs.take (i*4):=by
  show (cur.take (i*4+4)++xs.drop (i*4)++cur.drop (i*4+4+(xs.drop (i*4)).length)).take (i*4)=_;rw[Nq,Ol (by rw[ht];omega),List.take_take,<- hx,List.take_take]
  congr 1;omega
 have h3:c1.drop (i*4+4)=xs.drop (i*4)++cur.drop (i*4+4+(xs.drop (i*4)).length):=by
  show (cur.take (i*4+4)++xs.drop (i*4)++cur.drop (i*4+4+(xs.drop (i*4)).length)).drop (i*4+4)=_;rw[Nq,List.drop_append_of_le_length (by rw[ht];omega),List.drop_of_length_le (by rw[ht];omega),Pf]
 refine⟨h1,?_,?_⟩
 ·rw[MM,MM,MY,NM,h1,he];omega
 ·rw[he,h2,h3,<- Nq,Ol (by
   rw[MM,MM,MY,hd,he,hl];omega),NV (by
   rw[MM,MM,MY,hd,he,hl];omega)]
theorem Im {row ev:List PH}{n:Nat}(hx:row.take (i*4)=xs.take (i*4))(hl:xs.length=n*4)(he:ev.length=4)(hi:i<n)(hc:(n+1)*4<=row.length) :
  let c1:=row.take (i*4)++ev++row.drop (i*4+ev.length)
  c1.length=row.length/\(c1.take (i*4+4)++xs.drop (i*4)++c1.drop (i*4+4+(xs.drop (i*4)).length)).length=row.length/\(c1.take (i*4+4)++xs.drop (i*4)++c1.drop (i*4+4+(xs.drop (i*4)).length)).take ((n+1)*4)=xs.take (i*4)++ev++xs.drop (i*4):=by
 intro c1;have hd:(xs.drop (i*4)).length=n*4-i*4:=by rw[NM,hl]
 have ht:(row.take (i*4)).length=i*4:=by rw[MY];omega
 have h1:c1.length=row.length:=by
  show (row.take (i*4)++ev++row.drop (i*4+ev.length)).length=_;rw[MM,MM,NM,ht,he];omega
 have h2:c1.take (i*4+4)=xs.take (i*4)++ev:=by
  show (row.take (i*4)++ev++row.drop (i*4+ev.length)).take (i*4+4)=_;rw[Ol (by rw[MM,ht,he];omega),NV (by rw[MM,ht,he];omega),hx]
 refine⟨h1,?_,?_⟩
 ·simp only[MM,MY,NM,h1,hl];omega
 ·rw[h2,Ol (by
   rw[MM,MM,MY,hd,he,hl];omega),NV (by
   rw[MM,MM,MY,hd,he,hl];omega)]
end
section
open Go.RowKit Go.Lib
theorem EA (w:PG):(Go.sizeOf 204).run prog w=.ok 4 w:=by kernel_rfl
theorem JM:(prog.info? 204).map (·.size)=OM 4:=by kernel_rfl
theorem rZ {vs:List PH}(h:w.heap[xb]? = OM (.cells vs.toArray 204 (0,0))):∀j u,vs[j]? = OM u->w.cell? ((⟨xb,0,Pk⟩:Addr).add j)=OM u:=by
 intro j u hj;rw[Addr.add_lit,M8,cell_of_row w xb j _ 204 (0,0) h]
 simpa using hj
theorem AN {l:List LE}{e:LE}(w:PG)(hown:w.ownsRow N 204 4 v l.length (bB l))(hl:l.length<=256)(hN:N<=w.heap.size)(UT:w.heap[xb]? = OM (.cells (leV e).toArray 204 (0,0))) :
  PK prog 199 #[v,PE PF (l.length:Int),.slice (OM ⟨xb,0,Pk⟩) 1 1] w fun r w'=>∃v',r=PM v'/\w'.ownsRow N 204 4 v' (l.length+1) (bB l++leV e)/\w.grownBy w' v.ownBlock/\(v'.ownBlock=v.ownBlock\/v'.ownBlock=OM w.heap.size):=by
 obtain⟨i0,hi,P0,P3,Qd⟩:=info_parts Tryz.infoE;have RJ:=rZ UT;have Y3:∀u∈leV e,u.oneCell'=true:=fun u hu=>fU [e] u (by rw[eh];exact hu);obtain⟨A,cap,rfl,Vd,aab⟩:∃A cap,v=.slice A l.length cap/\(l.length<=cap)/\cap<=9223372036854775807:=by
  rcases hown.2 with⟨rfl,h0⟩|⟨g,cap,cur,rfl,_,_,h1,h2,_⟩
  ·exact⟨Pk,0,by rw[h0],by omega,by omega⟩
  ·exact⟨_,cap,rfl,h1,by unfold maxLen at h2;omega⟩
 have hlen:(leV e).length=1*4:=rfl;clear UT;generalize leV e=ev at *;generalize bB l=xs at *;rcases Decidable.em (cap=l.length) with hc|hc
 all_goals
  try subst hc
  go_enter func199,ntmps199;go_wp2_with (at_builtin;refine wpList_append_own_at _ rfl _ _ 126 rfl N 204 i0 (.agg #[PE PF 0,PE PF 0,PE PF 0,PE PF 0]) 4 32 Tryz.underE hi P0 P3 Qd rfl (by decide) _ _ _ rfl hown ⟨xb,0,Pk⟩ 1 1 ev rfl hlen RJ Y3 ?c3 ?c4 ?c5 ?_)
  case c3=>unfold maxLen;omega
  case c4=>omega
  case c5=>exact hN
  intro v' w1 PS PR _ Sh;go_wp2;go_ret;exact⟨v',rfl,PS,PR,Sh⟩
theorem va {g i:Nat}{l:List LE}{e:LE}(w:PG)(hown:w.ownsRow N 204 4 (.slice (OM ⟨g,0,Pk⟩) l.length cap) l.length (bB l))(hl:l.length<=256)(hi:i<l.length)(Uw:l.length+1<=cap)(hxg:xb≠g)(UT:w.heap[xb]? = OM (.cells (leV e).toArray 204 (0,0))) :
  PK prog 199 #[.slice (OM ⟨g,0,Pk⟩) l.length cap,PE PF (i:Int),.slice (OM ⟨xb,0,Pk⟩) 1 1] w fun r w'=>r=PM (.slice (OM ⟨g,0,Pk⟩) (l.length+1) cap)/\w'.ownsRow N 204 4 (.slice (OM ⟨g,0,Pk⟩) (l.length+1) cap) (l.length+1) ((bB l).take (i*4)++leV e++(bB l).drop (i*4))/\w.grownBy w' (OM g):=by
 obtain⟨g',cap',cur,hv,hNg,hg,YO,SU,Qp,WM⟩:∃g' cap' cur,(Ny (OM ⟨g,0,Pk⟩) l.length cap)=.slice (OM ⟨g',0,Pk⟩) l.length cap'/\N<=g'/\w.heap[g']? = OM (.cells cur 204 (0,0))/\l.length<=cap'/\cap'<=maxLen/\cur.size=cap'*4/\cur.toList.take (l.length*4)=bB l:=by
  rcases hown.2 with⟨h,_⟩|h
  ·cases h
  ·exact h
 cases hv;have SM:=hown.1;have RJ:=rZ UT;have Y3:∀u∈leV e,u.oneCell'=true:=fun u hu=>fU [e] u (by rw[eh];exact hu);have ac5:∀u∈(bB l).drop (i*4),u.oneCell'=true:=fun u hu=>fU l u (List.mem_of_mem_drop hu);have hlen:(leV e).length=4:=rfl;have Vf:∀j u,(bB l)[j]? = OM u->w.cell? ⟨g,j,Pk⟩=OM u:=fun j u hj=>by
  have:=hown.cells (g:=g) rfl j u hj
  rwa [Addr.add_lit,M8]at this
 have asJ:cap<=9223372036854775807:=by unfold maxLen at SU;omega
 have hov:∀lb cb,(callFunc 231 #[.slice (OM ⟨xb,0,Pk⟩) 1 1,.slice (OM ⟨g,(i+1)*4,Pk⟩) lb cb]).run prog w=.ok (.value (.bool PB)) w:=fun lb cb=>by
  rw[run_callFunc_extern func231 (by kernel_rfl) (by kernel_rfl) (by kernel_rfl) (e:=Extern.SlicesOverlaps.overlaps #[126,126] #[4]) (by kernel_rfl),
   Lib.run_overlaps_apart w 126 4 204 Tryz.underE 4 EA ⟨xb,0,Pk⟩ ⟨g,(i+1)*4,Pk⟩ 1 1 lb cb hxg 204 204 4 cur.size (by simp[World.shape?,UT,hlen]) (by simp[World.shape?,hg]) (by omega) (by simp[OU,UT]) (by simp[OU,UT])]
  rfl
 have Ql:cur.toList.length=cap*4:=by rw[Array.length_toList (xs:=cur),Qp]
 obtain⟨hA,hB,hC⟩:=Ez (n:=l.length) (i:=i) WM SM hlen hi (by rw[Ql];omega);clear UT;generalize hXS:bB l=xs at *;generalize leV e=ev at *;obtain⟨c1,UH⟩:∃c1,c1=cur.toList.take (i*4+4)++xs.drop (i*4)++cur.toList.drop (i*4+4+(xs.drop (i*4)).length):=⟨_,rfl⟩;rw[<- UH]at hA hB hC;have XO:(xs.drop (i*4)).length=(l.length-i)*4:=by rw[NM,SM];omega
 have Y4:∀(ty:TypeId) (dc sc:Nat) (W:PG),W.heap[g]? = OM (.cells cur 204 (0,0))->(∀x,W.cell? x=w.cell? x)->(Builtin.copy_ #[126,126] ty #[.slice (OM ⟨g,(i+1)*4,Pk⟩) (l.length-i) dc,.slice (OM ⟨g,i*4,Pk⟩) (l.length+1-i) sc]).run prog W=.ok (goInt ((l.length-i:Nat):Int)) (W.setRow g c1.toArray):=fun ty dc sc W hW hWc=>by
  rw[fI W 126 126 ty 204 g ((i+1)*4) _ dc 4 (l.length-i) ⟨g,i*4,Pk⟩ _ sc cur 204 (xs.drop (i*4)) Tryz.underE JM hW (by simp only[Nat.min_def];split<;>omega) XO (fun j u hj=>by
   rw[Addr.add_lit,hWc];rw[OD]at hj;exact Vf _ u hj) (by rw[XO,Qp];omega) ac5,UH,show (i+1)*4=i*4+4 by omega]
 have Y5:∀(ty:TypeId) (dc:Nat) (W:PG),W.heap[g]? = OM (.cells c1.toArray 204 (0,0))->(∀j u,ev[j]? = OM u->W.cell? ((⟨xb,0,Pk⟩:Addr).add j)=OM u)->(Builtin.copy_ #[126,126] ty #[.slice (OM ⟨g,i*4,Pk⟩) (l.length+1-i) dc,.slice (OM ⟨xb,0,Pk⟩) 1 1]).run prog W=.ok (goInt 1) (W.setRow g (c1.take (i*4)++ev++c1.drop (i*4+ev.length)).toArray):=fun ty dc W hW hWc=>by
  rw[fI W 126 126 ty 204 g (i*4) _ dc 4 1 ⟨xb,0,Pk⟩ _ 1 c1.toArray 204 ev Tryz.underE JM hW (by simp only[Nat.min_def];split<;>omega) (by rw[hlen]) hWc (by rw[Oi,hA,Ql,hlen];omega) Y3];rfl
 have agp:(w.drew.setRow g c1.toArray).heap[g]? = OM (.cells c1.toArray 204 (0,0)):=setRow_heap w.drew g cur _ 204 _ hg;have ak6:∀j u,ev[j]? = OM u->(w.drew.setRow g c1.toArray).cell? ((⟨xb,0,Pk⟩:Addr).add j)=OM u:=fun j u hj=>by
  rw[NS (w:=w.drew) (setRow_other w.drew g _ _ (fun h=>hxg (by rw[Addr.add_lit]at h;exact h)))];exact RJ j u hj
 have H1:∀(ty:TypeId) (dc sc:Nat),(Builtin.copy_ #[126,126] ty #[.slice (OM ⟨g,(i+1)*4,Pk⟩) (l.length-i) dc,.slice (OM ⟨g,i*4,Pk⟩) (l.length+1-i) sc]).run prog w.drew=.ok (goInt ((l.length-i:Nat):Int)) (w.drew.setRow g c1.toArray):=fun ty dc sc=>Y4 ty dc sc w.drew hg (fun _=>rfl);have H2:∀(ty:TypeId) (dc:Nat),(Builtin.copy_ #[126,126] ty #[.slice (OM ⟨g,i*4,Pk⟩) (l.length+1-i) dc,.slice (OM ⟨xb,0,Pk⟩) 1 1]).run prog (w.drew.setRow g c1.toArray)=.ok (goInt 1) ((w.drew.setRow g c1.toArray).setRow g (c1.take (i*4)++ev++c1.drop (i*4+ev.length)).toArray):=fun ty dc=>Y5 ty dc _ agp ak6;have RF:IntKind.i64.wrap ((i:Int)+1)=(i:Int)+1:=by rw[IntKind.wrap_i64];omega
 have hb2:¬(cap=i+1):=by omega
 have QB:¬(cap=i):=by omega
 have Qd:¬((i:Int)=(l.length:Int)):=by omega
 have mixed:prog.follows .mixedOrders=true:=by kernel_rfl
 have hb1:(0:Int)<=(i:Int)+1:=by omega
 have PY:i<=l.length:=by omega
 have htn:((i:Int)+1).toNat=i+1:=by omega
 have hb3:(i:Int)<=(l.length:Int)+1:=by omega
 have PV:(i:Int)<=(l.length:Int):=by omega
 have Hx1:PJ _:=SM;have ac7:PJ _:=hlen;have Hcl:PJ _:=Ql;have HB:PJ _:=hB;have HC:PJ _:=hC;clear Y4 Y5 UH XO SM hlen Ql hA hB hC Qp WM hXS;go_enter func199,ntmps199;go_wp2_with (simp only[hov]);go_region_law_o (refine step_copy_runI rfl _ _ 126 126 rfl _ _ (by simp[Act.eval,Act.put]) (by simp[Act.eval,Act.put]) (H1 _ _ _) ?_);go_wp2_with (at_builtin;refine wpList_copy_runI _ rfl _ _ 126 126 rfl _ _ rfl rfl (H2 _ _) ?_);go_ret;refine⟨rfl,⟨?_,MF ⟨g,cap,_,rfl,hNg,setRow_heap _ g _ _ 204 _ agp,Uw,SU,?_,?_⟩⟩,?_⟩
 ·rw[MM,MM,MY,NM,ac7.out,Hx1.out];omega
 ·rw[Oi,<- Nq,HB.out,Hcl.out]
 ·have h:=HC.out;rw[Nq (c1.take (i*4))]at h;exact h
 ·exact⟨rfl,rfl,rfl,by simp,fun k hk PW=>by
   rw[setRow_other _ g k _ (fun h=>PW (by rw[h])),setRow_other _ g k _ (fun h=>PW (by rw[h]))];rfl⟩
end
section
open Go.RowKit Go.Lib
theorem yx {g i:Nat}{l:List LE}{e:LE}(w:PG)(hown:w.ownsRow N 204 4 (.slice (OM ⟨g,0,Pk⟩) l.length cap) l.length (bB l))(hl:l.length<=256)(hi:i<l.length)(Uw:cap<l.length+1)(hN:N<=w.heap.size)(UT:w.heap[xb]? = OM (.cells (leV e).toArray 204 (0,0))) :
  PK prog 199 #[.slice (OM ⟨g,0,Pk⟩) l.length cap,PE PF (i:Int),.slice (OM ⟨xb,0,Pk⟩) 1 1] w fun r w'=>∃G,r=PM (.slice (OM ⟨w.heap.size,0,Pk⟩) (l.length+1) G)/\w'.ownsRow N 204 4 (.slice (OM ⟨w.heap.size,0,Pk⟩) (l.length+1) G) (l.length+1) ((bB l).take (i*4)++leV e++(bB l).drop (i*4))/\PI w.heap.size w w':=by
 obtain⟨i0,Ws,P0,P3,Qd⟩:=info_parts Tryz.infoE;have Vd:cap=l.length:=by
  rcases hown.2 with⟨h,_⟩|⟨g',cap',cur,hv,_,_,YO,_⟩
  ·cases h
  ·cases hv;omega
 subst Vd;have SM:=hown.1;have RJ:=rZ UT;have Y3:∀u∈leV e,u.oneCell'=true:=fun u hu=>fU [e] u (by rw[eh];exact hu);have ac5:∀u∈(bB l).drop (i*4),u.oneCell'=true:=fun u hu=>fU l u (List.mem_of_mem_drop hu);have hlen:(leV e).length=4:=rfl;have hgw:g<w.heap.size:=(hown.lt g rfl).2;have hxw:xb<w.heap.size:=(Na.1 UT).1;have Vf:∀j u,(bB l)[j]? = OM u->w.cell? ⟨g,j,Pk⟩=OM u:=fun j u hj=>by
  have:=hown.cells (g:=g) rfl j u hj
  rwa [Addr.add_lit,M8]at this
 have hkk:(l.length:Int)+1-(i:Int)=((l.length+1-i:Nat):Int):=by omega
 have hik:i+(l.length+1-i)=l.length+1:=by omega
 have hold:(Builtin.firstCells i0.size i (.slice (OM ⟨g,0,Pk⟩) i l.length)).run prog w.drew=.ok ((bB l).take (i*4)).toArray w.drew:=by
  rw[P3];exact run_firstCells_some w.drew 4 i ⟨g,0,Pk⟩ i l.length ((bB l).take (i*4)) (by rw[MY,SM];omega) (fun j v hj=>by
   rw[Addr.add_lit,M8];rw[List.getElem?_take]at hj;split at hj
   ·exact Vf j v hj
   ·cases hj)
 obtain⟨G,hG⟩:∃G,G=grownCap w (l.length+1) l.length 204:=⟨_,rfl⟩;obtain⟨Sz,Vr⟩:∃Sz:List PH,Sz=(bB l).take (i*4)++((Builtin.zeroCells (Value.agg #[PE PF 0,PE PF 0,PE PF 0,PE PF 0]).cells (l.length+1-i)).toList++(Builtin.zeroCells (Value.agg #[PE PF 0,PE PF 0,PE PF 0,PE PF 0]).cells (G-(l.length+1))).toList):=⟨_,rfl⟩;have hrz:∀ty,(Builtin.append_ #[126,3] ty #[.slice (OM ⟨g,0,Pk⟩) i l.length,PE PF ((l.length:Int)+1-(i:Int))]).run prog w=.ok (.slice (OM ⟨w.heap.size,0,Pk⟩) (l.length+1) G) (w.drew.alloc (.cells Sz.toArray 204)):=fun ty=>by
  have h:=Lib.run_append_grow_zeros w 126 3 ty 204 i0 _ .i64 .i64 Tryz.underE aY Ws P0 (OM ⟨g,0,Pk⟩) i l.length ((bB l).take (i*4)) hold (l.length+1-i) (by omega) (by omega) (by omega) (by omega) (by rw[Qd];omega) (by rw[Qd,hik];exact growslice_fits Uw (by omega));rw[hik,<- hG]at h;rw[hkk,h,Vr]
  congr 3
  simp
 have hGn:l.length+1<=G:=by rw[hG];exact grownCap_ge w _ _ _
 have hGm:G<=maxLen:=by rw[hG];exact grownCap_le_maxLen w _ _ _ (by unfold maxLen;omega)
 have ak8:G<=9223372036854775807:=by unfold maxLen at hGm;omega
 have hRl:Sz.length=G*4:=by
  rw[Vr];simp[Builtin.zeroCells,Value.cells,SM];omega
 have hRt:Sz.take (i*4)=(bB l).take (i*4):=by
  rw[Vr,Ol (by rw[MY,SM];omega),List.take_take,Nat.min_self]
 obtain⟨hA,hB,hC⟩:=Im (n:=l.length) (i:=i) hRt SM hlen hi (by rw[hRl];omega);clear UT Vr hold hkk hik;generalize bB l=xs at *;generalize leV e=ev at *;obtain⟨c1,UH⟩:∃c1,c1=Sz.take (i*4)++ev++Sz.drop (i*4+ev.length):=⟨_,rfl⟩;rw[<- UH]at hA hB hC;have XO:(xs.drop (i*4)).length=(l.length-i)*4:=by rw[NM,SM];omega
 have hW1:((w.alloc (.cells Sz.toArray 204)).drew).heap[w.heap.size]? = OM (.cells Sz.toArray 204 (0,0)):=heap_alloc_new w _;have Y4:∀(ty:TypeId) (dc:Nat) (W:PG),W.heap[w.heap.size]? = OM (.cells Sz.toArray 204 (0,0))->(∀j u,ev[j]? = OM u->W.cell? ((⟨xb,0,Pk⟩:Addr).add j)=OM u)->(Builtin.copy_ #[126,126] ty #[.slice (OM ⟨w.heap.size,i*4,Pk⟩) (l.length+1-i) dc,.slice (OM ⟨xb,0,Pk⟩) 1 1]).run prog W=.ok (goInt 1) (W.setRow w.heap.size c1.toArray):=fun ty dc W hW hWc=>by
  rw[fI W 126 126 ty 204 w.heap.size (i*4) _ dc 4 1 ⟨xb,0,Pk⟩ _ 1 Sz.toArray 204 ev Tryz.underE JM hW (by simp only[Nat.min_def];split<;>omega) (by rw[hlen]) hWc (by rw[Oi,hRl,hlen];omega) Y3,UH];rfl
 obtain⟨c2,W9⟩:∃c2,c2=c1.take (i*4+4)++xs.drop (i*4)++c1.drop (i*4+4+(xs.drop (i*4)).length):=⟨_,rfl⟩;rw[<- W9]at hB hC;have Y5:∀(ty:TypeId) (dc sc:Nat) (W:PG),W.heap[w.heap.size]? = OM (.cells c1.toArray 204 (0,0))->(∀x:Addr,x.block<w.heap.size->W.cell? x=w.cell? x)->(Builtin.copy_ #[126,126] ty #[.slice (OM ⟨w.heap.size,(i+1)*4,Pk⟩) (l.length-i) dc,.slice (OM ⟨g,i*4,Pk⟩) (l.length-i) sc]).run prog W=.ok (goInt ((l.length-i:Nat):Int)) (W.setRow w.heap.size c2.toArray):=fun ty dc sc W hW hWc=>by
  rw[fI W 126 126 ty 204 w.heap.size ((i+1)*4) _ dc 4 (l.length-i) ⟨g,i*4,Pk⟩ _ sc c1.toArray 204 (xs.drop (i*4)) Tryz.underE JM hW (by simp only[Nat.min_def];split<;>omega) XO (fun j u hj=>by
   rw[Addr.add_lit,hWc _ hgw];rw[OD]at hj;exact Vf _ u hj) (by rw[XO,Oi,hA,hRl];omega) ac5,W9,show (i+1)*4=i*4+4 by omega]
 have abw:∀x:Addr,x.block<w.heap.size->((w.alloc (.cells Sz.toArray 204)).drew).cell? x=w.cell? x:=fun x hx=>NS (w:=w) (Below.heap_alloc w _ _ hx);have H1:∀(ty:TypeId) (dc:Nat),(Builtin.copy_ #[126,126] ty #[.slice (OM ⟨w.heap.size,i*4,Pk⟩) (l.length+1-i) dc,.slice (OM ⟨xb,0,Pk⟩) 1 1]).run prog (w.alloc (.cells Sz.toArray 204)).drew=.ok (goInt 1) ((w.alloc (.cells Sz.toArray 204)).drew.setRow w.heap.size c1.toArray):=fun ty dc=>Y4 ty dc _ hW1 (fun j u hj=>by
  have:=RJ j u hj;rw[Addr.add_lit]at this ⊢;exact(abw _ hxw).trans this)
 have hW2:((w.alloc (.cells Sz.toArray 204)).drew.setRow w.heap.size c1.toArray).drew.heap[w.heap.size]? = OM (.cells c1.toArray 204 (0,0)):=setRow_heap _ w.heap.size _ _ 204 _ hW1;have H2:∀(ty:TypeId) (dc sc:Nat),(Builtin.copy_ #[126,126] ty #[.slice (OM ⟨w.heap.size,(i+1)*4,Pk⟩) (l.length-i) dc,.slice (OM ⟨g,i*4,Pk⟩) (l.length-i) sc]).run prog ((w.alloc (.cells Sz.toArray 204)).drew.setRow w.heap.size c1.toArray).drew=.ok (goInt ((l.length-i:Nat):Int)) (((w.alloc (.cells Sz.toArray 204)).drew.setRow w.heap.size c1.toArray).drew.setRow w.heap.size c2.toArray):=fun ty dc sc=>Y5 ty dc sc _ hW2 (fun x hx=>by
  have h1:((w.alloc (.cells Sz.toArray 204)).drew.setRow w.heap.size c1.toArray).drew.cell? x=(w.alloc (.cells Sz.toArray 204)).drew.cell? x:=NS (setRow_other _ w.heap.size _ _ (by omega));exact h1.trans (abw x hx))
 have RF:IntKind.i64.wrap ((i:Int)+1)=(i:Int)+1:=by rw[IntKind.wrap_i64];omega
 have hb2:¬(G=i+1):=by omega
 have QB:¬(G=i):=by omega
 have Qr:¬(l.length=i):=by omega
 have hz3:¬((i:Int)=(l.length:Int)):=by omega
 have mixed:prog.follows .mixedOrders=true:=by kernel_rfl
 have hb1:(0:Int)<=(i:Int)+1:=by omega
 have PY:i<=l.length:=by omega
 have htn:((i:Int)+1).toNat=i+1:=by omega
 have hb3:(i:Int)<=(l.length:Int)+1:=by omega
 have PV:(i:Int)<=(l.length:Int):=by omega
 have Hx1:PJ _:=SM;have ac7:PJ _:=hlen;have HRL:PJ _:=hRl;have HB:PJ _:=hB;have HC:PJ _:=hC;have HGM:PJ _:=hGm;clear Y4 Y5 UH W9 XO SM hlen hA hB hC hRl hRt hG hGm;go_enter func199,ntmps199;go_wp2_with (first
  |(at_builtin;refine Lib.wpList_append_run _ rfl _ _ _ _ rfl _ _ rfl rfl _ _ (hrz _) ?_)
  |(at_builtin;refine wpList_copy_runI _ rfl _ _ 126 126 rfl _ _ rfl rfl (H1 _ _) ?_))
 go_region_law_o (refine step_copy_runI rfl _ _ 126 126 rfl _ _ (by simp[Act.eval,Act.put]) (by simp[Act.eval,Act.put]) (H2 _ _ _) ?_);go_wp2;go_ret;refine⟨G,rfl,⟨?_,MF ⟨w.heap.size,G,_,rfl,hN,setRow_heap _ w.heap.size _ _ 204 _ hW2,hGn,HGM.out,?_,?_⟩⟩,?_⟩
 ·rw[MM,MM,MY,NM,ac7.out,Hx1.out];omega
 ·rw[Oi,HB.out,HRL.out]
 ·exact HC.out
 ·refine⟨rfl,rfl,rfl,by simp,fun k hk=>?_⟩;rw[setRow_other _ w.heap.size k _ (by omega)];show ((w.alloc (.cells Sz.toArray 204)).drew.setRow w.heap.size c1.toArray).heap[k]? = _;rw[setRow_other _ w.heap.size k _ (by omega)];exact Below.heap_alloc w _ _ hk
end
section
open Go.RowKit Go.Lib
theorem EB (h:f a=OM v):bL f a v=f:=by
 funext i
 unfold bL;by_cases e:i=a
 ·rw[if_pos e,e,h]
 ·rw[if_neg e]
section
variable {w w' : PG} {N lb vb eb top : Nat} {L : List Nat} {st : LSt} {f : Int → Option PH}
theorem cD.upd (V:cD w N lb vb eb top L st f){a:Nat}(ha:a∈L){v v':PH}{l':List LE}(hv:f (a:Int)=OM v)(K:ai (fun k=>k=eb\/v.ownBlock=OM k) w w')(em:aZ prog 3 w' eb (bL f (a:Int) v') L.length)(row:w'.ownsRow N 204 4 v' l'.length (bB l'))(hb:∀g,v'.ownBlock=OM g->v.ownBlock=OM g\/w.heap.size<=g) :
  cD w' N lb vb eb top L ⟨st.lev,fJ st.es a l'⟩ (bL f (a:Int) v')/\∀g,LvB lb vb eb (bL f (a:Int) v') g->LvB lb vb eb f g\/w.heap.size<=g:=by
 have n1:¬(lb=eb\/v.ownBlock=OM lb):=fun h=>h.elim V.nes.2 (V.off _ _ hv);have n2:¬(vb=eb\/v.ownBlock=OM vb):=fun h=>h.elim V.ne (fun h=>by
  obtain⟨v2,e1,e2⟩:=V.row a ha;rw[hv]at e1;cases e1;exact bJ e2 V.lv vb h rfl)
 have Rh:∀{i:Int},i≠(a:Int)->bL f (a:Int) v' i=f i:=fun h=>cT _ _ h;have PO:∀{i u g},f i=OM u->u.ownBlock=OM g->g<w.heap.size:=fun {i u g} hi hg=>by
  obtain⟨i1,i2⟩:=V.no i u hi;obtain⟨v2,e1,e2⟩:=V.row i.toNat i2;rw[Nl i1,hi]at e1;cases e1;exact(e2.lt g hg).2
 refine⟨⟨K.cellOf V.c0 n1,K.cellOf V.c1 n1,K.cellOf V.c2 n1,(K.frozen (p:=⟨lb,0,Pk⟩) V.lts.1 n1).trans V.fz,V.lv.keep K n2,em,fun n hn=>?_,fun i u hi=>?_,fun n m u u' g h1 h2 h3 h4=>?_,fun n u h1 h2=>?_,V.nb,V.ne,V.bd,V.len⟩,fun g hg=>?_⟩
 ·by_cases e:n=a
  ·subst e;refine⟨v',ck _ _ _,?_⟩;show w'.ownsRow N 204 4 v' (fJ st.es n l' n).length (bB (fJ st.es n l' n));rw[pX];exact row
  ·obtain⟨u,e1,e2⟩:=V.row n hn;have PW:(n:Int)≠(a:Int):=(by omega);refine⟨u,(Rh PW).trans e1,?_⟩;show w'.ownsRow N 204 4 u (fJ st.es a l' n).length (bB (fJ st.es a l' n));rw[ji _ e];exact bq e2 K (fun g hg h=>h.elim (bJ e2 V.em g hg) (fun h=>PW (V.apart _ _ _ _ g e1 hv hg h)))
 ·by_cases e:i=(a:Int)
  ·subst e;exact⟨by omega,by simpa using ha⟩
  ·rw[Rh e]at hi;exact V.no i u hi
 ·by_cases e1:n=(a:Int)
  ·by_cases e2:m=(a:Int)
   ·rw[e1,e2]
   ·subst e1;rw[ck]at h1;cases h1;rw[Rh e2]at h2;rcases hb g h3 with h|h
    ·exact V.apart _ _ _ _ g hv h2 h h4
    ·have:=PO h2 h4;omega
  ·rw[Rh e1]at h1;by_cases e2:m=(a:Int)
   ·subst e2;rw[ck]at h2;cases h2;rcases hb g h4 with h|h
    ·exact V.apart _ _ _ _ g h1 hv h3 h
    ·have:=PO h1 h3;omega
   ·rw[Rh e2]at h2;exact V.apart _ _ _ _ g h1 h2 h3 h4
 ·by_cases e:n=(a:Int)
  ·subst e;rw[ck]at h1;cases h1;rcases hb lb h2 with h|h
   ·exact V.off _ _ hv h
   ·have:=V.lts.1;omega
  ·rw[Rh e]at h1;exact V.off _ _ h1 h2
 ·rcases hg with h|h|h|⟨i,u,h1,h2⟩
  ·exact MG (MG h)
  ·exact MG (MF (MG h))
  ·exact MG (MF (MF (MG h)))
  ·by_cases e:i=(a:Int)
   ·subst e;rw[ck]at h1;cases h1;rcases hb g h2 with h|h
    ·exact MG (MF (MF (MF ⟨_,v,hv,h⟩)))
    ·exact MF h
   ·rw[Rh e]at h1;exact MG (MF (MF (MF ⟨i,u,h1,h2⟩)))
end
theorem Io {n p:Nat}{a b c d:PH}(h:w.ownsRow N 204 4 (.slice (OM ⟨g,0,Pk⟩) n cap) n xs) :
  ((((w.setCell ⟨g,p*4,Pk⟩ a).setCell ⟨g,p*4+1,Pk⟩ b).setCell ⟨g,p*4+2,Pk⟩ c).setCell ⟨g,p*4+3,Pk⟩ d).ownsRow N 204 4 (.slice (OM ⟨g,0,Pk⟩) n cap) n ((((xs.set (p*4) a).set (p*4+1) b).set (p*4+2) c).set (p*4+3) d) :=
 ((((h.stored _ a).1.stored _ b).1.stored _ c).1.stored _ d).1
theorem Cs:∀(l:List LE) (p:Nat) (x:LE),p<l.length->((((bB l).set (p*4) (PE PF (x.to:Int))).set (p*4+1) (PE PF x.s)).set (p*4+2) (PE PF x.d)).set (p*4+3) (PE PF x.mid)=bB (l.take p++x::l.drop (p+1))
 |[],_,_,h=>by simp at h
 |y::l,0,x,_=>by
  rw[dw];show _=bB (x::l);rw[dw];rfl
 |y::l,p+1,x,h=>by
  have ih:=Cs l p x (by simpa using h);show _=bB (y::(l.take p++x::l.drop (p+1)));rw[dw y (l.take p++x::l.drop (p+1)),<- ih,dw y l];have key:∀(q:Nat) (zs:List PH) (u:PH),(leV y++zs).set ((p+1)*4+q) u=leV y++zs.set (p*4+q) u:=fun q zs u=>by
   rw[List.set_append_right _ _ (by show (leV y).length<=_;show 4<=_;omega)]
   congr 2
   show (p+1)*4+q-4=_;omega
  have k0:=key 0;rw[Nat.add_zero,Nat.add_zero]at k0;rw[k0,key 1,key 2,key 3];rfl
theorem AO {l:List LE}{e:LE}(w:PG)(hown:w.ownsRow N 204 4 v l.length (bB l))(hl:l.length<=256)(hi:i<=l.length)(hN:N<=w.heap.size)(hxv:v.ownBlock≠OM xb)(UT:w.heap[xb]? = OM (.cells (leV e).toArray 204 (0,0))) :
  PK prog 199 #[v,PE PF (i:Int),.slice (OM ⟨xb,0,Pk⟩) 1 1] w fun r w'=>∃v',r=PM v'/\w'.ownsRow N 204 4 v' (l.length+1) (bB (l.take i++e::l.drop i))/\w.grownBy w' v.ownBlock/\∀g,v'.ownBlock=OM g->v.ownBlock=OM g\/w.heap.size<=g:=by
 rw[Il];by_cases he:i=l.length
 ·subst he;refine(AN w hown hl hN UT).mono ?_;rintro r w' ⟨v',rfl,h1,h2,h3⟩;refine⟨v',rfl,?_,h2,fun g hg=>?_⟩
  ·rw[NV (by rw[rU];omega),List.drop_of_length_le (by rw[rU];omega),Nt];exact h1
  ·rcases h3 with h|h
   ·exact MG (by rw[<- h];exact hg)
   ·rw[h]at hg;cases hg;exact MF aj
 ·rcases hown.2 with⟨_,h0⟩|⟨g,cap,cur,rfl,_⟩
  ·omega
  ·by_cases Uw:l.length+1<=cap
   ·refine(va w hown hl (by omega) Uw (fun h=>hxv (by rw[h];rfl)) UT).mono ?_;rintro r w' ⟨rfl,h1,h2⟩;exact⟨_,rfl,h1,h2,fun g hg=>MG hg⟩
   ·refine(yx w hown hl (by omega) (by omega) hN UT).mono ?_;rintro r w' ⟨G,rfl,h1,h2⟩;exact⟨_,rfl,h1,⟨h2.os,h2.tape,h2.output,h2.size,fun k hk _=>h2.block k hk⟩,fun g hg=>by
     cases hg;exact MF aj⟩
theorem yy {N a:Nat}{st:LSt}(w:PG)(V:cD w N lb vb eb top L st f)(ha:a∈L)(hR:Rsg (st.es a))(hl:(st.es a).length<=256)(x:LE) :
  PK prog 164 #[.pointer (OM ⟨lb,0,Pk⟩),PE PF (a:Int),.agg #[PE PF (x.to:Int),PE PF x.s,PE PF x.d,PE PF x.mid]] w fun r w'=>r=PM (.tuple #[])/\(∃f',cD w' N lb vb eb top L ⟨st.lev,fJ st.es a (cV x (st.es a))⟩ f'/\∀g,LvB lb vb eb f' g->LvB lb vb eb f g\/w.heap.size<=g)/\ai (LvB lb vb eb f) w w':=by
 have haL:=V.bd a ha;have VO:=aC (a:=(a:Int)) (by omega) (by omega);have U9:N<=w.heap.size:=by have:=V.nb.1;have:=V.lts.1;omega
 obtain⟨v,hfv,hown⟩:=V.row a ha;obtain⟨A,cap,rfl,row,hA⟩:=dY hown;have b0:=aQ w (PN #[PE PF (x.to:Int),PE PF x.s,PE PF x.d,PE PF x.mid] 204);have V0:=V.below b0;have c2:=V0.c2;have RM:(Instr.lookup 123 (.map (OM eb)) (PE PF (a:Int)) PB).run prog (w.alloc (PN #[PE PF (x.to:Int),PE PF x.s,PE PF x.d,PE PF x.mid] 204))=.ok (.slice A (st.es a).length cap) (w.alloc (PN #[PE PF (x.to:Int),PE PF x.s,PE PF x.d,PE PF x.mid] 204)):=V0.em.look_some aY Tryz.underM (j6 _) VO hfv PB;have Ry:=tY (cap:=cap) (t:=x.to) (w.alloc (PN #[PE PF (x.to:Int),PE PF x.s,PE PF x.d,PE PF x.mid] 204)) (row.below b0) hl hR;have y0:(w.alloc (PN #[PE PF (x.to:Int),PE PF x.s,PE PF x.d,PE PF x.mid] 204)).cell? ⟨w.heap.size,0,Pk⟩=OM (PE PF (x.to:Int)):=ME _ _ _ 0 rfl;have y1:(w.alloc (PN #[PE PF (x.to:Int),PE PF x.s,PE PF x.d,PE PF x.mid] 204)).cell? ⟨w.heap.size,1,Pk⟩=OM (PE PF x.s):=ME _ _ _ 1 rfl;have y2:(w.alloc (PN #[PE PF (x.to:Int),PE PF x.s,PE PF x.d,PE PF x.mid] 204)).cell? ⟨w.heap.size,2,Pk⟩=OM (PE PF x.d):=ME _ _ _ 2 rfl;have y3:(w.alloc (PN #[PE PF (x.to:Int),PE PF x.s,PE PF x.d,PE PF x.mid] 204)).cell? ⟨w.heap.size,3,Pk⟩=OM (PE PF x.mid):=ME _ _ _ 3 rfl;have Xq:=Cr x hR;have ac4:=Cq (st.es a) x.to;have ak9:jE (st.es a) x.to=Pm->eH (st.es a) x.to<(st.es a).length:=fun h=>by
  unfold jE at h;cases he:(st.es a)[eH (st.es a) x.to]? with
  |none=>rw[he]at h;cases h
  |some e=>exact(Np.1 he).1
 have YD:=aq hown b0;generalize jE (st.es a) x.to=hs at *;generalize eH (st.es a) x.to=ps at *;have HLY:=ae Xq;have Zm:PJ (leV x=[PE PF (x.to:Int),PE PF x.s,PE PF x.d,PE PF x.mid]):=rfl;have Y6:=Cs (st.es a) ps x;rw[show (x.to:Int)=(x.to:Int) from rfl]at Y6;have Y6:=ae Y6;clear Xq hown;generalize hxt:(x.to:Int)=xt at *;generalize YA:x.s=xs at *;generalize hxd:x.d=xd at *;generalize Wc:x.mid=xm at *;clear hxt YA hxd Wc;generalize Wp:(st.es a).length=len at *;have Rg:=ae Wp;clear Wp;go_enter func164,ntmps164;go_wp2_with fail;generalize hw0:w.alloc (PN #[PE PF xt,PE PF xs,PE PF xd,PE PF xm] 204)=w0 at *;refine Ry.mono ?_;rintro r w1 ⟨rfl,hb1⟩;have b1:=ak b0 hb1;have Qg:=aq YD hb1;have V1:=V0.below hb1;have z0:=ar hb1 y0;have z1:=ar hb1 y1;have z2:=ar hb1 y2;have z3:=ar hb1 y3;have c21:=V1.c2;have hX1:w.heap.size<w1.heap.size:=aJ z0;clear Ry hb1 YD V0 y0 y1 y2 y3 b0 c2 RM;cases hs with
 |true =>
  have PO:=ak9 rfl;obtain⟨g,rfl,hgN,hgw⟩:∃g,A=OM ⟨g,0,Pk⟩/\N<=g/\g<w.heap.size:=by
   rcases hA with⟨_,h⟩|⟨g,h1,_,h2,h3⟩
   ·have:=Rg.out;rw[h]at this;simp at this;omega
   ·exact⟨g,h1,h2,h3⟩
  have UA:(ps:Int)<(len:Int):=by omega
  have q:∀j,j<4->∃u,w1.cell? ⟨g,ps*4+j,Pk⟩=OM u:=fun j hj=>by
   have h1:=Qg.cellAt (ps*4+j) (by omega);have h2:ps*4+j<(bB (st.es a)).length:=(by rw[rU,Rg.out];omega);rw[MJ h2]at h1;exact⟨_,h1⟩
  obtain⟨u0,q0⟩:=q 0 (by omega);obtain⟨u1,q1⟩:=q 1 (by omega);obtain⟨u2,q2⟩:=q 2 (by omega);obtain⟨u3,q3⟩:=q 3 (by omega);rw[Nat.add_zero]at q0;have f0:=Qg.frozenAt (ps*4);have f1:=Qg.frozenAt (ps*4+1);have f2:=Qg.frozenAt (ps*4+2);have f3:=Qg.frozenAt (ps*4+3);clear q;go_wp2;have K4:ai (fun k=>k=eb\/(Ny (OM ⟨g,0,Pk⟩) len cap).ownBlock=OM k) w1 ((((w1.setCell ⟨g,ps*4,Pk⟩ (PE PF xt)).setCell ⟨g,ps*4+1,Pk⟩ (PE PF xs)).setCell ⟨g,ps*4+2,Pk⟩ (PE PF xd)).setCell ⟨g,ps*4+3,Pk⟩ (PE PF xm)) :=
   ((((ai.refl (fun k=>k=eb\/(Ny (OM ⟨g,0,Pk⟩) len cap).ownBlock=OM k) w1).setCell (p:=⟨g,ps*4,Pk⟩) (fun _=>MF rfl) _).setCell (p:=⟨g,ps*4+1,Pk⟩) (fun _=>MF rfl) _).setCell (p:=⟨g,ps*4+2,Pk⟩) (fun _=>MF rfl) _).setCell (p:=⟨g,ps*4+3,Pk⟩) (fun _=>MF rfl) _
  have K5:ai (fun k=>k=g) w1 ((((w1.setCell ⟨g,ps*4,Pk⟩ (PE PF xt)).setCell ⟨g,ps*4+1,Pk⟩ (PE PF xs)).setCell ⟨g,ps*4+2,Pk⟩ (PE PF xd)).setCell ⟨g,ps*4+3,Pk⟩ (PE PF xm)) :=
   ((((ai.refl (fun k=>k=g) w1).setCell (p:=⟨g,ps*4,Pk⟩) (fun _=>rfl) _).setCell (p:=⟨g,ps*4+1,Pk⟩) (fun _=>rfl) _).setCell (p:=⟨g,ps*4+2,Pk⟩) (fun _=>rfl) _).setCell (p:=⟨g,ps*4+3,Pk⟩) (fun _=>rfl) _
  have O4:=Io (p:=ps) (a:=PE PF xt) (b:=PE PF xs) (c:=PE PF xd) (d:=PE PF xm) Qg;rw[Y6.out PO]at O4;have e1:cV x (st.es a)=(st.es a).take ps++x::(st.es a).drop (ps+1):=HLY.out;have e2:((st.es a).take ps++x::(st.es a).drop (ps+1)).length=len:=by
   have:=Rg.out;rw[MM,Nf,MY,NM];omega
  have SN:=V1.upd (l':=(st.es a).take ps++x::(st.es a).drop (ps+1)) ha hfv K4 (by rw[EB hfv];exact V1.em.keep K5 (fun e=>bJ Qg V1.em g rfl e.symm)) (by rw[e2];exact O4) (fun g hg=>MG hg);refine bodyPost_ret (v:=.tuple #[]) (by simp[results,results164,go_sem]) rfl ⟨rfl,⟨_,by rw[e1];exact SN.1,fun g' hg'=>?_⟩,?_⟩
  ·rcases SN.2 g' hg' with h|h
   ·exact MG h
   ·exact MF (by omega)
  ·refine(ai.of_below b1).trans K4 (fun k _ h=>?_);rcases h with h|h
   ·exact MF (MF (MG h))
   ·exact MF (MF (MF ⟨_,_,hfv,h⟩))
 |false =>
  have e1:cV x (st.es a)=(st.es a).take ps++x::(st.es a).drop ps:=HLY.out;have e2:((st.es a).take ps++x::(st.es a).drop ps).length=len+1:=by
   have:=Rg.out;rw[MM,Nf,MY,NM];omega
  have HE1:PJ _:=e1;have HE2:PJ _:=e2;have bD:=cI w1;have bI:PI w1.heap.size w1 (w1.drew.alloc (PN #[PE PF xt,PE PF xs,PE PF xd,PE PF xm] 204)):=bD.alloc bD.size _;have ala:=aq Qg bI;have hxI:(w1.drew.alloc (PN #[PE PF xt,PE PF xs,PE PF xd,PE PF xm] 204)).heap[w1.heap.size]? = OM (.cells (leV x).toArray 204 (0,0)):=by
   rw[Zm.out];exact heap_alloc_new w1.drew _
  have hvb:∀q,(Ny A len cap).ownBlock=OM q->q<w.heap.size:=fun q hq=>by
   rcases hA with⟨h,_⟩|⟨g,h1,_,_,h3⟩
   ·rw[h]at hq;cases hq
   ·rw[h1]at hq;cases hq;exact h3
  have agr:=AO (N:=N) (xb:=w1.heap.size) (i:=ps) (v:=.slice A len cap) (l:=st.es a) (e:=x) (w1.drew.alloc (PN #[PE PF xt,PE PF xs,PE PF xd,PE PF xm] 204)) (by rw[Rg.out];exact ala) (by rw[Rg.out];exact hl) (by rw[Rg.out];exact ac4) (by have:=bI.size;omega) (fun h=>by have:=hvb _ h;omega) hxI;have r0:=bH z0;have r1:=bH z1;have r2:=bH z2;have r3:=bH z3;have r4:=bH c21;have i0:=Lib.cell?_alloc_some (PN #[PE PF xt,PE PF xs,PE PF xd,PE PF xm] 204) r0;have i1:=Lib.cell?_alloc_some (PN #[PE PF xt,PE PF xs,PE PF xd,PE PF xm] 204) r1;have i2:=Lib.cell?_alloc_some (PN #[PE PF xt,PE PF xs,PE PF xd,PE PF xm] 204) r2;have i3:=Lib.cell?_alloc_some (PN #[PE PF xt,PE PF xs,PE PF xd,PE PF xm] 204) r3;have i4:=Lib.cell?_alloc_some (PN #[PE PF xt,PE PF xs,PE PF xd,PE PF xm] 204) r4;have VI:=V1.below bI;have aax:¬(Ny A len cap).ownBlock=OM w.heap.size:=fun h=>by have:=hvb _ h;omega
  have aaq:¬(Ny A len cap).ownBlock=OM lb:=V1.off _ _ hfv;have ags:¬(Ny A len cap).ownBlock=OM eb:=fun h=>bJ Qg V1.em eb h rfl;have hXe:w.heap.size≠eb:=by have:=V.lts.2.2;omega
  have hLe:=V1.nes.2;clear hA e1 e2 Y6 z0 z1 z2 z3 c21 hxI;go_wp2_with fail;go_region_held3 (fun w'=>w'.cell? ⟨w.heap.size,0,Pk⟩=OM (PE PF xt)/\w'.cell? ⟨w.heap.size,1,Pk⟩=OM (PE PF xs)/\w'.cell? ⟨w.heap.size,2,Pk⟩=OM (PE PF xd)/\w'.cell? ⟨w.heap.size,3,Pk⟩=OM (PE PF xm)/\w'.cell? ⟨lb,2,Pk⟩=OM (.map (OM eb))) (first|(exact⟨r0,r1,r2,r3,r4⟩)|(exact⟨i0,i1,i2,i3,i4⟩)|(exact⟨j0,j1,j2,j3,j4⟩)|(exact⟨k0,k1,k2,k3,k4⟩))
   (first|(go_at_call 199;refine agr.mono ?_;rintro r w3 ⟨v',rfl,QT,Sf,agt⟩;have K3:ai (fun k=>(Ny A len cap).ownBlock=OM k) _ w3:=(ai.refl _ _).grown Sf (fun k hk _=>hk);have j0:=K3.cellOf i0 aax;have j1:=K3.cellOf i1 aax;have j2:=K3.cellOf i2 aax;have j3:=K3.cellOf i3 aax;have j4:=K3.cellOf i4 aaq;obtain⟨w4,agu,Vs,Uu⟩:=(VI.em.keep K3 ags).store aY Tryz.underM (by have:=V1.len;unfold maxLen;omega) VO v';have k0:=(aA Uu).cellOf j0 hXe;have k1:=(aA Uu).cellOf j1 hXe;have k2:=(aA Uu).cellOf j2 hXe;have k3:=(aA Uu).cellOf j3 hXe;have k4:=(aA Uu).cellOf j4 hLe))
  have M3:=VI.em.keep K3 ags;have K4:ai (fun k=>k=eb\/(Ny A len cap).ownBlock=OM k) w1 w4:=((ai.of_below bI).trans K3 (fun _ _ h=>MF h)).trans (aA Uu) (fun _ _ h=>MG h);have R4:w4.ownsRow N 204 4 v' ((st.es a).take ps++x::(st.es a).drop ps).length (bB ((st.es a).take ps++x::(st.es a).drop ps)):=by
   rw[HE2.out,<- Rg.out];exact bq QT (aA Uu) (bJ QT M3)
  have E4:aZ prog 3 w4 eb (bL f (a:Int) v') L.length:=by
   rw[hfv]at Vs;exact Vs
  have HUP:PJ _:=V1.upd ha hfv K4 E4 R4 (fun g hg=>by
   rcases agt g hg with h|h
   ·exact MG h
   ·exact MF (by simp at h;omega))
  have HK:PJ (ai (LvB lb vb eb f) w w4):=(ai.of_below b1).trans K4 (fun k _ h=>by
   rcases h with h|h
   ·exact MF (MF (MG h))
   ·exact MF (MF (MF ⟨_,_,hfv,h⟩)))
  clear agr QT Sf agt K3 M3 Vs Uu agu K4 R4 E4;go_end0;refine⟨rfl,⟨_,by rw[HE1.out];exact HUP.out.1,fun g' hg'=>?_⟩,HK.out⟩;rcases HUP.out.2 g' hg' with h|h
  ·exact MG h
  ·exact MF (by omega)
end
section
open Go.RowKit Go.Maps Go.Sort Go.Shelf
def fx (L:List Nat) (st:LSt):List Nat:=L.filter (fun n=>st.lev n==0)
theorem EC {base:Nat}(w:PG)(h:w.ownsRow base 3 1 v L.length (aH L))(hl:l.length=L.length)(hs:(cO L).mergeSort (fun x y=>decide (x<=y))=cO l)(hlen:L.length<=256) :
  PK prog 142 #[v] w fun e w'=>e=PM (.tuple #[])/\w'.ownsRow base 3 1 v l.length (aH l)/\w.grownBy w' v.ownBlock:=by
 by_cases PW:L=[]
 ·subst PW;have e:l=[]:=NK.1 hl;subst e;obtain⟨A,cap,rfl⟩:∃A cap,v=.slice A 0 cap:=by
   rcases h.2 with⟨rfl,_⟩|⟨g,cap,cur,rfl,_⟩
   ·exact⟨_,_,rfl⟩
   ·exact⟨_,_,rfl⟩
  refine(AnyM.slices_Sort_int_none Tryz.sortA A cap w).mono ?_;rintro e w' ⟨rfl,rfl⟩;exact⟨rfl,h,⟨rfl,rfl,rfl,aj,fun _ _ _=>rfl⟩⟩
 ·exact xU w h PW hl hs hlen
theorem pd {st:LSt}(w:PG)(V:cD w N lb vb eb top L st f)(hr:L.Pairwise (·<·)) :
  PK prog 122 #[.pointer (OM ⟨lb,0,Pk⟩)] w fun e w'=>∃v,e=PM v/\w'.ownsRow w.heap.size 3 1 v (fx L st).length (aH (fx L st))/\PI w.heap.size w w':=by
 obtain⟨i0,hi,P0,P3,Qd⟩:=info_parts Tryz.info3;have c1:=V.c1;have HOR:PJ ((fx L st).Pairwise (·<·)):=hr.filter _;have ZP:PJ (∀n,n∈fx L st↔n∈L/\st.lev n=0):=fun n=>by
  unfold fx;rw[Ns];simp
 have HLV:PJ (∀(x:Int) (v:PH),lvF L st.lev x=OM v->∃n:Nat,x=(n:Int)/\n∈L/\v=PE PF (st.lev n:Int)):=fun x v h=>by
  unfold lvF at h;by_cases hx:0<=x/\x.toNat∈L
  ·rw[if_pos hx]at h;exact⟨x.toNat,by omega,hx.2,(Option.some.inj h).symm⟩
  ·rw[if_neg hx]at h;cases h
 have HIS:PJ (∀n:Nat,(lvF L st.lev (n:Int)).isSome=Pm↔n∈L):=fun n=>by
  unfold lvF;by_cases hx:(0:Int)<=(n:Int)/\(n:Int).toNat∈L
  ·rw[if_pos hx];exact⟨fun _=>by simpa using hx.2,fun _=>rfl⟩
  ·rw[if_neg hx];exact⟨fun h=>(by cases h),fun h=>absurd ⟨by omega,by simpa using h⟩ hx⟩
 have hlen:=V.len;have hvl:=V.lts.2.1;have lvm:=V.lv;have Q8:PJ (∀n∈L,n<256):=V.bd;clear V hr;go_enter func122,ntmps122;go_wp2_with (first|(at_range;refine cw rfl _ 129 rfl 3 3 aY Tryz.underV vb _ _ rfl lvm ?_;intro w3 QP Sf hs3)|go_in);have B3:PI w.heap.size w w3:=al.grown Sf aj (by simp);have hvr:vb≠w.heap.size:=by omega
 clear Sf lvm;go_frame;go_loopg [3] L.length (fun gj ov wq=>∃(left:Int->Bool) (cnt:Nat) (L':List Nat),gj=cnt/\fQ prog 3 wq vb w.heap.size (lvF L st.lev) L.length left cnt/\wq.ownsRow w.heap.size 3 1 ov L'.length (aH L')/\PJ L'.Nodup/\PJ (∀n:Nat,n∈L'↔(n∈L/\left n=PB)/\st.lev n=0)/\PI w.heap.size w wq/\w.heap.size<wq.heap.size)
 case atStart =>
  refine⟨_,_,[],rfl,QP,Nj _ _ _ _,List.nodup_nil,fun n=>⟨fun h=>(by cases h),?_⟩,B3,by omega⟩;rintro⟨⟨h1,h2⟩,_⟩;have:=(HIS.out n).2 h1;rw[h2]at this;cases this
 case round =>
  clear QP B3;obtain⟨left,cnt,L',hgj,QN,hown,Ud,WN,QA,hrq⟩:=hrel;have Xf:=QA.size;have af0:L'.length<=256:=cQ 256 Ud.out (fun n hn=>Q8.out n ((WN.out n).1 hn).1.1);go_wp2_with (first|(at_next;refine cM rfl _ rfl 3 aY vb w.heap.size _ _ _ _ rfl QN ?_ ?_)|go_in)
  ·intro Ue Rf;obtain⟨l,l1,l2,l3,l4⟩:=Al L' Ud.out;have el:l=fx L st:=pY l1 HOR.out (fun n=>by
    rw[l2 n,WN.out n,ZP.out n];exact⟨fun h=>⟨h.1.1,h.2⟩,fun h=>⟨⟨h.1,Rf n⟩,h.2⟩⟩)
   have hso:=EC wr hown l3 l4 af0;rw[el]at hso;have PX:=fun q hq=>(hown.lt q hq).1;clear QN hown Ud WN l1 l2 l3 l4 el Rf;go_wp2_with fail;refine hso.mono ?_;rintro e w5 ⟨rfl,Qm,RU⟩;have B5:PI w.heap.size w w5:=QA.grown RU Xf PX;clear hso RU PX QA;go_wp2;go_ret;exact⟨_,rfl,Qm,B5⟩
  ·intro x v w4 Qf Tf Se SD QE PO QI Rx TM;obtain⟨n,Zr,Qw,rfl⟩:=HLV.out x v SD;subst Zr;have Rw:=gX hown QI (lN hown QN);have B4:PI w.heap.size w w4:=QA.grown QI Xf (fun k e=>by cases e;omega);have hr4:w.heap.size<w4.heap.size:=(by omega);clear Rx;by_cases h0:st.lev n=0
   ·have h0':((st.lev n:Nat):Int)=0:=(by omega);clear QN QA hown QI;have Tp:=B4.size;go_wp2_with (at_builtin;refine wpList_append_own _ rfl _ _ 51 rfl w.heap.size 3 i0 (PE PF 0) 1 8 underlying51 hi P0 P3 Qd rfl (by decide) _ _ _ rfl (Rw.alloc _) ⟨w4.heap.size,0,Pk⟩ 1 1 [PE PF (n:Int)] rfl rfl ?c1 ?c2 ?c3 ?c4 ?c5 ?_)
    case c1 =>
     intro j u hj
     match j,hj with
     |0,hj =>
      simp at hj;subst hj;simp only[Addr.add];exact ME (w:=w4) #[PE PF (n:Int)] 3 w4.heap.size 0 rfl
    case c2=>intro u hu;simp at hu;subst hu;rfl
    case c3=>unfold maxLen;omega
    case c4=>omega
    case c5=>simp;omega
    intro v' w6 PS PR _;have PX:=fun q hq=>(Rw.lt q hq).1;have B6:PI w.heap.size w w6:=(B4.alloc Tp _).grown PR (by simp;omega) PX;have O6:w6.ownsRow w.heap.size 3 1 v' (L'++[n]).length (aH (L'++[n])):=by
     simpa [aH]using PS
    have K6:ai (fun k=>u3.ownBlock=OM k) w4 w6:=((ai.refl _ _).alloc _).grown PR (fun k hk _=>hk);have acT:=QE.keep K6 (fun h=>bJ Rw QE.map _ h rfl) (fun h=>lN Rw QE _ h rfl);have hr6:w.heap.size<w6.heap.size:=MN hr4 K6.size;have HN:PJ (L'++[n]).Nodup:=by
     have U1:n∉L':=fun hm=>by
      have:=((WN.out n).1 hm).1.2;rw[Se]at this;cases this
     unfold PJ Pu;rw[List.pairwise_append];exact⟨Ud.out,List.pairwise_singleton _ _,fun p hp q hq e=>by
      rw[MU]at hq;rw[e,hq]at hp;exact U1 hp⟩
    have Ul:PJ (∀m:Nat,m∈L'++[n]↔(m∈L/\(left m&&!decide ((m:Int)=(n:Int)))=PB)/\st.lev m=0):=fun m=>by
     rw[MT,MU,WN.out m];by_cases e:m=n
     ·subst e;simp[Qw,h0]
     ·have e':¬(m:Int)=(n:Int):=(by omega);simp[e,e']
    clear PS PR Rw B4 K6 QE Ud WN;go_wp2;go_roundg Qf
    case measure=>omega
    case rel=>exact⟨_,Qf,L'++[n],rfl,acT,O6,HN.out,Ul.out,B6,hr6⟩
   ·have h0':¬((st.lev n:Nat):Int)=0:=(by omega);have Ul:PJ (∀m:Nat,m∈L'↔(m∈L/\(left m&&!decide ((m:Int)=(n:Int)))=PB)/\st.lev m=0):=fun m=>by
     rw[WN.out m];by_cases e:m=n
     ·subst e;simp[h0]
     ·have e':¬(m:Int)=(n:Int):=(by omega);simp[e']
    clear QN QA hown QI WN;go_wp2;go_roundg Qf
    case measure=>omega
    case rel=>exact⟨_,Qf,L',rfl,QE,Rw,Ud.out,Ul.out,B4,hr4⟩
end
section
open Go.RowKit Go.Maps Go.ChangeMaps Go.MapKept
theorem EE (w:PG)(b:Nat)(o:Obj)(k:Nat)(h:k≠b):(setBlock w b o).heap[k]? = w.heap[k]? := by
 unfold setBlock;show (w.heap.setIfInBounds b o)[k]? = _;rw[Array.getElem?_setIfInBounds_ne (by omega)]
theorem yz (w:PG)(b:Nat)(o:Obj):ai (fun k=>k=b) w (setBlock w b o) :=
 ⟨rfl,rfl,rfl,by unfold setBlock;simp,fun k _ h=>EE w b o k h⟩
theorem aZ.entry {P:Program}{k e t:TypeId}{n:Nat}(h:aZ P k w b f n)(hk:P.underlying k=OM (.int .i64))(ht:P.underlying t=OM (.map k e)){z:PH}(hz:(zeroValue e).run P w=.ok z w)(hn:n<maxLen){a:Int}(ha:(Lit.int .i64 a).wf=Pm)(hf:(f a).isSome=Pm)(val:PH) :
  ∃(v0:PH) (st:Nat) (w1 w2:PG),(Instr.mapEntry t (.map (OM b)) (PE PF a)).run P w=.ok (.tuple #[v0,goInt st]) w1/\ai (fun k=>k=b) w w1/\(Instr.entryStore t (.map (OM b)) (goInt st) val).run P w1=.ok () w2/\aZ P k w2 b (bL f a val) n/\ai (fun k=>k=b) w w2:=by
 obtain⟨w',Qs,hm,_⟩:=h.store hk ht hn ha val;rw[hf]at hm;have K:=int_keyed hk;have Uc:=mC hk ha;obtain⟨D,⟨es,clock,hb,F,h5,h6⟩,h7,h8⟩:=h;have Qz:b<w.heap.size:=(Na.1 hb).1;obtain⟨s1,s2,_⟩:=F.stamped;rcases K.find w Uc es.toList F.keys with⟨h1,h2⟩|⟨j,e0,h1,h2,h3⟩
 ·exfalso;obtain⟨v,hv⟩:=Option.isSome_iff_exists.1 hf;have hl:=aZ.look_some ⟨D,⟨es,clock,hb,F,h5,h6⟩,h7,h8⟩ hk ht hz ha hv Pm;simp[Instr.lookup,run_underlying ht,MapKept.run_getObj_map hb,K.check w es.isEmpty Uc,h1,hz,Result.andThen]at hl
 ·have hj:es[j]? = OM e0:=by simpa using h2
  have alb:es.findIdx? (fun e=>((e.born:Nat):Int)==((e0.born:Nat):Int))=OM j:=by
   rw[WideElems.findIdx_arr];exact WideElems.findIdx_born s2 h2
  have agv:es.modify j (fun e=>{ e with key:=PE PF a })=es:=by
   apply Array.ext';rw[Array.toList_modify,modify_eq_set _ _ _ _ h2];have:({ e0 with key:=PE PF a }:MapEntry)=e0:=(by rw[<- h3]);rw[this];exact WideElems.set_self _ _ _ h2
  have alc:es.modify j (fun e=>{ e with val:=val })=es.modify j (fun e'=>{ e' with key:=PE PF a,val:=val }):=by
   apply Array.ext';rw[Array.toList_modify,Array.toList_modify,modify_eq_set _ _ _ _ h2,modify_eq_set _ _ _ _ h2,<- h3]
  have hu:(Instr.mapUpdate t (.map (OM b)) (PE PF a) val).run P w=.ok () (setBlock w b (.map (es.modify j (fun e'=>{ e' with key:=PE PF a,val:=val })) clock)):=by
   simp[Instr.mapUpdate,run_underlying ht,MapKept.run_getObj_map hb,K.check w PB Uc,h1,hj,h3,K.stays w Uc,MapKept.run_setObj_map _ hb,Result.andThen,setBlock]
  rw[Qs]at hu;cases hu;have hb1:(setBlock w b (.map es clock)).heap[b]? = OM (.map es clock):=by
   unfold setBlock;show (w.heap.setIfInBounds b _)[b]? = _;simp[Qz]
  have hrE:(Instr.mapEntry t (.map (OM b)) (PE PF a)).run P w=.ok (.tuple #[e0.val,goInt e0.born]) (setBlock w b (.map es clock)):=by
   simp[Instr.mapEntry,run_underlying ht,MapKept.run_getObj_map hb,K.check w PB Uc,h1,hj,h3,K.stays w Uc,agv,MapKept.run_setObj_map _ hb,Result.andThen,setBlock]
  have K1:=yz w b (.map es clock);generalize setBlock w b (.map es clock)=W1 at *;refine⟨e0.val,e0.born,W1,setBlock W1 b (.map (es.modify j (fun e'=>{ e' with key:=PE PF a,val:=val })) clock),hrE,K1,?_,hm.kept ?_,K1.trans (yz _ _ _) (fun _ _ h=>h)⟩
  ·simp[Instr.entryStore,MapKept.run_getObj_map hb1,asInt,asIntOf,goInt,alb,alc,MapKept.run_setObj_map _ hb1,Result.andThen,setBlock]
  ·unfold setBlock;show (W1.heap.setIfInBounds b _)[b]? = (w.heap.setIfInBounds b _)[b]?;simp[Qz,(Na.1 hb1).1]
end
section
open Go.RowKit Go.Maps
theorem Rnd.filter (ht:0<t){q:Nat->Bool}:∀{L:List Nat}{st PQ:LSt}{nr Qx:Nat->Bool}{g:Bool},(∀n∈L,q n=PB->0<st.lev n)->Rnd t (L.filter q) st nr PQ Qx g->Rnd t L st nr PQ Qx g
 |[],_,_,_,_,_,_,h=>h
 |n::L,st,PQ,nr,Qx,g,hq,h=>by
  cases hn:q n with
  |true =>
   rw[Pb hn]at h;obtain⟨TH,Wf,g1,g2,h1,h2,h3⟩:=h;refine⟨TH,Wf,g1,g2,h1,Rnd.filter ht (fun m hm hqm=>?_) h2,h3⟩;have:=hq m (MV _ hm) hqm;rcases h1.lev m with e|⟨_,e⟩
   ·rw[e];exact this
   ·rw[e];exact ht
  |false =>
   rw[O9 (by rw[hn];exact Bool.false_ne_true)]at h;have h0:=hq n (M4 ..) hn;exact⟨st,nr,PB,g,MG ⟨MG h0,rfl,rfl,rfl⟩,Rnd.filter ht (fun m hm hqm=>hq m (MV _ hm) hqm) h,(OS g).symm⟩
theorem Rnd.lev :∀{L:List Nat}{st PQ:LSt}{nr Qx:Nat->Bool}{g:Bool},Rnd t L st nr PQ Qx g->∀{n:Nat},n∉L->PQ.lev n=st.lev n
 |[],_,_,_,_,_,⟨h,_⟩,_,_=>by rw[h]
 |m::L,_,_,_,_,_,⟨_,_,_,_,h1,h2,_⟩,n,hn=>by
  rw[Rnd.lev h2 (fun h=>hn (MV _ h))];rcases h1.lev n with e|⟨e,_⟩
  ·exact e
  ·exact absurd (by rw[e];exact M4 ..) hn
def nS (nr:Nat->Bool):Int->Bool:=fun i=>decide (0<=i)&&nr i.toNat
theorem J6 (nr:Nat->Bool)(n:Nat):nS nr (n:Int)=nr n:=by
 unfold nS;rw[decide_eq_true (by omega),ML,Bool.true_and]
theorem Ll (nr:Nat->Bool)(t:Nat):dK (nS nr) (t:Int)=nS (fun k=>nr k || t==k):=by
 funext i
 unfold dK nS;by_cases e:i=(t:Int)
 ·subst e;rw[decide_eq_true rfl,decide_eq_true (by omega),ML];simp
 ·rw[decide_eq_false e,OS];by_cases h0:0<=i
  ·rw[decide_eq_true h0];have:(t==i.toNat)=false:=by
    simp;omega
   show (Pm&&nr i.toNat)=(Pm&&(nr i.toNat || t==i.toNat));rw[this,OT]
  ·rw[decide_eq_false h0];rfl
theorem Mn:nS (fun _=>PB)=fun _=>false:=by
 funext i
 unfold nS;simp
def iR (L:List Nat) (es:Nat->List LE):Prop:=∀a,Rsg (es a)/\∀e∈es a,e.to∈L
theorem iR.put {es:Nat->List LE}(h:iR L es){a:Nat}{x:LE}(hx:x.to∈L):iR L (fJ es a (cV x (es a))):=fun k=>by
 by_cases e:k=a
 ·subst e;rw[pX];refine⟨nO (h k).1,fun y hy=>?_⟩;rcases (kE (h k).1 y).1 hy with rfl|⟨h1,_⟩
  ·exact hx
  ·exact(h k).2 y h1
 ·rw[ji _ e];exact h k
theorem iR.len {es:Nat->List LE}(h:iR L es)(hb:∀n∈L,n<256)(a:Nat):(es a).length<=256:=by
 have h1:((es a).map (·.to)).Nodup:=by
  unfold Pu;rw[N7];exact(h a).1.imp (fun h=>NO h)
 have:=cQ 256 h1 (fun n hn=>by
  obtain⟨e,he,rfl⟩:=NH.1 hn;exact hb _ ((h a).2 e he))
 simpa using this
theorem pJ {es:Nat->List LE}{l:List (Nat×LE)}{x:Nat×LE}(h:l[j]? = OM x):cf es (l.take (j+1))=lay2 (cf es (l.take j)) x:=by
 unfold cf;rw[Nb,h,List.foldl_append];rfl
theorem mM {p:LE->LE->Bool}{n:Nat}:∀{l:List LE}{x:Nat×LE},x∈cq p n l->(∃a∈l,x.1=a.to)/\(∃b∈l,x.2.to=b.to)/\x.2.mid=(n:Int)
 |[],_,h=>by cases h
 |a::l,x,h=>by
  rcases MT.1 h with h|h
  ·obtain⟨b,hb,rfl⟩:=NH.1 h;exact⟨⟨a,M4 ..,rfl⟩,⟨b,MV _ (Ns.1 hb).1,rfl⟩,rfl⟩
  ·obtain⟨⟨a',h1,h2⟩,⟨b',h3,h4⟩,h5⟩:=mM h;exact⟨⟨a',MV _ h1,h2⟩,⟨b',MV _ h3,h4⟩,h5⟩
theorem Ct:∀(l:List (Nat×LE)) (i:Nat) (x:Nat×LE),l[i]? = OM x->(fV l)[i*4]? = OM (PE PF (x.1:Int))/\(fV l)[i*4+1]? = OM (PE PF (x.2.to:Int))/\(fV l)[i*4+2]? = OM (PE PF x.2.s)/\(fV l)[i*4+3]? = OM (PE PF x.2.d)
 |[],i,e,h=>by simp at h
 |x::l,0,e,h=>by
  simp at h;subst h;exact⟨rfl,rfl,rfl,rfl⟩
 |x::l,i+1,e,h=>by
  have ih:=Ct l i e (by simpa using h);have hl:(lkV x).length=4:=rfl;have key:∀k,(fV (x::l))[(i+1)*4+k]? = (fV l)[i*4+k]? := fun k=>by
   show (lkV x++fV l)[(i+1)*4+k]? = _;rw[Ni (by rw[hl];omega),hl]
   congr 1;omega
  exact⟨(key 0).trans ih.1,(key 1).trans ih.2.1,(key 2).trans ih.2.2.1,(key 3).trans ih.2.2.2⟩
section
variable {w w' : PG} {N lb vb eb top : Nat} {L : List Nat} {st : LSt} {f : Int → Option PH}
theorem cD.blt (V:cD w N lb vb eb top L st f){g:Nat}(h:LvB lb vb eb f g):g<w.heap.size:=by
 rcases h with rfl|rfl|rfl|⟨i,v,h1,h2⟩
 ·exact V.lts.1
 ·exact V.lts.2.1
 ·exact V.lts.2.2
 ·obtain⟨i1,i2⟩:=V.no i v h1;obtain⟨v2,e1,e2⟩:=V.row i.toNat i2;rw[Nl i1,h1]at e1;cases e1;exact(e2.lt g h2).2
theorem cD.level (V:cD w N lb vb eb top L st f){n t:Nat}(hn:n∈L)(K:ai (fun k=>k=vb) w w')(hm:aZ prog 3 w' vb (bL (lvF L st.lev) (n:Int) (PE PF (t:Int))) L.length):cD w' N lb vb eb top L ⟨fun k=>if k=n then t else st.lev k,st.es⟩ f:=by
 rw[JJ hn]at hm;have n1:=V.nes.1;refine⟨K.cellOf V.c0 n1,K.cellOf V.c1 n1,K.cellOf V.c2 n1,(K.frozen (p:=⟨lb,0,Pk⟩) V.lts.1 n1).trans V.fz,hm,V.em.keep K (fun e=>V.ne e.symm),fun m hm=>?_,V.no,V.apart,V.off,V.nb,V.ne,V.bd,V.len⟩;obtain⟨v,e1,e2⟩:=V.row m hm;exact⟨v,e1,bq e2 K (bJ e2 V.lv)⟩
end
theorem Tryz.underN:Tryz.prog.underlying 163=OM (.map 3 217):=by kernel_rfl
theorem J7 (w:PG):(zeroValue 217).run prog w=.ok (.agg #[]) w:=by kernel_rfl
theorem yA (w:PG)(n:Int):PK prog 163 #[.pointer (OM ⟨lb,0,Pk⟩),PE PF n,.slice Pk 0 0] w fun e w'=>e=PM (.slice Pk 0 0)/\w'=w:=by
 go_enter func163,ntmps163;go_wp2;go_loopw [7,19] (fun rv iv wr=>rv=.slice Pk 0 0/\iv=PE PF 0/\wr=w) (fun _ _ _=>0)
 case atStart=>exact⟨rfl,rfl,rfl⟩
 case round =>
  obtain⟨rfl,rfl,rfl⟩:=hrel;go_wp2;go_ret;exact⟨rfl,rfl⟩
theorem AQ {n:Nat}{st:LSt}{l:List LE}{p:LE->LE->Bool}{base:Nat}(w:PG)(V:cD w N lb vb eb top L st f)(O:Okl L 512 st)(hown:w.ownsRow base 204 4 (.slice A l.length cap) l.length (bB l))(hl:l.length<=256)(PY:∀e∈l,e∈st.es n)(hp:∀a b,p a b=Pm↔uQ st n a b) :
  PK prog 163 #[.pointer (OM ⟨lb,0,Pk⟩),PE PF (n:Int),.slice A l.length cap] w fun e w'=>∃v,e=PM v/\w'.ownsRow w.heap.size 248 4 v (cq p n l).length (fV (cq p n l))/\PI w.heap.size w w':=by
 obtain⟨A',cap',hv,row,h⟩:=dY hown;cases hv;rcases h with⟨rfl,rfl⟩|⟨g,rfl,_⟩
 ·rcases hown.2 with⟨h,_⟩|⟨g,c,cur,h,_⟩
  ·cases h;refine(yA w (n:Int)).mono ?_;rintro e w' ⟨rfl,rfl⟩;exact⟨_,rfl,Nj _ _ _ _,al⟩
  ·cases h
 ·rcases hown.2 with⟨h,_⟩|⟨g',c,cur,h,_,_,h1,h2,_⟩
  ·cases h
  ·cases h;exact AI w V O row hl h1 h2 PY hp
end
section
open Go.RowKit Go.Maps
structure RSt (w wr:PG) (N lb vb eb t:Nat) (L M:List Nat) (vM:PH) (f f':Int->Option PH) (PQ:LSt) (nr:Nat->Bool):Prop where
 lv:cD wr N lb vb eb t L PQ f'
 bx:wr.cell? ⟨w.heap.size,0,Pk⟩=OM (.pointer (OM ⟨lb,0,Pk⟩))
 sk:aX wr (w.heap.size+1) (nS nr)
 rw:wr.ownsRow (w.heap.size+2) 3 1 vM M.length (aH M)
 off:∀g,LvB lb vb eb f' g->g≠w.heap.size/\g≠w.heap.size+1/\vM.ownBlock≠OM g
 new:∀g,LvB lb vb eb f' g->LvB lb vb eb f g\/w.heap.size<=g
 kp:ai (LvB lb vb eb f) w wr
section
variable {w wr wq : PG} {N lb vb eb t : Nat} {L M : List Nat} {vM : PH} {f f' : Int → Option PH} {PQ st2 : LSt} {nr : Nat → Bool}
theorem RSt.below (R:RSt w wr N lb vb eb t L M vM f f' PQ nr)(hb:PI wr.heap.size wr wq):RSt w wq N lb vb eb t L M vM f f' PQ nr :=
 ⟨R.lv.below hb,(hb.cell (aJ R.bx)).trans R.bx,R.sk.below hb,aq R.rw hb,R.off,R.new,R.kp.below hb⟩
theorem RSt.turn (R:RSt w wr N lb vb eb t L M vM f f' PQ nr){f2:Int->Option PH}(V:cD wq N lb vb eb t L st2 f2)(K:ai (LvB lb vb eb f') wr wq)(hn:∀g,LvB lb vb eb f2 g->LvB lb vb eb f' g\/wr.heap.size<=g):RSt w wq N lb vb eb t L M vM f f2 st2 nr:=by
 have hx:w.heap.size<wr.heap.size:=aJ R.bx;have hy:=R.sk.lt;refine⟨V,K.cellOf R.bx (fun h=>(R.off _ h).1 rfl),R.sk.kept (K.block _ hy (fun h=>(R.off _ h).2.1 rfl)),bq R.rw K (fun g hg h=>(R.off g h).2.2 hg),fun g hg=>?_,fun g hg=>?_,R.kp.trans K (fun i hi h=>(R.new i h).elim id (fun h=>by omega))⟩
 ·rcases hn g hg with h|h
  ·exact R.off g h
  ·refine⟨by omega,by omega,fun h2=>?_⟩;have:=(R.rw.lt g h2).2;omega
 ·rcases hn g hg with h|h
  ·exact R.new g h
  ·exact MF (by omega)
theorem RSt.skip (R:RSt w wr N lb vb eb t L M vM f f' PQ nr){Qx:Nat->Bool}(K:ai (fun k=>k=w.heap.size+1) wr wq)(hs:aX wq (w.heap.size+1) (nS Qx)):RSt w wq N lb vb eb t L M vM f f' PQ Qx:=by
 refine⟨R.lv.keep K (fun g hg=>(R.off g hg).2.1),K.cellOf R.bx (by show ¬w.heap.size=_;omega),hs,bq R.rw K (bJ R.rw R.sk.mp),R.off,R.new,R.kp.trans K (fun i hi e=>by omega)⟩
end
theorem EF {st:LSt}{K:Int}(w:PG)(V:cD w N lb vb eb t L st f)(hr:L.Pairwise (·<·))(hA:All L t K st (fun _=>PB))(Z7:0<=K)(hK:K<=256)(ht:0<t) :
  PK prog 121 #[.pointer (OM ⟨lb,0,Pk⟩)] w fun e w'=>∃PQ Qx got f',e=PM (.bool got)/\Rnd t L st (fun _=>PB) PQ Qx got/\cD w' N lb vb eb t L PQ f'/\(∀g,LvB lb vb eb f' g->LvB lb vb eb f g\/w.heap.size<=g)/\ai (LvB lb vb eb f) w w':=by
 have Tl:=@run_makeMap prog;obtain⟨W0,Ru⟩:∃W0,W0=(w.alloc (PN #[.pointer (OM ⟨lb,0,Pk⟩)] 89)).alloc (.map #[] 0):=⟨_,rfl⟩;have BW:PI w.heap.size w W0:=by
  rw[Ru];exact(al.alloc aj _).alloc (by simp) _
 have P0:W0.heap.size=w.heap.size+2:=by rw[Ru];simp
 have k0:W0.cell? ⟨w.heap.size,0,Pk⟩=OM (.pointer (OM ⟨lb,0,Pk⟩)):=by
  rw[Ru];exact Lib.cell?_alloc_some _ (ME _ _ _ 0 rfl)
 have k1:aX W0 (w.heap.size+1) (nS fun _=>PB):=by
  have q:=aX.made (w.alloc (PN #[.pointer (OM ⟨lb,0,Pk⟩)] 89));have e:(w.alloc (PN #[.pointer (OM ⟨lb,0,Pk⟩)] 89)).heap.size=w.heap.size+1:=by simp
  rw[e]at q;rw[Ru,Mn];exact q
 have V0:=V.below BW;have U2:=pd W0 V0 hr;have HM:PJ (fx L st=L.filter (fun n=>st.lev n==0)):=rfl;have HMR:PJ ((fx L st).Pairwise (·<·)):=hr.filter _;have Ul:PJ (∀n,n∈fx L st↔n∈L/\st.lev n=0):=fun n=>by
  unfold fx;rw[Ns];simp
 have hlen:=V.len;have Q8:PJ (∀n∈L,n<256):=V.bd;have agw:=fun g (h:LvB lb vb eb f g)=>V.blt h;have ale:PJ _:=agw;clear agw;have hML:(fx L st).length<=256:=M5 (Nk _ _) hlen;go_enter func121,ntmps121;go_wp2_with fail;rw[<- Ru];refine U2.mono ?_;rintro e w1 ⟨vM,rfl,QM,hb1⟩;rw[P0]at QM;generalize hMM:fx L st=M at *;clear hMM;have RS:RSt w w1 N lb vb eb t L M vM f f st (fun _=>PB):=by
  refine⟨V0.below hb1,ar hb1 k0,k1.below hb1,QM,fun g hg=>?_,fun g hg=>MG hg,(ai.of_below BW).below hb1⟩;have h1:=ale.out g hg;refine⟨by omega,by omega,fun h=>?_⟩;have:=(QM.lt g h).1;omega
 obtain⟨AM,TE,rfl,_⟩:=iw QM;clear U2 hb1 k0 k1 V0 BW Ru QM P0;go_wp2;go_loopw [4,19] (fun gv iv wr=>∃(k:Nat) (PQ:LSt) (nr:Nat->Bool) (f':Int->Option PH) (got:Bool),k<=M.length/\iv=PE PF k/\gv=.bool got/\RSt w wr N lb vb eb t L M (.slice AM M.length TE) f f' PQ nr/\PJ (Rnd t (M.take k) st (fun _=>PB) PQ nr got)/\PJ (All L t K PQ nr)/\PJ (∀n,nr n=Pm->n∈L))
  (fun _ i _=>M.length-(intOf i).toNat)
 case atStart=>exact⟨0,st,fun _=>PB,f,PB,MQ _,rfl,rfl,RS,⟨rfl,rfl,rfl⟩,hA,fun n h=>(by cases h)⟩
 case round =>
  clear RS;obtain⟨k,PQ,nr,f',got,hk,rfl,rfl,RS,HR,HA,Wv⟩:=hrel;by_cases PO:k<M.length
  ·obtain⟨g0,Ux⟩:∃g0,AM=OM ⟨g0,0,Pk⟩:=by
    rcases RS.rw.2 with⟨_,h0⟩|⟨g0,_,_,hv,_⟩
    ·omega
    ·exact⟨g0,by cases hv;rfl⟩
   subst Ux;have PU:=iO RS.rw k PO;obtain⟨n,hn⟩:∃n,M[k]? = OM n:=⟨M[k],MJ PO⟩;have TB:M.getD k 0=n:=by
    rw[MS,hn];rfl
   rw[TB]at PU;clear TB;have hnM:=MZ hn;obtain⟨Qw,Vu⟩:=(Ul.out n).1 hnM;have Uh:=Q8.out n Qw;have SZ:=aC (a:=(n:Int)) (by omega) (by omega);have Sj:PJ (M.take (k+1)=M.take k++[n]):=by
    rw[Nb,hn];rfl
   have HL0:PJ (PQ.lev n=0):=by
    refine(HR.out.lev (fun hm=>?_)).trans Vu;obtain⟨i,hi,h⟩:=Nv hm;have hik:i<k:=(by rw[MY]at hi;omega);have h2:M[i]? = OM n:=by
     rw[OV]at h;rw[MJ (by omega),h]
    have h3:=NT.1 HMR.out i k (by omega) PO hik;rw[MJ PO]at hn;rw[MJ (by omega)]at h2;have e1:=Option.some.inj hn;have e2:=Option.some.inj h2;omega
   have i1:(0:Int)<=(k:Int):=(by omega);have i2:(k:Int)<(M.length:Int):=(by omega);have b2:=aQ wr (PN #[] 217);have RS2:=RS.below b2;have Qd:wr.heap.size<=(wr.alloc (PN #[] 217)).heap.size:=b2.size;clear hn hnM Vu b2;cases Sn:nr n with
   |true =>
    have RM:(Instr.lookup 163 (.map (OM (w.heap.size+1))) (PE PF (n:Int)) Pm).run prog wr=.ok (.tuple #[.agg #[],.bool Pm]) wr:=RS.sk.mp.look_some aY Tryz.underN (J7 _) SZ (jl (by rw[J6];exact Sn)) Pm;have VB:PJ (Rnd t (M.take (k+1)) st (fun _=>PB) PQ nr got):=by
     rw[Sj.out];have h1:=HR.out.snoc (n:=n) (st2:=PQ) (nr2:=nr) (g2:=PB) (MG ⟨MF Sn,rfl,rfl,rfl⟩);rw[OT]at h1;exact h1
    clear HR HL0 Sj Sn RS;go_wp2;go_roundw
    case rel=>exact⟨k+1,PQ,nr,f',got,by omega,by go_num,rfl,RS2,VB.out,HA.out,Wv.out⟩
    case measure=>simp[intOf];omega
   |false =>
    have RM:(Instr.lookup 163 (.map (OM (w.heap.size+1))) (PE PF (n:Int)) Pm).run prog wr=.ok (.tuple #[.agg #[],.bool PB]) wr:=RS.sk.mp.look_none aY Tryz.underN (J7 _) SZ (jo (by rw[J6];exact Sn)) Pm;have O:Okl L 512 PQ:=⟨HA.out.lin.esy,HA.out.cor,fun he=>by
     obtain⟨p1,p2⟩:=HA.out.bdd.pos he;obtain⟨p3,p4⟩:=HA.out.bdd.new he;exact⟨p1,p2,by omega,by omega⟩⟩
    obtain⟨p,hp⟩:∃p:LE->LE->Bool,∀a b,p a b=Pm↔uQ PQ n a b:=⟨fun a b=>@decide (uQ PQ n a b) (Classical.propDecidable _),fun a b=>@decide_eq_true_iff _ (Classical.propDecidable _)⟩;have HP:=ae hp;have V2:=RS2.lv;obtain⟨A,cap,Ut,UM,_⟩:=V2.edges Qw;have c2:=V2.c2;have bx2:=RS2.bx;have Qv:=Ev (xb:=w.heap.size) (cap:=cap) (p:=fun e=>PQ.lev e.to==0) (wr.alloc (PN #[] 217)) UM (O.len Q8.out n) (fun w' e Su he=>Ig w' (V2.below Su) ((Su.cell (aJ bx2)).trans bx2) e (O.cor.ends he).2);have agy:¬(0<PQ.lev n\/nr n=Pm):=fun h=>by
     rcases h with h|h
     ·rw[HL0.out]at h;exact NJ _ h
     ·rw[Sn]at h;cases h
    have UO:PJ _:=agy;have HFE:PJ (feF PQ n=(PQ.es n).filter (fun e=>PQ.lev e.to==0)):=rfl;have Sk:PJ (∀e∈(PQ.es n).filter (fun e=>PQ.lev e.to==0),e∈PQ.es n):=fun e he=>(Ns.1 he).1;have RY:((PQ.es n).filter (fun e=>PQ.lev e.to==0)).length<=256:=M5 (Nk _ _) (O.len Q8.out n);clear Sn hp agy V2 UM;generalize (PQ.es n).filter (fun e=>PQ.lev e.to==0)=l at *;go_wp2_with fail;refine Qv.mono ?_;rintro e w3 ⟨v3,rfl,QQ,hb3⟩;obtain⟨A3,RD,rfl,QX,hA3⟩:=dY QQ;have RS3:=RS2.below hb3;have bx3:=RS3.bx;have aby:=AQ w3 RS3.lv O QQ RY Sk.out HP.out;clear Qv RS2 Ut c2 bx2 RM RS hA3;go_wp2_with fail;refine aby.mono ?_;rintro e w4 ⟨v4,rfl,QG,QB⟩;obtain⟨A4,QY,hv4⟩:∃A4 QY,v4=.slice A4 (cq p n l).length QY:=by
     rcases QG.2 with⟨h,h0⟩|⟨g,c,cur,h,_⟩
     ·exact⟨Pk,0,by rw[h,h0]⟩
     ·exact⟨_,_,h⟩
    subst hv4;have RS4:=RS3.below QB;have Sq:=QX.below QB;have WS:=aq QQ QB;have HE:PJ (∀x∈cq p n l,(∃a∈l,x.1=a.to)/\(∃b∈l,x.2.to=b.to)/\x.2.mid=(n:Int)):=fun x hx=>mM hx;have HQ:PJ (cq p n l=cq p n (feF PQ n)):=(by unfold PJ;rw[HFE.out]);have hQl:(cq p n l).length<=256*256:=by
     rw[<- ot];exact M5 (ou p n l l.length) (Ov RY RY)
    have h34:w3.heap.size<=w4.heap.size:=QB.size;have agA:=fun q (hq:(Ny A4 (cq p n l).length QY).ownBlock=OM q)=>QG.lt q hq;have Zb:PJ (∀g,LvB lb vb eb f' g->g<w3.heap.size):=fun g hg=>RS3.lv.blt hg;clear aby RS3 QQ QX bx3 QB;generalize cq p n l=Q at *;by_cases Vx:l.length<Q.length
    ·have acf:(l.length:Int)<(Q.length:Int):=(by omega);have VB:PJ (Rnd t (M.take (k+1)) st (fun _=>PB) PQ nr got):=by
      rw[Sj.out];have h1:=HR.out.snoc (n:=n) (st2:=PQ) (nr2:=nr) (g2:=PB) (MF ⟨UO.out,p,HP.out,MG ⟨by rw[<- HQ.out,HFE.out];exact Vx,rfl,rfl,rfl⟩⟩);rw[OT]at h1;exact h1
     clear HR HL0 Sj UO HP HE HQ HFE Sk QG WS Sq;go_wp2;go_roundw
     case rel=>exact⟨k+1,PQ,nr,f',got,by omega,by go_num,rfl,RS4,VB.out,HA.out,Wv.out⟩
     case measure=>simp[intOf];omega
    ·have acf:¬(l.length:Int)<(Q.length:Int):=(by omega);have bD:=cI w4;have UP:=RS4.below bD;have RQ:(lvF L PQ.lev (n:Int)).isSome=true:=(by rw[rV Qw];rfl);obtain⟨v0,stp,W5,W6,hrE,KE,hrS,hmS,KS⟩:=UP.lv.lv.entry aY Tryz.underV (kP _) (by have:=UP.lv.len;unfold maxLen;omega) SZ RQ (PE PF (t:Int));have alh:(Instr.entryStore 129 (.map (OM vb)) (PE PF (stp:Int)) (PE PF (t:Int))).run prog W5=.ok () W6:=hrS;clear hrS;have r0:=UP.bx;have r1:=UP.lv.c0;have r2:=UP.lv.c1;have hXv:w.heap.size≠vb:=fun h=>(UP.off vb (MF (MG rfl))).1 h.symm;have Zz:=UP.lv.nes.1;have s0:=KE.cellOf r0 hXv;have s1:=KE.cellOf r1 Zz;have s2:=KE.cellOf r2 Zz;have u0:=KS.cellOf r0 hXv;have u1:=KS.cellOf r1 Zz;have u2:=KS.cellOf r2 Zz;go_wp2_with fail;go_region_held3 (fun w'=>w'.cell? ⟨w.heap.size,0,Pk⟩=OM (.pointer (OM ⟨lb,0,Pk⟩))/\w'.cell? ⟨lb,0,Pk⟩=OM (PE PF (t:Int))/\w'.cell? ⟨lb,1,Pk⟩=OM (.map (OM vb))) (first|(exact⟨r0,r1,r2⟩)|(exact⟨s0,s1,s2⟩)|(exact⟨u0,u1,u2⟩)) (first|(fail));have V6:=UP.lv.level Qw KS hmS;have Zp:=UP.turn V6 (KS.mono (fun _ _ h=>MF (MG h))) (fun g hg=>MG hg);have Qh:W6.ownsRow 0 204 4 (.slice A3 l.length RD) l.length (bB l):=bq (bT (aq WS bD) (MQ _)) KS (bJ (aq WS bD) UP.lv.lv);have Rp:W6.ownsRow w3.heap.size 248 4 (.slice A4 Q.length QY) Q.length (fV Q):=bq (aq QG bD) KS (bJ (aq QG bD) UP.lv.lv);have HO4:PJ (∀g,LvB lb vb eb f' g->(Ny A4 Q.length QY).ownBlock≠OM g):=fun g hg h=>by
      have h1:=Zb.out g hg;have h2:=(agA g h).1;omega
     have HLO:PJ (iR L PQ.es):=fun a=>⟨HA.out.lin.esy.ord a,fun e he=>(HA.out.cor.ends he).2⟩;have HTO:PJ (∀e∈l,e.to∈L):=fun e he=>(HA.out.cor.ends (Sk.out e he)).2;clear UP RS4 bD hrE KE alh hmS KS r0 r1 r2 s0 s1 s2 u0 u1 u2 QG WS Sq V6 RQ;go_wp2;go_loopw [60] (fun iv wr=>∃j:Nat,j<=l.length/\iv=PE PF j/\RSt w wr N lb vb eb t L M (.slice (OM ⟨g0,0,Pk⟩) M.length TE) f f' ⟨fun k=>if k=n then t else PQ.lev k,PQ.es⟩ (fun k=>nr k || (l.take j).any (fun e=>e.to==k))/\wr.ownsRow 0 204 4 (.slice A3 l.length RD) l.length (bB l)/\wr.ownsRow w3.heap.size 248 4 (.slice A4 Q.length QY) Q.length (fV Q))
      (fun i _=>l.length-(intOf i).toNat)
     case atStart =>
      refine⟨0,MQ _,rfl,?_,Qh,Rp⟩;have e:(fun k=>nr k || (l.take 0).any (fun e=>e.to==k))=nr:=by
       funext k
       simp
      rw[e];exact Zp
     case round =>
      clear Zp Qh Rp;obtain⟨j,hj,rfl,Zp,Qh,Rp⟩:=hrel;by_cases QZ:j<l.length
      ·obtain⟨e,he⟩:∃e,l[j]? = OM e:=⟨l[j],MJ QZ⟩;obtain⟨A',c',hv',SP,_⟩:=dY Qh;cases hv';obtain⟨b,o,rfl,q1,q2,q3,q4⟩:=SP j e he;have Xm:=HTO.out e (MZ he);have heb:=Q8.out _ Xm;have hwe:=aC (a:=(e.to:Int)) (by omega) (by omega);have j1:(0:Int)<=(j:Int):=(by omega);have j2:(j:Int)<(l.length:Int):=(by omega);have b7:=aQ wr (PN #[PE PF (e.to:Int),PE PF e.s,PE PF e.d,PE PF e.mid] 204);have Us:=Zp.below b7;have adb:=aq Qh b7;have ade:=aq Rp b7;obtain⟨w8,Sa,ZA,ZB⟩:=Us.sk.mp.store aY Tryz.underN Us.sk.room hwe (.agg #[]);have sk8:=Us.sk.put (by omega) (by omega) ZA;rw[Ll]at sk8;have VE:=Us.skip (aA ZB) sk8;have Vq:=bq adb (aA ZB) (bJ adb Us.sk.mp);have Y7:=bq ade (aA ZB) (bJ ade Us.sk.mp);have HNR:PJ ((fun k=>(nr k || (l.take j).any (fun e=>e.to==k)) || e.to==k)=fun k=>nr k || (l.take (j+1)).any (fun e=>e.to==k)):=by
        unfold PJ
        funext k
        rw[Nb,he,List.any_append,Bool.or_assoc];simp
       clear Zp Us Qh adb Rp ade ZA ZB sk8 b7 SP he;generalize (e.to:Int)=et at *;generalize e.s=es at *;generalize e.d=ed at *;generalize e.mid=em at *;go_wp2;go_roundw
       case rel=>exact⟨j+1,by omega,by go_num,by rw[<- HNR.out];exact VE,Vq,Y7⟩
       case measure=>simp[intOf];omega
      ·have e:j=l.length:=(by omega);subst e;have Us:RSt w wr N lb vb eb t L M (.slice (OM ⟨g0,0,Pk⟩) M.length TE) f f' ⟨fun k=>if k=n then t else PQ.lev k,PQ.es⟩ (fun k=>nr k || l.any (fun e=>e.to==k)):=by
        have:=Zp;rw[M9]at this;exact this
       clear Zp Qh;go_wp2;go_loopw [71] (fun iv wr=>∃(j:Nat) (f2:Int->Option PH),j<=Q.length/\iv=PE PF j/\RSt w wr N lb vb eb t L M (.slice (OM ⟨g0,0,Pk⟩) M.length TE) f f2 ⟨fun k=>if k=n then t else PQ.lev k,cf PQ.es (Q.take j)⟩ (fun k=>nr k || l.any (fun e=>e.to==k))/\wr.ownsRow w3.heap.size 248 4 (.slice A4 Q.length QY) Q.length (fV Q)/\PJ (∀g,LvB lb vb eb f2 g->(Ny A4 Q.length QY).ownBlock≠OM g)/\PJ (iR L (cf PQ.es (Q.take j))))
        (fun i _=>Q.length-(intOf i).toNat)
       case atStart=>exact⟨0,f',MQ _,rfl,Us,Rp,HO4,HLO⟩
       case round =>
        clear Us Rp HO4;obtain⟨j,f2,hj,rfl,Us,Rp,HO4,HLJ⟩:=hrel;by_cases YC:j<Q.length
        ·obtain⟨x,hx⟩:∃x,Q[j]? = OM x:=⟨Q[j],MJ YC⟩;obtain⟨⟨a,haL,SM⟩,⟨b,hbL,hx2⟩,Wc⟩:=HE.out x (MZ hx);have h1L:x.1∈L:=(by rw[SM];exact HTO.out a haL);have h2L:x.2.to∈L:=(by rw[hx2];exact HTO.out b hbL);obtain⟨g4,rfl⟩:∃g4,A4=OM ⟨g4,0,Pk⟩:=by
          rcases Rp.2 with⟨_,h0⟩|⟨g4,_,_,hv,_⟩
          ·omega
          ·exact⟨g4,by cases hv;rfl⟩
         obtain⟨e0,e1,e2,e3⟩:=Ct Q j x hx;have q0:=(Rp.cellAt _ (by omega)).trans e0;have q1:=(Rp.cellAt _ (by omega)).trans e1;have q2:=(Rp.cellAt _ (by omega)).trans e2;have q3:=(Rp.cellAt _ (by omega)).trans e3;have j1:(0:Int)<=(j:Int):=(by omega);have j2:(j:Int)<(Q.length:Int):=(by omega);have QV:PJ (cf PQ.es (Q.take (j+1))=lay2 (cf PQ.es (Q.take j)) x):=pJ hx;have b7:=aQ wr (PN #[PE PF (x.1:Int),PE PF (x.2.to:Int),PE PF x.2.s,PE PF x.2.d] 248);have VE:=Us.below b7;have Y7:=aq Rp b7;have y0:(wr.alloc (PN #[PE PF (x.1:Int),PE PF (x.2.to:Int),PE PF x.2.s,PE PF x.2.d] 248)).cell? ⟨wr.heap.size,0,Pk⟩=OM (PE PF (x.1:Int)):=ME _ _ _ 0 rfl;have y1:(wr.alloc (PN #[PE PF (x.1:Int),PE PF (x.2.to:Int),PE PF x.2.s,PE PF x.2.d] 248)).cell? ⟨wr.heap.size,1,Pk⟩=OM (PE PF (x.2.to:Int)):=ME _ _ _ 1 rfl;have y2:(wr.alloc (PN #[PE PF (x.1:Int),PE PF (x.2.to:Int),PE PF x.2.s,PE PF x.2.d] 248)).cell? ⟨wr.heap.size,2,Pk⟩=OM (PE PF x.2.s):=ME _ _ _ 2 rfl;have y3:(wr.alloc (PN #[PE PF (x.1:Int),PE PF (x.2.to:Int),PE PF x.2.s,PE PF x.2.d] 248)).cell? ⟨wr.heap.size,3,Pk⟩=OM (PE PF x.2.d):=ME _ _ _ 3 rfl;have Y8:=yy (wr.alloc (PN #[PE PF (x.1:Int),PE PF (x.2.to:Int),PE PF x.2.s,PE PF x.2.d] 248)) VE.lv h1L (HLJ.out x.1).1 (HLJ.out.len Q8.out x.1) x.2;rw[Wc]at Y8;have bx8:=VE.bx;have hB7:∀g,LvB lb vb eb f2 g->g<wr.heap.size:=fun g hg=>Us.lv.blt hg;have WL:PJ _:=hB7;have hE7:wr.heap.size<(wr.alloc (PN #[PE PF (x.1:Int),PE PF (x.2.to:Int),PE PF x.2.s,PE PF x.2.d] 248)).heap.size:=(by simp);have HX:PJ (x=(x.1,⟨x.2.to,x.2.s,x.2.d,(n:Int)⟩)):=by
          unfold PJ;rw[<- Wc]
         have HXM:=ae Wc;clear hB7 e0 e1 e2 e3 b7 hx SM hx2 haL hbL Wc Us Rp;generalize Zs:(x.1:Int)=xa at *;generalize UT:(x.2.to:Int)=xb at *;generalize YA:x.2.s=xs at *;generalize hxd:x.2.d=xd at *;have HXA:=ae Zs;have HXB:=ae UT;have HXS:=ae YA;have HXD:=ae hxd;clear Zs UT YA hxd;go_wp2_with fail;generalize wr.alloc (PN #[PE PF xa,PE PF xb,PE PF xs,PE PF xd] 248)=w8 at *;refine Y8.mono ?_;rintro r w9 ⟨rfl,⟨f9,V9,hn9⟩,K9⟩;have nE:¬LvB lb vb eb f2 wr.heap.size:=fun h=>NJ _ (WL.out _ h);have RS9:=VE.turn V9 K9 hn9;have z0:=K9.cellOf y0 nE;have z1:=K9.cellOf y1 nE;have z2:=K9.cellOf y2 nE;have z3:=K9.cellOf y3 nE;have adf:=bq Y7 K9 (fun g hg h=>HO4.out g h hg);have HO9:PJ (∀g,LvB lb vb eb f9 g->(Ny (OM ⟨g4,0,Pk⟩) Q.length QY).ownBlock≠OM g):=fun g hg h=>by
          rcases hn9 g hg with h1|h1
          ·exact HO4.out g h1 h
          ·have:=(Y7.lt g h).2;omega
         have nE9:¬LvB lb vb eb f9 wr.heap.size:=fun h=>by
          rcases hn9 _ h with h1|h1
          ·exact nE h1
          ·omega
         have Zo:PJ (iR L (fJ (cf PQ.es (Q.take j)) x.1 (cV x.2 (cf PQ.es (Q.take j) x.1)))):=HLJ.out.put h2L;have WT:=yy w9 RS9.lv h2L (Zo.out x.2.to).1 (Zo.out.len Q8.out x.2.to) ⟨x.1,xs,xd,(n:Int)⟩;rw[HXB.out]at WT;simp only[HXA.out]at WT;have bx9:=RS9.bx;clear Y8 VE Y7 y0 y1 y2 y3 bx8 K9 V9 hn9 HO4;go_wp2_with fail;refine WT.mono ?_;rintro r wA ⟨rfl,⟨fA,VA,hnA⟩,KA⟩;have RSA:=RS9.turn VA KA hnA;have alk:=bq adf KA (fun g hg h=>HO9.out g h hg);have HOA:PJ (∀g,LvB lb vb eb fA g->(Ny (OM ⟨g4,0,Pk⟩) Q.length QY).ownBlock≠OM g):=fun g hg h=>by
          rcases hnA g hg with h1|h1
          ·exact HO9.out g h1 h
          ·have:=(adf.lt g h).2;omega
         have HEQ:PJ (fJ (fJ (cf PQ.es (Q.take j)) x.1 (cV x.2 (cf PQ.es (Q.take j) x.1))) x.2.to (cV ⟨x.1,xs,xd,(n:Int)⟩ (fJ (cf PQ.es (Q.take j)) x.1 (cV x.2 (cf PQ.es (Q.take j) x.1)) x.2.to))=cf PQ.es (Q.take (j+1))):=by
          rw[QV.out];unfold lay2;rw[HXS.out,HXD.out,HXM.out];exact rfl
         have HLA:PJ (iR L (cf PQ.es (Q.take (j+1)))):=by
          rw[<- HEQ.out];exact Zo.out.put h1L
         have RSB:RSt w wA N lb vb eb t L M (.slice (OM ⟨g0,0,Pk⟩) M.length TE) f fA ⟨fun k=>if k=n then t else PQ.lev k,cf PQ.es (Q.take (j+1))⟩ (fun k=>nr k || l.any (fun e=>e.to==k)):=by
          rw[<- HEQ.out];exact RSA
         clear WT RS9 adf z0 z1 z2 z3 bx9 KA VA hnA HO9 RSA HEQ QV HLJ Zo;go_wp2;go_roundw
         case rel=>exact⟨j+1,fA,by omega,by go_num,RSB,alk,HOA.out,HLA.out⟩
         case measure=>simp[intOf];omega
        ·have e:j=Q.length:=(by omega);subst e;have VE:RSt w wr N lb vb eb t L M (.slice (OM ⟨g0,0,Pk⟩) M.length TE) f f2 ⟨fun k=>if k=n then t else PQ.lev k,cf PQ.es Q⟩ (fun k=>nr k || l.any (fun e=>e.to==k)):=by
          have:=Us;rw[M9]at this;exact this
         have HTU:PJ (ef t n PQ nr ⟨fun k=>if k=n then t else PQ.lev k,cf PQ.es Q⟩ (fun k=>nr k || l.any (fun e=>e.to==k)) Pm):=by
          refine MF ⟨UO.out,p,HP.out,MF ?_⟩;rw[<- HQ.out,HFE.out];exact⟨Vx,rfl,rfl,rfl⟩
         have VB:PJ (Rnd t (M.take (k+1)) st (fun _=>PB) ⟨fun k=>if k=n then t else PQ.lev k,cf PQ.es Q⟩ (fun k=>nr k || l.any (fun e=>e.to==k)) Pm):=by
          rw[Sj.out];have h1:=HR.out.snoc HTU.out;rw[Bool.or_true]at h1;exact h1
         have HA2:PJ _:=HA.out.turn Z7 Qw HTU.out;have SK:PJ (∀m,(nr m || l.any (fun e=>e.to==m))=Pm->m∈L):=fun m hm=>by
          rcases Bool.or_eq_true .. ▸ hm with h|h
          ·exact Wv.out m h
          ·obtain⟨e,he,h2⟩:=List.any_eq_true.1 h;have:e.to=m:=beq_iff_eq.1 h2;rw[<- this];exact HTO.out e he
         clear Us Rp HO4 HLJ HTU HR HA Wv UO HP HE HQ HFE Sk HLO HTO HL0;go_wp2;go_roundw
         case rel=>exact⟨k+1,_,_,f2,Pm,by omega,by go_num,rfl,VE,VB.out,HA2.out,SK.out⟩
         case measure=>simp[intOf];omega
  ·have e:k=M.length:=(by omega);subst e;have HRF:PJ (Rnd t L st (fun _=>PB) PQ nr got):=by
    have h1:=HR.out;rw[M9]at h1;exact Rnd.filter ht (fun n hn hq=>by
     have:st.lev n≠0:=by simpa using hq
     omega) (HM.out▸h1)
   have lv:=RS.lv;have new:=RS.new;have kp:=RS.kp;clear HR RS;go_wp2;go_ret;exact⟨PQ,nr,got,f',rfl,HRF.out,lv,new,kp⟩
end
section
open Go.RowKit Go.Maps
structure r9 (w:PG) (N eb:Nat) (L:List Nat) (es:Nat->List LE) (f:Int->Option PH):Prop where
 em:aZ prog 3 w eb f L.length
 row:∀n∈L,∃v,f (n:Int)=OM v/\w.ownsRow N 204 4 v (es n).length (bB (es n))
 no:∀i v,f i=OM v->0<=i/\i.toNat∈L
 apart:∀n m v v' g,f n=OM v->f m=OM v'->v.ownBlock=OM g->v'.ownBlock=OM g->n=m
 nb:N<=eb
 bd:∀n∈L,n<256
 len:L.length<=256
def dj (L:List Nat):Int->Bool:=fun i=>decide (0<=i/\i.toNat∈L)
theorem p9 {n:Nat}:dj L (n:Int)=Pm↔n∈L:=by
 unfold dj;rw[decide_eq_true_eq,ML];exact⟨fun h=>h.2,fun h=>⟨by omega,h⟩⟩
theorem EG (n:Nat)(L:List Nat):dj (n::L)=dK (dj L) (n:Int):=by
 funext i
 unfold dj dK;by_cases e:i=(n:Int)
 ·subst e;rw[decide_eq_true rfl,decide_eq_true ⟨by omega,by simp⟩];rfl
 ·rw[decide_eq_false e,OS];show decide (0<=i/\i.toNat∈n::L)=decide (0<=i/\i.toNat∈L);by_cases h:0<=i/\i.toNat∈L
  ·rw[decide_eq_true h,decide_eq_true ⟨h.1,MV _ h.2⟩]
  ·rw[decide_eq_false h,decide_eq_false (fun h2=>by
    rcases Nh.1 h2.2 with h3|h3
    ·omega
    ·exact h ⟨h2.1,h3⟩)]
theorem yB:∀{L:List Nat},L.Nodup->(∀n∈L,n<256)->cu (dj L) 256=L.length
 |[],_,_=>by
  have:dj []=fun _=>false:=by funext i;unfold dj;simp
  rw[this];exact lG 256
 |n::L,hn,hb=>by
  have h1:=List.pairwise_cons.1 hn;have ZG:dj L (n:Int)=false:=by
   cases h:dj L (n:Int) with
   |false=>rfl
   |true=>exact absurd rfl (h1.1 n (p9.1 h))
  rw[EG,iC _ _ 256 (by omega) (by have:=hb n (M4 ..);omega) ZG,yB h1.2 (fun m hm=>hb m (MV _ hm)),Nf]
def zvF (S:Int->Bool):Int->Option Value:=fun i=>if S i then OM (PE PF 0) else Pk
theorem JN (S:Int->Bool)(a:Int):bL (zvF S) a (PE PF 0)=zvF (dK S a):=by
 funext i
 unfold bL zvF dK;by_cases e:i=a
 ·rw[if_pos e,decide_eq_true e];rfl
 ·rw[if_neg e,decide_eq_false e,OS]
theorem Ip (S:Int->Bool)(a:Int):(zvF S a).isSome=S a:=by
 unfold zvF;cases S a<;>rfl
theorem JO (L:List Nat):zvF (dj L)=lvF L (fun _=>0):=by
 funext i
 unfold zvF lvF dj;by_cases h:0<=i/\i.toNat∈L
 ·rw[if_pos h,decide_eq_true h];rfl
 ·rw[if_neg h,decide_eq_false h];rfl
section
variable {w w' : PG} {N lb vb eb top : Nat} {L : List Nat} {st : LSt} {f : Int → Option PH}
theorem cD.congr (V:cD w N lb vb eb top L st f){lev:Nat->Nat}(h:∀n∈L,lev n=st.lev n):cD w N lb vb eb top L ⟨lev,st.es⟩ f:=by
 have e:lvF L lev=lvF L st.lev:=by
  funext i
  unfold lvF;by_cases hi:0<=i/\i.toNat∈L
  ·rw[if_pos hi,if_pos hi,h _ hi.2]
  ·rw[if_neg hi,if_neg hi]
 exact⟨V.c0,V.c1,V.c2,V.fz,by rw[e];exact V.lv,V.em,V.row,V.no,V.apart,V.off,V.nb,V.ne,V.bd,V.len⟩
theorem cD.up (V:cD w N lb vb eb top L st f)(t:Nat):cD (w.setCell ⟨lb,0,Pk⟩ (PE PF (t:Int))) N lb vb eb t L st f/\ai (fun k=>k=lb) w (w.setCell ⟨lb,0,Pk⟩ (PE PF (t:Int))):=by
 have K:ai (fun k=>k=lb) w (w.setCell ⟨lb,0,Pk⟩ (PE PF (t:Int))):=(ai.refl (fun k=>k=lb) w).setCell (p:=⟨lb,0,Pk⟩) (fun _=>rfl) _;refine⟨⟨MO _ _ _ V.c0,?_,?_,?_,V.lv.keep K (fun e=>V.nes.1 e.symm),V.em.keep K (fun e=>V.nes.2 e.symm),fun n hn=>?_,V.no,V.apart,V.off,V.nb,V.ne,V.bd,V.len⟩,K⟩
 ·rw[MH _ _ _ _ (by simp)];exact V.c1
 ·rw[MH _ _ _ _ (by simp)];exact V.c2
 ·rw[World.frozen?_setCell];exact V.fz
 ·obtain⟨v,e1,e2⟩:=V.row n hn;exact⟨v,e1,bq e2 K (fun g hg h=>V.off _ _ e1 (by rw[<- h];exact hg))⟩
theorem cD.base (V:cD w N lb vb eb top L st f){g:Nat}(h:LvB lb vb eb f g):N<=g:=by
 rcases h with rfl|rfl|rfl|⟨i,v,h1,h2⟩
 ·exact V.nb.1
 ·exact V.nb.2.1
 ·exact V.nb.2.2
 ·obtain⟨i1,i2⟩:=V.no i v h1;obtain⟨v2,e1,e2⟩:=V.row i.toNat i2;rw[Nl i1,h1]at e1;cases e1;exact(e2.lt g h2).1
end
theorem r9.keep {F:Nat->Prop}{es:Nat->List LE}(E:r9 w N eb L es f)(K:ai F w w')(h1:¬F eb)(h2:∀g i v,f i=OM v->v.ownBlock=OM g->¬F g):r9 w' N eb L es f :=
 ⟨E.em.keep K h1,fun n hn=>by
  obtain⟨v,e1,e2⟩:=E.row n hn;exact⟨v,e1,bq e2 K (fun g hg=>h2 g _ v e1 hg)⟩,E.no,E.apart,E.nb,E.bd,E.len⟩
structure Hd (w:PG) (lb vb eb top:Nat):Prop where
 c0:w.cell? ⟨lb,0,Pk⟩=OM (PE PF (top:Int))
 c1:w.cell? ⟨lb,1,Pk⟩=OM (.map (OM vb))
 c2:w.cell? ⟨lb,2,Pk⟩=OM (.map (OM eb))
 fz:w.frozen? ⟨lb,0,Pk⟩=PB
theorem Hd.keep {F:Nat->Prop}(H:Hd w lb vb eb top)(K:ai F w w')(h:¬F lb):Hd w' lb vb eb top :=
 ⟨K.cellOf H.c0 h,K.cellOf H.c1 h,K.cellOf H.c2 h,(K.frozen (p:=⟨lb,0,Pk⟩) (aJ H.c0) h).trans H.fz⟩
def AS (w:PG) (N lb vb eb most:Nat) (L:List Nat) (es:Nat->List LE):Prop:=∃k PQ f',Rds most L ⟨fun _=>0,es⟩ k PQ/\lY most L k PQ/\cD w N lb vb eb (k+1) L ⟨dr (k+1) PQ,PQ.es⟩ f'
theorem Iq {most:Nat}{es:Nat->List LE}(w:PG)(E:r9 w N eb L es f)(hN:N<=w.heap.size)(hr:L.Pairwise (·<·))(B:Btw L 0 16 ⟨fun _=>0,es⟩)(m1:1<=most)(m6:most<=6) :
  PK prog 76 #[.map (OM eb),PE PF (most:Int)] w fun e w'=>e=PM (.pointer (OM ⟨w.heap.size+1,0,Pk⟩))/\AS w' N (w.heap.size+1) w.heap.size eb most L es/\PI N w w':=by
 have Tl:=@run_makeMap prog;have as1:=E.em.lt;obtain⟨W0,Ru⟩:∃W0,W0=(w.alloc (.map #[] 0)).alloc (PN #[PE PF 1,.map (OM w.heap.size),.map (OM eb)] 194):=⟨_,rfl⟩;have BW:PI w.heap.size w W0:=by
  rw[Ru];exact(al.alloc aj _).alloc (by simp) _
 have P0:W0.heap.size=w.heap.size+2:=by rw[Ru];simp
 have c0:W0.cell? ⟨w.heap.size+1,0,Pk⟩=OM (PE PF 1):=by rw[Ru];exact ME _ _ _ 0 (by simp)
 have c1:W0.cell? ⟨w.heap.size+1,1,Pk⟩=OM (.map (OM w.heap.size)):=by rw[Ru];exact ME _ _ _ 1 (by simp)
 have c2:W0.cell? ⟨w.heap.size+1,2,Pk⟩=OM (.map (OM eb)):=by rw[Ru];exact ME _ _ _ 2 (by simp)
 have fz:W0.frozen? ⟨w.heap.size+1,0,Pk⟩=false:=by
  rw[Ru,frozen?_alloc_cells];simp[OU]
 have lm:aZ prog 3 W0 w.heap.size (zvF fun _=>PB) (cu (fun _=>PB) 256):=by
  have e:zvF (fun _=>PB)=fun _=>none:=rfl;rw[Ru,lG,e];exact(aZ.made w prog 3).keep (F:=fun _=>False) ((ai.refl _ _).alloc _) id
 have em0:=E.em.keep (F:=fun _=>False) (ai.of_below BW) id;have E0:r9 W0 N eb L es f:=⟨em0,fun n hn=>by
  obtain⟨v,e1,e2⟩:=E.row n hn;exact⟨v,e1,aq e2 BW⟩,E.no,E.apart,E.nb,E.bd,E.len⟩
 have HFS:PJ (∀(x:Int) (v:PH),f x=OM v->∃n:Nat,x=(n:Int)/\n∈L):=fun x v h=>by
  obtain⟨h1,h2⟩:=E.no x v h;exact⟨x.toNat,by omega,h2⟩
 have Zn:PJ (∀n∈L,(f (n:Int)).isSome=Pm):=fun n hn=>by
  obtain⟨v,e1,_⟩:=E.row n hn;rw[e1];rfl
 have hlen:=E.len;have Q8:PJ (∀n∈L,n<256):=E.bd;have Uh:=E.nb;have HND:PJ L.Nodup:=hr.imp (fun h e=>by omega);have HEB:PJ (∀g i v,f i=OM v->v.ownBlock=OM g->g<w.heap.size):=fun g i v hi hg=>by
  obtain⟨h1,h2⟩:=E.no i v hi;obtain⟨v2,e1,e2⟩:=E.row i.toNat h2;rw[Nl h1,hi]at e1;cases e1;exact(e2.lt g hg).2
 clear E em0;go_enter func76,ntmps76;go_wp2_with (first|(at_range;rw[<- Ru];refine cw rfl _ 123 rfl 3 126 aY Tryz.underM eb _ _ rfl E0.em ?_;intro w3 QP Sf hs3)|go_in);have H0:Hd W0 (w.heap.size+1) w.heap.size eb 1:=⟨c0,c1,c2,fz⟩;have K3:ai (fun _=>False) W0 w3:=(ai.refl _ _).grown Sf (fun k hk _=>by cases hk);have H3:=H0.keep K3 id;have E3:=E0.keep K3 id (fun _ _ _ _ _=>id);have lm3:=lm.keep K3 id;have B3:PI w.heap.size w w3:=BW.grown Sf BW.size (fun k hk=>by cases hk);have hR3:w.heap.size+2<w3.heap.size:=by omega
 rw[P0]at QP;clear Sf hs3 K3 H0 E0 lm BW c0 c1 c2 fz Ru P0;go_loopg [6] L.length (fun gj nv wq=>∃(left:Int->Bool) (cnt:Nat) (S:Int->Bool),gj=cnt/\fQ prog 3 wq eb (w.heap.size+2) f L.length left cnt/\aZ prog 3 wq w.heap.size (zvF S) (cu S 256)/\PJ (∀i:Int,S i=Pm↔(f i).isSome=Pm/\left i=PB)/\Hd wq (w.heap.size+1) w.heap.size eb 1/\r9 wq N eb L es f/\PI w.heap.size w wq/\w.heap.size+2<wq.heap.size)
 case atStart=>exact⟨_,_,fun _=>PB,rfl,QP,lm3,fun i=>⟨fun h=>(by cases h),fun ⟨h1,h2⟩=>by rw[h1]at h2;cases h2⟩,H3,E3,B3,hR3⟩
 case round =>
  clear QP lm3 H3 E3 B3 hR3;obtain⟨left,cnt,S,hgj,QN,lm,hS,H,E,hB,hR⟩:=hrel;go_wp2_with (first|(at_next;refine cM rfl _ rfl 3 aY eb (w.heap.size+2) _ _ _ _ rfl QN ?_ ?_)|go_in)
  ·intro Ue Rf;have eS:S=dj L:=by
    funext i
    cases h:S i with
    |true =>
     obtain⟨h1,_⟩:=(hS.out i).1 h;obtain⟨v,hv⟩:=Option.isSome_iff_exists.1 h1;obtain⟨n,rfl,hn⟩:=HFS.out i v hv;exact(p9.2 hn).symm
    |false =>
     cases h2:dj L i with
     |false=>rfl
     |true =>
      have h3:0<=i/\i.toNat∈L:=of_decide_eq_true h2;have h4:=Zn.out i.toNat h3.2;rw[Nl h3.1]at h4;rw[(hS.out i).2 ⟨h4,Rf i⟩]at h;cases h
   have lm1:aZ prog 3 wr w.heap.size (lvF L fun _=>0) L.length:=by
    have:=lm;rw[eS,JO,yB HND.out Q8.out]at this;exact this
   have V1:cD wr N (w.heap.size+1) w.heap.size eb 1 L ⟨fun _=>0,es⟩ f:=⟨H.c0,H.c1,H.c2,H.fz,lm1,E.em,E.row,E.no,E.apart,fun n v h1 h2=>by have:=HEB.out _ _ _ h1 h2;omega,⟨by omega,by omega,Uh⟩,by omega,E.bd,E.len⟩;have B1:PI N w wr:=hB.mono hN;have Yw:PJ (Rds most L ⟨fun _=>0,es⟩ 0 ⟨fun _=>0,es⟩):=rfl;clear QN lm hS H E hB hR eS lm1 Rf;go_wp2;go_loopg [33] most (fun gj pv wq=>∃(k:Nat) (PQ:LSt) (f':Int->Option PH),gj=most-k/\k+1<=most/\cD wq N (w.heap.size+1) w.heap.size eb (k+1) L PQ f'/\PJ (Rds most L ⟨fun _=>0,es⟩ k PQ)/\PI N w wq)
   case atStart=>exact⟨0,_,f,rfl,m1,V1,Yw,B1⟩
   case round =>
    clear V1 Yw B1;obtain⟨k,PQ,f',QD,hk,V1,XP,B1⟩:=hrel;have q0:=V1.c0;have U9:N<=wr.heap.size:=(by have:=B1.size;omega);by_cases PO:k+1<most
    ·have UA:((k+1:Nat):Int)<(most:Int):=(by omega);have Z7:=fo (show (0:Int)<=16 by omega) k;have XU:dbl 16 k<=256:=by
      have:k=0\/k=1\/k=2\/k=3\/k=4:=(by omega);rcases this with rfl|rfl|rfl|rfl|rfl<;>decide
     have hA:=(Btw.rds (show (0:Int)<=16 by omega) B XP.out).all Z7;have hrd:=EF wr V1 hr hA Z7 XU (Nat.succ_pos k);go_wp2_with fail;refine hrd.mono ?_;rintro e w5 ⟨st2,nr2,got,f2,rfl,Yx,V5,hn5,K5⟩;have B5:PI N w w5:=B1.trans (K5.to_below U9 (fun q hq=>V1.base hq));clear hrd hA K5 hn5 B1;cases got with
     |true =>
      have UQ:PJ (Rds most L ⟨fun _=>0,es⟩ (k+1) st2):=⟨PQ,nr2,XP.out,PO,Yx⟩;have p0:=V5.c0;have pz:=V5.fz;have SN:=V5.up (k+1+1);have B6:PI N w (w5.setCell ⟨w.heap.size+1,0,Pk⟩ (PE PF ((k+1+1:Nat):Int))):=B5.trans (SN.2.to_below (by have:=B5.size;omega) (fun q e=>by omega));have aaa:=SN.1;clear SN V5 B5 V1 Yx XP q0;go_wp2;go_roundg (most-(k+1))
      case measure=>omega
      case rel=>exact⟨k+1,st2,f2,rfl,by omega,aaa,UQ,B6⟩
     |false =>
      have e2:=Yx.none;have HOV:PJ (lY most L k st2):=MF ⟨st2,nr2,by
       have:=Yx;rw[<- e2]at this;exact this⟩
      have UQ:PJ (Rds most L ⟨fun _=>0,es⟩ k st2):=(by rw[e2];exact XP.out);clear Yx V1 XP q0 e2;have U2:=pd w5 V5 hr;have Ul:PJ (∀n,n∈fx L st2↔n∈L/\(st2).lev n=0):=fun n=>by
       unfold fx;rw[Ns];simp
      have hML:(fx L st2).length<=256:=M5 (Nk _ _) hlen;go_wp2_with fail;refine U2.mono ?_;rintro e w6 ⟨vM,rfl,TK,Qr⟩;generalize fx L st2=M at *;obtain⟨AM,TE,rfl,_⟩:=iw TK;have V6:=(V5).below Qr;have B6:PI N w w6:=(B5).trans (Qr.mono (by have:=(B5).size;omega));have Qh:=bT TK (MQ _);clear U2 Qr TK;go_wp2;go_loopw [44] (fun iv wr=>∃j:Nat,j<=M.length/\iv=PE PF j/\cD wr N (w.heap.size+1) w.heap.size eb (k+1) L ⟨fun q=>if q∈M.take j then k+1 else (st2).lev q,(st2).es⟩ f2/\wr.ownsRow 0 3 1 (.slice AM M.length TE) M.length (aH M)/\PI N w wr)
       (fun i _=>M.length-(intOf i).toNat)
      case atStart=>exact⟨0,MQ _,rfl,V6.congr (fun n _=>by simp),Qh,B6⟩
      case round =>
       clear V6 Qh B6;obtain⟨j,hj,rfl,V6,Qh,B6⟩:=hrel;by_cases QZ:j<M.length
       ·obtain⟨g0,Ux⟩:∃g0,AM=OM ⟨g0,0,Pk⟩:=by
         rcases Qh.2 with⟨_,h0⟩|⟨g0,_,_,hv,_⟩
         ·omega
         ·exact⟨g0,by cases hv;rfl⟩
        subst Ux;have PU:=iO Qh j QZ;obtain⟨n,hn⟩:∃n,M[j]? = OM n:=⟨M[j],MJ QZ⟩;have TB:M.getD j 0=n:=by
         rw[MS,hn];rfl
        rw[TB]at PU;obtain⟨Qw,_⟩:=(Ul.out n).1 (MZ hn);have aln:=Q8.out n Qw;have SZ:=aC (a:=(n:Int)) (by omega) (by omega);have Sj:PJ (M.take (j+1)=M.take j++[n]):=by
         rw[Nb,hn];rfl
        have i1:(0:Int)<=(j:Int):=(by omega);have i2:(j:Int)<(M.length:Int):=(by omega);have bD:=cI wr;have VD:=V6.below bD;have Wl:=aq Qh bD;obtain⟨w8,Sa,ZA,ZB⟩:=VD.lv.store aY Tryz.underV (by unfold maxLen;omega) SZ (PE PF ((k+1:Nat):Int));rw[rV Qw]at ZA;have K8:=aA ZB;have V8:=(VD.level Qw K8 ZA).congr (lev:=fun q=>if q∈M.take (j+1) then k+1 else (st2).lev q) (fun m _=>by
         rw[Sj.out];by_cases e:m=n
         ·subst e;simp
         ·simp[e])
        have Vq:=bq Wl K8 (bJ Wl VD.lv);have B8:PI N w w8:=((B6.trans (bD.mono (by have:=B6.size;omega)))).trans (K8.to_below (by have:=B6.size;have h:wr.drew.heap.size=wr.heap.size:=rfl;omega) (fun q e=>by omega));have Wz:(Instr.mapUpdate 129 (.map (OM w.heap.size)) (PE PF (n:Int)) (PE PF ((k:Int)+1))).run prog wr.drew=.ok () w8:=Sa;have r0:wr.drew.cell? ⟨w.heap.size+1,0,Pk⟩=OM (PE PF ((k:Int)+1)):=VD.c0;have r1:=VD.c1;have Zz:=VD.nes.1;have s0:=K8.cellOf r0 Zz;have s1:=K8.cellOf r1 Zz;clear hn TB Qh B6 bD Wl ZA ZB K8 VD Sa;go_wp2_with fail;go_region_held3 (fun w'=>w'.cell? ⟨w.heap.size+1,0,Pk⟩=OM (PE PF ((k:Int)+1))/\w'.cell? ⟨w.heap.size+1,1,Pk⟩=OM (.map (OM w.heap.size))) (first|(exact⟨r0,r1⟩)|(exact⟨s0,s1⟩)) (first|(fail));clear r0 r1 s0 s1 Wz PU;go_wp2;go_roundw
        case rel=>exact⟨j+1,by omega,by go_num,V8,Vq,B8⟩
        case measure=>simp[intOf];omega
       ·have e:j=M.length:=(by omega);subst e;have V7:=V6.congr (lev:=dr (k+1) st2) (fun m hm=>by
         rw[M9];unfold dr;by_cases h0:(st2).lev m=0
         ·rw[if_pos h0];show _=if m∈M then _ else _
          rw[if_pos ((Ul.out m).2 ⟨hm,h0⟩)]
         ·rw[if_neg h0];show _=if m∈M then _ else _
          rw[if_neg (fun h=>h0 ((Ul.out m).1 h).2)])
        clear V6 Qh;go_wp2;go_ret;exact⟨rfl,⟨k,st2,f2,UQ.out,HOV.out,V7⟩,B6⟩
    ·have UA:¬((k+1:Nat):Int)<(most:Int):=(by omega);have HOV:PJ (lY most L k PQ):=MG (by omega);have U2:=pd wr V1 hr;have Ul:PJ (∀n,n∈fx L PQ↔n∈L/\(PQ).lev n=0):=fun n=>by
      unfold fx;rw[Ns];simp
     have hML:(fx L PQ).length<=256:=M5 (Nk _ _) hlen;go_wp2_with fail;refine U2.mono ?_;rintro e w6 ⟨vM,rfl,TK,Qr⟩;generalize fx L PQ=M at *;obtain⟨AM,TE,rfl,_⟩:=iw TK;have V6:=(V1).below Qr;have B6:PI N w w6:=(B1).trans (Qr.mono (by have:=(B1).size;omega));have Qh:=bT TK (MQ _);clear U2 Qr TK;go_wp2;go_loopw [44] (fun iv wr=>∃j:Nat,j<=M.length/\iv=PE PF j/\cD wr N (w.heap.size+1) w.heap.size eb (k+1) L ⟨fun q=>if q∈M.take j then k+1 else (PQ).lev q,(PQ).es⟩ f'/\wr.ownsRow 0 3 1 (.slice AM M.length TE) M.length (aH M)/\PI N w wr)
      (fun i _=>M.length-(intOf i).toNat)
     case atStart=>exact⟨0,MQ _,rfl,V6.congr (fun n _=>by simp),Qh,B6⟩
     case round =>
      clear V6 Qh B6;obtain⟨j,hj,rfl,V6,Qh,B6⟩:=hrel;by_cases QZ:j<M.length
      ·obtain⟨g0,Ux⟩:∃g0,AM=OM ⟨g0,0,Pk⟩:=by
        rcases Qh.2 with⟨_,h0⟩|⟨g0,_,_,hv,_⟩
        ·omega
        ·exact⟨g0,by cases hv;rfl⟩
       subst Ux;have PU:=iO Qh j QZ;obtain⟨n,hn⟩:∃n,M[j]? = OM n:=⟨M[j],MJ QZ⟩;have TB:M.getD j 0=n:=by
        rw[MS,hn];rfl
       rw[TB]at PU;obtain⟨Qw,_⟩:=(Ul.out n).1 (MZ hn);have aln:=Q8.out n Qw;have SZ:=aC (a:=(n:Int)) (by omega) (by omega);have Sj:PJ (M.take (j+1)=M.take j++[n]):=by
        rw[Nb,hn];rfl
       have i1:(0:Int)<=(j:Int):=(by omega);have i2:(j:Int)<(M.length:Int):=(by omega);have bD:=cI wr;have VD:=V6.below bD;have Wl:=aq Qh bD;obtain⟨w8,Sa,ZA,ZB⟩:=VD.lv.store aY Tryz.underV (by unfold maxLen;omega) SZ (PE PF ((k+1:Nat):Int));rw[rV Qw]at ZA;have K8:=aA ZB;have V8:=(VD.level Qw K8 ZA).congr (lev:=fun q=>if q∈M.take (j+1) then k+1 else (PQ).lev q) (fun m _=>by
        rw[Sj.out];by_cases e:m=n
        ·subst e;simp
        ·simp[e])
       have Vq:=bq Wl K8 (bJ Wl VD.lv);have B8:PI N w w8:=((B6.trans (bD.mono (by have:=B6.size;omega)))).trans (K8.to_below (by have:=B6.size;have h:wr.drew.heap.size=wr.heap.size:=rfl;omega) (fun q e=>by omega));have Wz:(Instr.mapUpdate 129 (.map (OM w.heap.size)) (PE PF (n:Int)) (PE PF ((k:Int)+1))).run prog wr.drew=.ok () w8:=Sa;have r0:wr.drew.cell? ⟨w.heap.size+1,0,Pk⟩=OM (PE PF ((k:Int)+1)):=VD.c0;have r1:=VD.c1;have Zz:=VD.nes.1;have s0:=K8.cellOf r0 Zz;have s1:=K8.cellOf r1 Zz;clear hn TB Qh B6 bD Wl ZA ZB K8 VD Sa;go_wp2_with fail;go_region_held3 (fun w'=>w'.cell? ⟨w.heap.size+1,0,Pk⟩=OM (PE PF ((k:Int)+1))/\w'.cell? ⟨w.heap.size+1,1,Pk⟩=OM (.map (OM w.heap.size))) (first|(exact⟨r0,r1⟩)|(exact⟨s0,s1⟩)) (first|(fail));clear r0 r1 s0 s1 Wz PU;go_wp2;go_roundw
       case rel=>exact⟨j+1,by omega,by go_num,V8,Vq,B8⟩
       case measure=>simp[intOf];omega
      ·have e:j=M.length:=(by omega);subst e;have V7:=V6.congr (lev:=dr (k+1) PQ) (fun m hm=>by
        rw[M9];unfold dr;by_cases h0:(PQ).lev m=0
        ·rw[if_pos h0];show _=if m∈M then _ else _
         rw[if_pos ((Ul.out m).2 ⟨hm,h0⟩)]
        ·rw[if_neg h0];show _=if m∈M then _ else _
         rw[if_neg (fun h=>h0 ((Ul.out m).1 h).2)])
       clear V6 Qh;go_wp2;go_ret;exact⟨rfl,⟨k,PQ,f',XP.out,HOV.out,V7⟩,B6⟩
  ·intro x v w4 Qf Tf Se SD QE PO QI Rx TM;obtain⟨n,Zr,Qw⟩:=HFS.out x v SD;subst Zr;have as2:=Q8.out n Qw;have K4:ai (fun k=>k=w.heap.size+2) wr w4:=(ai.refl _ _).grown QI (fun k hk _=>by cases hk;rfl);have H4:=H.keep K4 (by omega);have E4:=E.keep K4 (by omega) (fun g i v hi hg=>by have:=HEB.out g i v hi hg;omega);have lm4:=lm.keep K4 (by omega);have B4:PI w.heap.size w w4:=hB.grown QI hB.size (fun k e=>by cases e;omega);obtain⟨w5,aoI,XA,XB⟩:=lm4.store aY Tryz.underV (by have:=lF S 256;unfold maxLen;omega) Tf (PE PF 0);have K5:=aA XB;have H5:=H4.keep K5 (by omega);have E5:=E4.keep K5 (by omega) (fun g i v hi hg=>by have:=HEB.out g i v hi hg;omega);have hSn:S (n:Int)=false:=by
    cases h:S (n:Int) with
    |false=>rfl
    |true=>have:=((hS.out _).1 h).2;rw[Se]at this;cases this
   rw[JN,Ip,hSn]at XA;have lm5:aZ prog 3 w5 w.heap.size (zvF (dK S (n:Int))) (cu (dK S (n:Int)) 256):=by
    rw[iC S _ 256 (by omega) (by omega) hSn];exact XA
   have Yz:=QE.keep K5 (by omega) (by omega);have B5:PI w.heap.size w w5:=B4.trans (K5.to_below B4.size (fun k e=>by omega));have hR5:w.heap.size+2<w5.heap.size:=(by have:=K5.size;omega);have HS5:PJ (∀i:Int,dK S (n:Int) i=Pm↔(f i).isSome=Pm/\(left i&&!decide (i=(n:Int)))=PB):=fun i=>by
    rw[cF,hS.out i];by_cases e:i=(n:Int)
    ·subst e;rw[Zn.out n Qw];simp
    ·simp[e]
   have q1:=H4.c1;clear QN QI Rx K4 H E lm hB K5 XA XB E4 lm4 B4 QE;go_wp2;go_roundg Qf
   case measure=>omega
   case rel=>exact⟨_,Qf,_,rfl,Yz,lm5,HS5.out,H5,E5,B5,hR5⟩
end
section
open Go.RowKit Go.Maps
def GEs (W H:Int) (bl:Nat->Bool) (es:Nat->List LE):Prop :=
 (∀n:Nat,bj W H bl n=Pm->∃l:List Nat,j7 W H bl n l/\es n=l.map (fun m=>⟨m,aO W n m,aK W n m,-1⟩))/\∀n:Nat,bj W H bl n=PB->es n=[]
theorem jX (W:Int)(n:Nat):∀l:List Nat,bB (l.map (fun m=>(⟨m,aO W n m,aK W n m,-1⟩:LE)))=bQ W (n:Int) l
 |[]=>rfl
 |m::l=>by
  rw[List.map_cons,dw,jX W n l];rfl
theorem j7.one {bl:Nat->Bool}{l':List Nat}(h:j7 W H bl c l)(h':j7 W H bl c l'):l=l':=pY h.1 h'.1 (fun n=>by rw[h.2 n,h'.2 n])
theorem Lm (W H:Int)(bl:Nat->Bool)(w1:1<=W):∃es,GEs W H bl es:=by
 have h:∀n:Nat,∃e:List LE,(bj W H bl n=Pm->∃l:List Nat,j7 W H bl n l/\e=l.map (fun m=>⟨m,aO W n m,aK W n m,-1⟩))/\(bj W H bl n=PB->e=[]):=fun n=>by
  cases hc:bj W H bl n with
  |false=>exact⟨[],fun h=>(by cases h),fun _=>rfl⟩
  |true =>
   refine⟨_,fun _=>⟨(crs W H bl (W*H).toNat).filter (fun m:Nat=>@decide (Dir W H bl n m/\(m:Int)≠n) (Classical.propDecidable _)),⟨(gA W H bl _).filter _,fun m=>?_⟩,rfl⟩,fun h=>(by cases h)⟩;rw[Ns,cR,@decide_eq_true_iff _ (Classical.propDecidable _),MW,decide_eq_true_eq];constructor
   ·rintro⟨⟨_,h1⟩,h2,h3⟩;exact⟨h2,h3,h1⟩
   ·rintro⟨h1,h2,h3⟩;have h4:0<=(m:Int)/\(m:Int)<W*H:=of_decide_eq_true (aT w1 (aE.1 h3));exact⟨⟨by omega,h3⟩,h1,h2⟩
 obtain⟨es,he⟩:=Classical.axiomOfChoice h;exact⟨es,fun n hn=>(he n).1 hn,fun n hn=>(he n).2 hn⟩
section
variable {W H : Int} {bl : Nat → Bool} {es : Nat → List LE}
theorem GEs.mem (G:GEs W H bl es){a:Nat}{e:LE}(h:e∈es a):bj W H bl a=Pm/\bj W H bl e.to=Pm/\Dir W H bl a e.to/\e.to≠a/\e.s=aO W a e.to/\e.d=aK W a e.to/\e.mid=-1:=by
 cases hc:bj W H bl a with
 |false=>rw[G.2 a hc]at h;cases h
 |true =>
  obtain⟨l,h1,h2⟩:=G.1 a hc;rw[h2]at h;obtain⟨m,hm,rfl⟩:=NH.1 h;obtain⟨h3,h4⟩:=(h1.2 m).1 hm;rw[MW,decide_eq_true_eq]at h4;exact⟨rfl,h4.2,h3,fun e=>h4.1 (by show (m:Int)=_;have:m=a:=e;omega),rfl,rfl,rfl⟩
theorem GEs.in (G:GEs W H bl es){a m:Nat}(ha:bj W H bl a=Pm)(hm:bj W H bl m=Pm)(hd:Dir W H bl a m)(PW:m≠a):(⟨m,aO W a m,aK W a m,-1⟩:LE)∈es a:=by
 obtain⟨l,h1,h2⟩:=G.1 a ha;rw[h2];refine NH.2 ⟨m,(h1.2 m).2 ⟨hd,?_⟩,rfl⟩;rw[MW,decide_eq_true_eq];exact⟨by omega,hm⟩
theorem GEs.esy (G:GEs W H bl es):Esy es:=by
 refine⟨fun n=>?_,fun {a e} he=>?_,fun {a e} he=>(G.mem he).2.2.2.1⟩
 ·cases hc:bj W H bl n with
  |false=>rw[G.2 n hc];exact List.Pairwise.nil
  |true =>
   obtain⟨l,h1,h2⟩:=G.1 n hc;rw[h2];unfold Rsg;rw[N7];exact h1.1
 ·obtain⟨h1,h2,h3,h4,h5,h6,h7⟩:=G.mem he;have:=G.in h2 h1 h3.sym (fun e=>h4 e.symm)
  rw[aV W e.to a,aW W e.to a,<- h5,<- h6,<- h7]at this;exact this
theorem GEs.btw (G:GEs W H bl es)(w1:1<=W)(w2:W<=16)(h1:1<=H)(h2:H<=16):Btw (crs W H bl (W*H).toNat) 0 16 ⟨fun _=>0,es⟩:=by
 have PY:∀{n:Nat},bj W H bl n=Pm->n∈crs W H bl (W*H).toNat:=fun {n} hn=>by
  have h4:0<=(n:Int)/\(n:Int)<W*H:=of_decide_eq_true (aT w1 (aE.1 hn));exact cR.2 ⟨by omega,hn⟩
 refine⟨Lrd.start G.esy (fun _=>rfl) (fun {a e} he=>by rw[(G.mem he).2.2.2.2.2.2];decide),⟨fun {a e} he=>⟨PY (G.mem he).1,PY (G.mem he).2.1⟩,fun h=>absurd h (NJ _)⟩,fun {a e} he=>?_⟩;obtain⟨k1,k2,_,_,k5,k6,_⟩:=G.mem he;have hs:=bV w1 w2 h1 h2 (aT w1 (aE.1 k1)) (aT w1 (aE.1 k2));rw[k5,k6];exact⟨aG _ _ _,aD _ _ _,hs.1,hs.2⟩
end
theorem r9.add {n:Nat}{P:List Nat}{es:Nat->List LE}(E:r9 w N eb P es f)(hn:n<256)(hl:P.length<256)(K:ai (fun k=>k=eb) w w')(em:aZ prog 3 w' eb (bL f (n:Int) v) (P.length+1))(row:w'.ownsRow N 204 4 v (es n).length (bB (es n)))(hnP:n∉P)(Sm:∀g,v.ownBlock=OM g->∀i u,f i=OM u->u.ownBlock≠OM g) :
  r9 w' N eb (P++[n]) es (bL f (n:Int) v):=by
 have Rh:∀{i:Int},i≠(n:Int)->bL f (n:Int) v i=f i:=fun h=>cT _ _ h;refine⟨by rw[MM];exact em,fun m hm=>?_,fun i u hi=>?_,fun a b u u' g h1 h2 h3 h4=>?_,E.nb,fun m hm=>?_,by rw[MM];show P.length+1<=256;omega⟩
 ·by_cases e:m=n
  ·subst e;exact⟨v,ck _ _ _,row⟩
  ·have hm':m∈P:=by
    rcases MT.1 hm with h|h
    ·exact h
    ·exact absurd (MU.1 h) e
   obtain⟨u,e1,e2⟩:=E.row m hm';exact⟨u,(Rh (by omega)).trans e1,bq e2 K (bJ e2 E.em)⟩
 ·by_cases e:i=(n:Int)
  ·subst e;exact⟨by omega,by simp⟩
  ·rw[Rh e]at hi;obtain⟨k1,k2⟩:=E.no i u hi;exact⟨k1,MT.2 (MG k2)⟩
 ·by_cases e1:a=(n:Int)
  ·by_cases e2:b=(n:Int)
   ·rw[e1,e2]
   ·subst e1;rw[ck]at h1;cases h1;rw[Rh e2]at h2;exact absurd h4 (Sm g h3 _ _ h2)
  ·rw[Rh e1]at h1;by_cases e2:b=(n:Int)
   ·subst e2;rw[ck]at h2;cases h2;exact absurd h3 (Sm g h4 _ _ h1)
   ·rw[Rh e2]at h2;exact E.apart _ _ _ _ g h1 h2 h3 h4
 ·rcases MT.1 hm with h|h
  ·exact E.bd m h
  ·rw[MU.1 h];exact hn
theorem JP {most:Int}(w:PG)(hm:most<1\/6<most):PK prog 37 #[.pointer (OM ⟨rb,0,Pk⟩),PE PF most] w fun e w'=>e=PM (.tuple #[.pointer Pk,.iface 54 (PE PF 1)])/\w'=w:=by
 rcases Decidable.em (most<1) with h|h
 ·go_enter func37,ntmps37;go_wp2;go_ret2;exact⟨rfl,rfl⟩
 ·have h6:6<most:=by omega
  go_enter func37,ntmps37;go_wp2;go_ret2;exact⟨rfl,rfl⟩
end
section
open Go.RowKit Go.Maps
def Lvd (w:PG) (N lb most:Nat) (W H:Int) (bl:Nat->Bool) (es:Nat->List LE):Prop:=∃vb eb,AS w N lb vb eb most (crs W H bl (W*H).toNat) es
theorem sd {mb most:Nat}{bl:Nat->Bool}{es:Nat->List LE}(w:PG)(G:dI w rb pb mb W H V bl)(hG:GEs W H bl es)(m1:1<=most)(m6:most<=6) :
  PK prog 37 #[.pointer (OM ⟨rb,0,Pk⟩),PE PF (most:Int)] w fun e w'=>∃lb,e=PM (.tuple #[.pointer (OM ⟨lb,0,Pk⟩),.nilIface])/\Lvd w' w.heap.size lb most W H bl es/\PI w.heap.size w w':=by
 obtain⟨w1,w2,h1,h2⟩:1<=W/\W<=16/\1<=H/\H<=16:=by
  obtain⟨f,G,_⟩:=G;exact⟨G.ga.w1,G.ga.w2,G.ga.h1,G.ga.h2⟩
 have Rq:=bP w1 w2 h1 h2;have Tl:=@run_makeMap prog;have b0:=aQ w (.map #[] 0);have M0:aZ prog 3 (w.alloc (.map #[] 0)) w.heap.size (fun _=>Pk) 0:=aZ.made w prog 3;have P0:w.heap.size<(w.alloc (.map #[] 0)).heap.size:=by simp
 have G0:=G.below b0;have YH:=o8 _ G0;have HB:PJ (Btw (crs W H bl (W*H).toNat) 0 16 ⟨fun _=>0,es⟩):=hG.btw w1 w2 h1 h2;have HR:PJ ((crs W H bl (W*H).toNat).Pairwise (·<·)):=gA _ _ _ _;have HC:PJ (∀n∈crs W H bl (W*H).toNat,bj W H bl n=Pm/\n<256):=fun n hn=>by
  have:=cR.1 hn;exact⟨this.2,by omega⟩
 have T8:(crs W H bl (W*H).toNat).length<=256:=by have:=fF W H bl (W*H).toNat;omega
 have HLD:PJ (∀w' lb vb eb,AS w' w.heap.size lb vb eb most (crs W H bl (W*H).toNat) es->Lvd w' w.heap.size lb most W H bl es):=fun _ _ vb eb h=>⟨vb,eb,h⟩;have HGW:=ae G;clear G;go_enter func37,ntmps37;go_wp2_with fail;generalize w.alloc (.map #[] 0)=wa at *;refine YH.mono ?_;rintro e wb ⟨vL,rfl,TG,hb1⟩;generalize crs W H bl (W*H).toNat=L at *;obtain⟨AL,acz,rfl,_⟩:=iw TG;have B1:=ak b0 hb1;have G1:=G0.below hb1;have E1:r9 wb w.heap.size w.heap.size [] es (fun _=>Pk):=⟨M0.keep (F:=fun _=>False) (ai.of_below hb1) id,fun n hn=>(by cases hn),fun i v h=>(by cases h),fun n m v v' g h=>(by cases h),aj,fun n hn=>(by cases hn),MQ _⟩;have Qg:=bT TG (MQ _);have QI:∀q,(Ny AL L.length acz).ownBlock=OM q->wa.heap.size<=q:=fun q hq=>(TG.lt q hq).1;have HG1:PJ _:=QI;clear YH hb1 TG G0 M0 b0 QI;go_wp2;go_loopw [20] (fun iv wr=>∃(k:Nat) (f:Int->Option PH),k<=L.length/\iv=PE PF k/\r9 wr w.heap.size w.heap.size (L.take k) es f/\dI wr rb pb mb W H V bl/\wr.ownsRow 0 3 1 (.slice AL L.length acz) L.length (aH L)/\PI w.heap.size w wr)
  (fun i _=>L.length-(intOf i).toNat)
 case atStart=>exact⟨0,_,MQ _,rfl,E1,G1,Qg,B1⟩
 case round =>
  clear E1 G1 Qg B1;obtain⟨k,f,hk,rfl,E,G,own,hB⟩:=hrel;by_cases PO:k<L.length
  ·obtain⟨g0,Ux⟩:∃g0,AL=OM ⟨g0,0,Pk⟩:=by
    rcases own.2 with⟨_,h0⟩|⟨g0,_,_,hv,_⟩
    ·omega
    ·exact⟨g0,by cases hv;rfl⟩
   subst Ux;have PU:=iO own k PO;obtain⟨n,hn⟩:∃n,L[k]? = OM n:=⟨L[k],MJ PO⟩;have TB:L.getD k 0=n:=by
    rw[MS,hn];rfl
   rw[TB]at PU;have Qw:=MZ hn;obtain⟨YO,Uh⟩:=HC.out n Qw;have SZ:=aC (a:=(n:Int)) (by omega) (by omega);have Sj:PJ (L.take (k+1)=L.take k++[n]):=by
    rw[Nb,hn];rfl
   have HNP:PJ (n∉L.take k):=fun hm=>by
    obtain⟨i,hi,h⟩:=Nv hm;have hik:i<k:=(by rw[MY]at hi;omega);have h2:L[i]? = OM n:=by
     rw[OV]at h;rw[MJ (by omega),h]
    have h3:=NT.1 HR.out i k (by omega) PO hik;rw[MJ PO]at hn;rw[MJ (by omega)]at h2;have e1:=Option.some.inj hn;have e2:=Option.some.inj h2;omega
   have i1:(0:Int)<=(k:Int):=(by omega);have i2:(k:Int)<(L.length:Int):=(by omega);have RM:(L.take k).length=k:=(by rw[MY];omega);have Uo:=tT wr G YO SZ;have HEE:PJ (∀l,j7 W H bl (n:Int) l->bQ W (n:Int) l=bB (es n)/\l.length=(es n).length):=fun l hl=>by
    obtain⟨l',h1,h2⟩:=hG.1 n YO;have e:=hl.one h1;subst e;rw[h2,jX,NP];exact⟨rfl,rfl⟩
   clear hn TB Qw;go_wp2_with fail;refine Uo.mono ?_;rintro e w5 ⟨v5,l,rfl,Qm,hEL,PV⟩;have G5:=G.below PV;have Qy:=aq own PV;have E5:=E.keep (F:=fun _=>False) (ai.of_below PV) id (fun _ _ _ _ _=>id);have B5:=ak hB PV;obtain⟨w6,abo,YJ,Zx⟩:=E5.em.store aY Tryz.underM (by rw[RM];unfold maxLen;omega) SZ v5;have K6:=aA Zx;have hfn:f (n:Int)=none:=by
    cases hf:f (n:Int) with
    |none=>rfl
    |some u=>exact absurd (by simpa using (E.no _ _ hf).2) HNP.out
   rw[hfn]at YJ;obtain⟨q1,q2⟩:=HEE.out l hEL;have SP:w6.ownsRow w.heap.size 204 4 v5 (es n).length (bB (es n)):=by
    rw[<- q1,<- q2];exact bq (bT Qm hB.size) K6 (bJ Qm E5.em)
   have E6:=E5.add Uh (by rw[RM];omega) K6 YJ SP HNP.out (fun g hg i u hu h=>by
    obtain⟨k1,k2⟩:=E.no i u hu;obtain⟨u',e1,e2⟩:=E.row i.toNat k2;rw[Nl k1,hu]at e1;cases e1;have:=(e2.lt g h).2;have:=(Qm.lt g hg).1;omega)
   rw[<- Sj.out]at E6;have Qh:=bq Qy K6 (bJ Qy E5.em);have B6:PI w.heap.size w w6:=B5.trans (K6.to_below B5.size (fun q e=>by omega));have G6:=HGW.out.below B6;clear Uo Qm hEL PV G G5 own Qy E E5 hB B5 YJ Zx K6 SP q1 q2;go_wp2;go_roundw
   case rel=>exact⟨k+1,_,by omega,by go_num,E6,G6,Qh,B6⟩
   case measure=>simp[intOf];omega
  ·have e:k=L.length:=(by omega);subst e;rw[M9]at E;have hov:=Iq wr E hB.size HR.out HB.out m1 m6;clear own G E;go_wp2_with fail;refine hov.mono ?_;rintro e w5 ⟨rfl,hO,PV⟩;have B5:=hB.trans PV;have HL:=HLD.out _ _ _ _ hO;clear hov hO PV;go_wp2;go_ret2;exact⟨_,rfl,HL,B5⟩
end
section
open Go.RowKit Go.Maps
section
variable {N lb vb eb top n : Nat} {L : List Nat} {st : LSt} {f : Int → Option PH}
theorem JQ (w:PG)(V:cD w N lb vb eb top L st f):PK prog 57 #[.pointer (OM ⟨lb,0,Pk⟩)] w fun e w'=>e=PM (PE PF (top:Int))/\w'=w:=by
 have c0:=V.c0;clear V;generalize (top:Int)=t at *;go_enter func57,ntmps57;go_wp2;go_ret;exact⟨rfl,rfl⟩
theorem pf (w:PG)(V:cD w N lb vb eb top L st f)(hn:n∈L):PK prog 171 #[.pointer (OM ⟨lb,0,Pk⟩),PE PF (n:Int)] w fun e w'=>e=PM (.tuple #[PE PF (st.lev n:Int),.nilIface])/\w'=w:=by
 have c1:=V.c1;have hl:(Instr.lookup 129 (.map (OM vb)) (PE PF (n:Int)) Pm).run prog w=.ok (.tuple #[PE PF (st.lev n:Int),.bool Pm]) w:=V.lv.look_some aY Tryz.underV (kP w) (aC (by omega) (by have:=V.bd n hn;omega)) (rV hn) Pm;clear V;generalize (st.lev n:Int)=t at *;go_enter func171,ntmps171;go_wp2;go_ret2;exact⟨rfl,rfl⟩
theorem Ir (w:PG)(V:cD w N lb vb eb top L st f)(hc:¬(0<=c/\c.toNat∈L))(hw:(Lit.int .i64 c).wf=Pm):PK prog 171 #[.pointer (OM ⟨lb,0,Pk⟩),.int .i64 c] w fun e w'=>e=PM (.tuple #[.int .i64 0,.iface 54 (.int .i64 5)])/\w'=w:=by
 have c1:=V.c1;have hl:(Instr.lookup 129 (.map (OM vb)) (PE PF c) Pm).run prog w=.ok (.tuple #[PE PF 0,.bool PB]) w:=V.lv.look_none aY Tryz.underV (kP w) hw (by unfold lvF;rw[if_neg hc]) Pm;clear V;go_enter func171,ntmps171;go_wp2;go_ret2;exact⟨rfl,rfl⟩
theorem AT (w:PG)(V:cD w N lb vb eb top L st f)(hn:n∈L)(hlen:(st.es n).length<=256):PK prog 176 #[.pointer (OM ⟨lb,0,Pk⟩),PE PF (n:Int)] w fun e w'=>∃v,e=PM (.tuple #[v,.nilIface])/\w'.ownsRow w.heap.size 204 4 v (st.es n).length (bB (st.es n))/\PI w.heap.size w w':=by
 have c2:=V.c2;obtain⟨v,hf,hown⟩:=V.row n hn;have hl:(Instr.lookup 123 (.map (OM eb)) (PE PF (n:Int)) Pm).run prog w=.ok (.tuple #[v,.bool Pm]) w:=V.em.look_some aY Tryz.underM (j6 w) (aC (by omega) (by have:=V.bd n hn;omega)) hf Pm;clear V hf;rcases hown.2 with⟨rfl,h0⟩|⟨g,cap,cur,rfl,_⟩
 ·have Ql:=tR w;have e0:st.es n=[]:=NK.1 h0;have HE:=ae e0;clear hown h0 e0;go_enter func176,ntmps176;go_wp2_with fail;refine Ql.mono ?_;rintro e w1 ⟨rfl,rfl⟩;clear Ql;go_wp2;go_ret2;refine⟨_,rfl,?_,al⟩;rw[HE.out];exact Nj _ _ _ _
 ·have Ql:=tS w (bT hown (MQ _)) (fU _) hlen;generalize (st.es n).length=len at *;clear hown;go_enter func176,ntmps176;go_wp2_with fail;refine Ql.mono ?_;rintro e w1 ⟨v',rfl,PS,hb1⟩;clear Ql;go_wp2;go_ret2;exact⟨_,rfl,PS,hb1⟩
end
end
section
open Go.RowKit Go.Maps Go.Lib
def l5 (w:PG) (a o:Nat) (l:List Nat):Prop:=∀j u,(aH l)[j]? = OM u->w.cell? ((⟨a,o,Pk⟩:Addr).add j)=OM u
theorem l5.below {a:Nat}(h:l5 w a o l)(hb:PI w.heap.size w w'):l5 w' a o l:=fun j u hj=>by
 have h1:=h j u hj;rw[Addr.add_lit]at h1 ⊢;exact ar hb h1
theorem l5.keep {F:Nat->Prop}{a:Nat}(h:l5 w a o l)(K:ai F w w')(hF:¬F a):l5 w' a o l:=fun j u hj=>by
 have h1:=h j u hj;rw[Addr.add_lit]at h1 ⊢;exact K.cellOf h1 hF
theorem iF (l:List Nat):(aH l).length=l.length:=by simp[aH]
theorem kW (l:List Nat):∀u∈aH l,u.oneCell'=true:=by
 intro u hu;simp[aH]at hu;obtain⟨n,_,rfl⟩:=hu;rfl
theorem oF (l l':List Nat):aH (l++l')=aH l++aH l':=by simp[aH]
theorem Is {n:Nat}(w:PG)(h1:0<n)(h2:n<=1000):PK prog 238 #[.slice Pk 0 0,PE PF (n:Int)] w fun e w'=>∃v,e=PM v/\w'.ownsRow w.heap.size 3 1 v 0 (aH [])/\PI w.heap.size w w':=by
 obtain⟨i0,Ws,P0,P3,Qd⟩:=info_parts Tryz.info3;obtain⟨G,hG⟩:∃G,G=grownCap w n 0 3:=⟨_,rfl⟩;have hold:(Builtin.firstCells i0.size 0 (.slice Pk 0 0)).run prog w.drew=.ok ([]:List PH).toArray w.drew:=by
  simp[Builtin.firstCells]
 obtain⟨Sz,Vr⟩:∃Sz:Array PH,Sz=([]:List PH).toArray++Builtin.zeroCells (NB .i64 0).cells n++Builtin.zeroCells (NB .i64 0).cells (G-n):=⟨_,rfl⟩;have hGn:n<=G:=by rw[hG];exact grownCap_ge w _ _ _
 have hGm:G<=maxLen:=by rw[hG];exact grownCap_le_maxLen w _ _ _ (by unfold maxLen;omega)
 have hrz:∀ty,(Builtin.append_ #[51,3] ty #[.slice Pk 0 0,PE PF (n:Int)]).run prog w=.ok (.slice (OM ⟨w.heap.size,0,Pk⟩) n G) (w.drew.alloc (.cells Sz 3)):=fun ty=>by
  have h:=Lib.run_append_grow_zeros w 51 3 ty 3 i0 _ .i64 .i64 underlying51 aY Ws P0 Pk 0 0 [] hold n h1 (by omega) (by omega) (by omega) (by rw[Qd];omega) (by rw[Qd,M8];exact growslice_fits (by omega) (by omega));rw[M8,<- hG]at h;rw[Vr];exact h
 have hRl:Sz.size=G*1:=by
  rw[Vr];simp[Builtin.zeroCells,Value.cells];omega
 have ak8:G<=9223372036854775807:=by unfold maxLen at hGm;omega
 have n1:(0:Int)<(n:Int):=by omega
 have HRL:PJ _:=hRl;have HGM:PJ _:=hGm;clear hG Vr hold hRl hGm;go_enter func238,ntmps238;go_wp2_with (at_builtin;refine Lib.wpList_append_run _ rfl _ _ _ _ rfl _ _ rfl rfl _ _ (hrz _) ?_);go_wp2;go_ret;refine⟨_,rfl,⟨rfl,MF ⟨w.heap.size,G,Sz,rfl,aj,heap_alloc_new w _,MQ _,HGM.out,HRL.out,by simp[aH]⟩⟩,(al.drew).alloc aj _⟩
theorem AU {a1 o1 c1 a2 o2 c2:Nat}{l1 l2:List Nat}(w:PG)(q0:w.cell? ⟨g,0,Pk⟩=OM (.slice (OM ⟨a1,o1,Pk⟩) l1.length c1))(q1:w.cell? ⟨g,1,Pk⟩=OM (.slice (OM ⟨a2,o2,Pk⟩) l2.length c2))(r1:l5 w a1 o1 l1)(r2:l5 w a2 o2 l2)(h1:0<l1.length)(h2:0<l2.length)(b1:l1.length<=300)(b2:l2.length<=300) :
  PK prog 206 #[.slice (OM ⟨g,0,Pk⟩) 2 2] w fun e w'=>∃v,e=PM v/\w'.ownsRow w.heap.size 3 1 v (l1++l2).length (aH (l1++l2))/\PI w.heap.size w w':=by
 obtain⟨i0,hi,P0,P3,Qd⟩:=info_parts Tryz.info3;have ajc:a1<w.heap.size:=by
  have:=r1 0 _ (MJ (by rw[iF];omega));rw[Addr.add_lit]at this;exact aJ this
 have QZ:a2<w.heap.size:=by
  have:=r2 0 _ (MJ (by rw[iF];omega));rw[Addr.add_lit]at this;exact aJ this
 have hgl:g<w.heap.size:=aJ q0;have Tz:=ae r1;have VB:=ae r2;have HLA:PJ ((l1++l2).length=l1.length+l2.length):=MM;clear r1 r2;go_enter func206,ntmps206;go_wp2;go_loopw [3,11] (fun sv iv wr=>PJ (wr=w)/\((sv=PE PF 0/\iv=PE PF 0)\/(sv=PE PF (l1.length:Int)/\iv=PE PF 1)\/(sv=PE PF ((l1.length:Int)+(l2.length:Int))/\iv=PE PF 2)))
  (fun _ i _=>2-(intOf i).toNat)
 case atStart=>exact⟨(rfl:_=_),MG ⟨rfl,rfl⟩⟩
 case round =>
  obtain⟨hww,h|h|h⟩:=hrel
  all_goals
   have hww:=hww.out;subst hww
  ·obtain⟨rfl,rfl⟩:=h;go_wp2;go_roundw
   case rel=>exact⟨by first|exact trivial|exact rfl,MF (MG ⟨rfl,rfl⟩)⟩
   case measure=>simp[intOf]
  ·obtain⟨rfl,rfl⟩:=h;go_wp2;go_roundw
   case rel=>exact⟨by first|exact trivial|exact rfl,MF (MF ⟨rfl,rfl⟩)⟩
   case measure=>simp[intOf]
  ·obtain⟨rfl,rfl⟩:=h;obtain⟨WB,hWB⟩:∃WB,WB=wr:=⟨_,rfl⟩;subst hWB;have hgw:=Is (n:=l1.length+l2.length) WB (by omega) (by omega);rw[Int.natCast_add]at hgw;go_wp2_with fail;refine hgw.mono ?_;rintro e w5 ⟨v5,rfl,Qy,PV⟩;clear hgw;have z5:=PV.size;go_wp2;go_loopw [6,27] (fun nv iv wq=>PI WB.heap.size WB wq/\((iv=PE PF 0/\wq.ownsRow WB.heap.size 3 1 nv 0 (aH []))\/(iv=PE PF 1/\wq.ownsRow WB.heap.size 3 1 nv l1.length (aH l1))\/(iv=PE PF 2/\wq.ownsRow WB.heap.size 3 1 nv (l1++l2).length (aH (l1++l2)))))
    (fun _ i _=>2-(intOf i).toNat)
   case atStart=>exact⟨PV,MG ⟨rfl,Qy⟩⟩
   case round =>
    clear Qy PV z5;obtain⟨hB,h|h|h⟩:=hrel
    ·obtain⟨rfl,Qy⟩:=h;have p:=(hB.cell (p:=⟨g,0,Pk⟩) hgl).trans q0;have src:=Tz.out.below hB;have z:=hB.size;go_wp2_with (at_builtin;refine wpList_append_own _ rfl _ _ 51 rfl WB.heap.size 3 i0 (PE PF 0) 1 8 underlying51 hi P0 P3 Qd rfl (by decide) _ _ _ rfl Qy ⟨a1,o1,Pk⟩ l1.length c1 (aH l1) rfl ?c0 src (kW _) ?c3 ?c4 ?c5 ?_)
     case c0=>rw[iF];omega
     case c3=>unfold maxLen;omega
     case c4=>omega
     case c5=>exact z
     intro v' w6 PS PR _;have B6:PI WB.heap.size WB w6:=hB.grown PR z (fun q hq=>(Qy.lt q hq).1);have O6:w6.ownsRow WB.heap.size 3 1 v' l1.length (aH l1):=by simpa [aH]using PS
     clear PS PR Qy hB src;go_wp2;go_roundw
     case rel=>exact⟨B6,MF (MG ⟨rfl,O6⟩)⟩
     case measure=>simp[intOf]
    ·obtain⟨rfl,Qy⟩:=h;have p:=(hB.cell (p:=⟨g,1,Pk⟩) hgl).trans q1;have src:=VB.out.below hB;have z:=hB.size;go_wp2_with (at_builtin;refine wpList_append_own _ rfl _ _ 51 rfl WB.heap.size 3 i0 (PE PF 0) 1 8 underlying51 hi P0 P3 Qd rfl (by decide) _ _ _ rfl Qy ⟨a2,o2,Pk⟩ l2.length c2 (aH l2) rfl ?c0 src (kW _) ?c3 ?c4 ?c5 ?_)
     case c0=>rw[iF];omega
     case c3=>unfold maxLen;omega
     case c4=>omega
     case c5=>exact z
     intro v' w6 PS PR _;have B6:PI WB.heap.size WB w6:=hB.grown PR z (fun q hq=>(Qy.lt q hq).1);have O6:w6.ownsRow WB.heap.size 3 1 v' (l1++l2).length (aH (l1++l2)):=(by rw[oF,HLA.out];exact PS);clear PS PR Qy hB src;go_wp2;go_roundw
     case rel=>exact⟨B6,MF (MF ⟨rfl,O6⟩)⟩
     case measure=>simp[intOf]
    ·obtain⟨rfl,Qy⟩:=h;go_wp2;go_ret;exact⟨_,rfl,Qy,hB⟩
end
section
open Go.RowKit Go.Maps Go.Lib
theorem Unp.two {es:Nat->List LE}:∀{f a b:Nat}{way:List Nat},Unp es f a b way->2<=way.length/\way.length<=2 ^ f+1
 |0,_,_,_,h=>h.elim
 |f+1,a,b,way,⟨e,_,_,h⟩=>by
  have hp:1<=2 ^ f:=Nat.one_le_two_pow;rcases h with⟨_,rfl⟩|⟨_,w1,w2,h1,h2,rfl⟩
  ·simp only[Nf,List.length_nil,Nat.pow_succ];omega
  ·have k1:=Unp.two h1;have k2:=Unp.two h2;rw[MM,List.length_tail,Nat.pow_succ];omega
theorem It {l:List LE}(hR:Rsg l){e:LE}(he:e∈l):jE l e.to=Pm/\l[eH l e.to]? = OM e:=by
 have h:=(Ik hR (t:=e.to)).2 ⟨e,he,rfl⟩;refine⟨h,?_⟩;unfold jE at h;cases hx:l[eH l e.to]? with
 |none=>rw[hx]at h;cases h
 |some x =>
  rw[hx]at h;have:=hR.one (MZ hx) he (of_decide_eq_true h);rw[this]
theorem pK (w:PG)(et es ed em:Int):PK prog 102 #[.agg #[PE PF et,PE PF es,PE PF ed,PE PF em]] w fun e w'=>e=PM (.bool (decide (0<=em)))/\PI w.heap.size w w':=by
 have B0:=aQ w (PN #[PE PF et,PE PF es,PE PF ed,PE PF em] 204);go_enter func102,ntmps102;go_wp2;go_ret;exact⟨by simp,B0⟩
theorem fg {base:Nat}(h:w.ownsRow base 3 1 v l.length (aH l))(hl:0<l.length):∃g cap,v=.slice (OM ⟨g,0,Pk⟩) l.length cap/\l5 w g 0 l/\base<=g/\g<w.heap.size/\l.length<=cap/\cap<=9223372036854775807:=by
 rcases h.2 with⟨_,h0⟩|⟨g,cap,cur,rfl,hb,hg,h1,h2,_⟩
 ·omega
 ·exact⟨g,cap,rfl,fun j u hj=>h.cells (g:=g) rfl j u hj,hb,(Na.1 hg).1,h1,by unfold maxLen at h2;omega⟩
theorem l5.tail {a:Nat}(h:l5 w a o l):l5 w a (o+1) l.tail:=fun j u hj=>by
 have h1:=h (j+1) u (by
  cases l with
  |nil=>simp[aH]at hj
  |cons x l=>simpa [aH]using hj)
 rw[Addr.add_lit]at h1 ⊢;rw[show o+1+j=o+(j+1) by omega];exact h1
theorem mO {st:LSt}(hR:∀a,Rsg (st.es a))(hC:∀{a e},e∈st.es a->a∈L/\e.to∈L)(hl:∀a,(st.es a).length<=256)(hLb:∀n∈L,n<256):∀(F a b:Nat) (way:List Nat) (w:PG),F<=7->Unp st.es F a b way->cD w N lb vb eb top L st f ->
  PK prog 179 #[.pointer (OM ⟨lb,0,Pk⟩),PE PF (a:Int),PE PF (b:Int)] w fun e w'=>∃v,e=PM (.tuple #[v,.nilIface])/\w'.ownsRow w.heap.size 3 1 v way.length (aH way)/\PI w.heap.size w w'
 |0,_,_,_,_,_,hu,_=>hu.elim
 |F+1,a,b,way,w,hF,hu,V=>by
  obtain⟨e,he,het,QS⟩:=hu;subst het;have haL:=(hC he).1;have VO:=aC (a:=(a:Int)) (by omega) (by have:=hLb a haL;omega);obtain⟨A,cap,Ze,QR,T9⟩:=V.edges haL;have c2:=V.c2;have Ry:=tY (cap:=cap) (t:=e.to) w QR (hl a) (hR a);obtain⟨hh,hp⟩:=It (hR a) he;rw[hh]at Ry;have hps:eH (st.es a) e.to<(st.es a).length:=(Np.1 hp).1;generalize eH (st.es a) e.to=ps at *;clear hh;go_enter func179,ntmps179;go_wp2_with fail;refine Ry.mono ?_;rintro r w1 ⟨rfl,hb1⟩;have V1:=V.below hb1;have c21:=V1.c2;have UM:=QR.below hb1;have Ut:(Instr.lookup 123 (.map (OM eb)) (PE PF (a:Int)) PB).run prog w1=.ok (.slice A (st.es a).length cap) w1:=V1.em.look_some aY Tryz.underM (j6 _) VO T9 PB;obtain⟨bb,o,rfl,q1,q2,q3,q4⟩:=UM ps e hp;have p1:(0:Int)<=(ps:Int):=by omega
  have p2:(ps:Int)<((st.es a).length:Int):=by omega
  have b2:=aQ w1 (PN #[PE PF (e.to:Int),PE PF e.s,PE PF e.d,PE PF e.mid] 204);have y3:(w1.alloc (PN #[PE PF (e.to:Int),PE PF e.s,PE PF e.d,PE PF e.mid] 204)).cell? ⟨w1.heap.size,3,Pk⟩=OM (PE PF e.mid):=ME _ _ _ 3 rfl;have Sg:=pK (w1.alloc (PN #[PE PF (e.to:Int),PE PF e.s,PE PF e.d,PE PF e.mid] 204)) (e.to:Int) e.s e.d e.mid;have B2:=ak hb1 b2;clear Ry Ze c2 QR UM hp T9;rcases QS with⟨hm,rfl⟩|⟨hm,y1,y2,u1,u2,rfl⟩
  ·rw[decide_eq_false (by omega)]at Sg;go_wp2_with fail;refine Sg.mono ?_;rintro r w3 ⟨rfl,hb3⟩;have B3:=ak B2 hb3;clear Sg hb3;go_wp2;go_ret2;refine⟨_,rfl,?_,B3.alloc B3.size _⟩;have:=World.ownsRow_lit (base:=w.heap.size) (e:=3) (size:=1) w3 #[PE PF (a:Int),PE PF (e.to:Int)] 2 B3.size (by unfold maxLen;omega) rfl;exact this
  ·obtain⟨mn,VK⟩:∃mn:Nat,e.mid=(mn:Int):=⟨e.mid.toNat,by omega⟩;have hmt:e.mid.toNat=mn:=(by omega);rw[hmt]at u1 u2;rw[decide_eq_true hm,VK]at Sg;rw[VK]at y3 q4;have k1:=u1.two;have k2:=u2.two;have hF2:2 ^ F<=64:=by
    have:=Nat.pow_le_pow_right (show 0<2 by decide) (show F<=6 by omega)
    simpa using this
   rw[VK]at B2;have HN:=ae VK;clear VK hmt hm;go_wp2_with fail;refine Sg.mono ?_;rintro r w3 ⟨rfl,hb3⟩;have B3:=ak B2 hb3;have V3:=V.below B3;have z3:=ar hb3 y3;have hu1:=mO hR hC hl hLb F a mn y1 w3 (by omega) u1 V3;clear Sg hb3 y3 b2;go_wp2_with fail;refine hu1.mono ?_;rintro r w4 ⟨v4,rfl,QG,QB⟩;have B4:=ak B3 QB;have V4:=V.below B4;have z4:=ar QB z3;have hu2:=mO hR hC hl hLb F mn e.to y2 w4 (by omega) u2 V4;obtain⟨g4,QY,rfl,r4,TN,as6,hc4,as7⟩:=fg QG (by omega);clear hu1 QG QB V3 z3;go_wp2_with fail;refine hu2.mono ?_;rintro r w5 ⟨v5,rfl,Qy,PV⟩;have B5:=ak B4 PV;obtain⟨g5,Q6,rfl,r5,RU,as8,XI,as9⟩:=fg Qy (by omega);have r45:=r4.below PV;have t5:=r5.tail;have Vd:¬Q6=1:=(by omega);have Xh:0<y2.length:=(by omega);have XT:1<=y2.length:=(by omega);have hy2:(1:Int)<=(y2.length:Int):=(by omega);have Ze:y1.length<=300:=(by omega);have alq:0<y1.length:=(by omega);have Ut:y2.length<=300:=(by omega);have atb:2<=y2.length:=(by omega);have htl:PJ (y2.length-1=y2.tail.length):=(by unfold PJ;rw[List.length_tail]);clear hu2 Qy PV V4 z4 r4 r5 k1 k2 hF2;go_wp2_with fail;have b6:=aQ w5 (PN #[.slice (OM ⟨g4,0,Pk⟩) y1.length QY,.slice (OM ⟨g5,1,Pk⟩) (y2.length-1) (Q6-1)] 51);have q0:(w5.alloc (PN #[.slice (OM ⟨g4,0,Pk⟩) y1.length QY,.slice (OM ⟨g5,1,Pk⟩) (y2.length-1) (Q6-1)] 51)).cell? ⟨w5.heap.size,0,Pk⟩=OM (.slice (OM ⟨g4,0,Pk⟩) y1.length QY):=ME _ _ _ 0 rfl;have q1:(w5.alloc (PN #[.slice (OM ⟨g4,0,Pk⟩) y1.length QY,.slice (OM ⟨g5,1,Pk⟩) (y2.length-1) (Q6-1)] 51)).cell? ⟨w5.heap.size,1,Pk⟩=OM (.slice (OM ⟨g5,1,Pk⟩) y2.tail.length (Q6-1)):=by
    rw[ME _ _ _ 1 rfl];exact congrArg OM (congrArg (fun z=>Ny (OM ⟨g5,1,Pk⟩) z (Q6-1)) htl)
   have e1:0<y2.tail.length:=(by rw[List.length_tail];omega);have e2:y2.tail.length<=300:=(by rw[List.length_tail];omega);have agC:=AU (l1:=y1) (l2:=y2.tail) _ q0 q1 (r45.below b6) (t5.below b6) alq e1 Ze e2;have B6:=ak B5 b6;refine agC.mono ?_;rintro r w6 ⟨v6,rfl,Qh,Qr⟩;have B7:=ak B6 Qr;clear agC q0 q1 e1 e2;go_wp2;go_ret2;refine⟨_,rfl,?_,B7⟩;exact bT Qh B6.size
end
section
open Go.RowKit
def av (A:Int->Option Int):Int->Option Value:=fun a=>(A a).map fun n=>PE PF n
theorem Cu {A:Int->Option Int}{n:Int}(h:A a=OM n):av A a=OM (PE PF n):=by unfold av;rw[h];rfl
theorem Cv {A:Int->Option Int}(h:A a=Pk):av A a=none:=by unfold av;rw[h];rfl
theorem Ln (A:Int->Option Int)(a n:Int):bL (av A) a (PE PF n)=av (lZ A a n):=by
 funext i
 unfold bL av lZ;by_cases e:i=a
 ·rw[if_pos e,if_pos e];rfl
 ·rw[if_neg e,if_neg e]
structure SBk where
 sb:Nat
 cb:Nat
 ab:Nat
 hb:Nat
 mb:Nat
structure bh (w:PG) (N:Nat) (k:SBk) (lb r:Nat) (gv v:PH) (nh na:Nat) (x:SS):Prop where
 c0:w.cell? ⟨k.sb,0,Pk⟩=OM (.pointer (OM ⟨lb,0,Pk⟩))
 c1:w.cell? ⟨k.sb,1,Pk⟩=OM (PE PF (r:Int))
 c2:w.cell? ⟨k.sb,2,Pk⟩=OM gv
 c3:w.cell? ⟨k.sb,3,Pk⟩=OM (.map (OM k.cb))
 c4:w.cell? ⟨k.sb,4,Pk⟩=OM (.map (OM k.ab))
 c5:w.cell? ⟨k.sb,5,Pk⟩=OM (.pointer (OM ⟨k.hb,0,Pk⟩))
 fm:aZ prog 3 w k.cb (fv x.F) (cnt x.F 256)
 am:aZ prog 3 w k.ab (av x.A) na
 hp:bS w k.hb k.mb v nh x.H
 nb:N<=k.sb/\N<=k.cb/\N<=k.ab/\N<=k.hb/\N<=k.mb
 n1:k.sb≠k.cb/\k.sb≠k.ab/\k.sb≠k.hb/\k.sb≠k.mb
 n2:k.cb≠k.ab/\k.cb≠k.hb/\k.cb≠k.mb
 n3:k.ab≠k.hb/\k.ab≠k.mb
 vo:∀g,v.ownBlock=OM g->N<=g/\g≠k.sb/\g≠k.cb/\g≠k.ab
def sb5 (k:SBk) (v:PH) (g:Nat):Prop:=g=k.cb\/g=k.ab\/hb3 k.hb k.mb v g
section
variable {w w' : PG} {N : Nat} {k : SBk} {lb r : Nat} {gv v v' : PH} {nh Sp na : Nat} {x : SS}
theorem bh.keep {F:Nat->Prop}(S:bh w N k lb r gv v nh na x)(K:ai F w w')(h0:¬F k.sb)(h1:∀g,sb5 k v g->¬F g):bh w' N k lb r gv v nh na x :=
 ⟨K.cellOf S.c0 h0,K.cellOf S.c1 h0,K.cellOf S.c2 h0,K.cellOf S.c3 h0,K.cellOf S.c4 h0,K.cellOf S.c5 h0,S.fm.keep K (h1 _ (MG rfl)),S.am.keep K (h1 _ (MF (MG rfl))),S.hp.keep K (h1 _ (MF (MF (MG rfl)))) (h1 _ (MF (MF (MF (MG rfl))))) (fun g hg=>h1 g (MF (MF (MF (MF hg))))),S.nb,S.n1,S.n2,S.n3,S.vo⟩
theorem bh.below (S:bh w N k lb r gv v nh na x)(hb:PI w.heap.size w w'):bh w' N k lb r gv v nh na x:=S.keep (F:=fun _=>False) (ai.of_below hb) id (fun _ _=>id)
theorem bh.from (S:bh w N k lb r gv v nh na x):∀g,sb5 k v g->N<=g/\g≠k.sb:=by
 obtain⟨a1,a2,a3,a4,a5⟩:=S.nb;obtain⟨b1,b2,b3,b4⟩:=S.n1;rintro g (rfl|rfl|rfl|rfl|h)
 ·exact⟨a2,fun e=>b1 e.symm⟩
 ·exact⟨a3,fun e=>b2 e.symm⟩
 ·exact⟨a4,fun e=>b3 e.symm⟩
 ·exact⟨a5,fun e=>b4 e.symm⟩
 ·exact⟨(S.vo g h).1,(S.vo g h).2.1⟩
theorem bh.to_below (S:bh w N k lb r gv v nh na x)(K:ai (sb5 k v) w w'):PI N w w':=K.to_below (by have:=S.nb.1;have:k.sb<w.heap.size:=aJ S.c0;omega) (fun g hg=>(S.from g hg).1)
theorem bh.cost (S:bh w N k lb r gv v nh na x){F':Int->Option (Int×Int)}(K:ai (fun g=>g=k.cb) w w')(fm:aZ prog 3 w' k.cb (fv F') (cnt F' 256)):bh w' N k lb r gv v nh na ⟨F',x.A,x.H⟩:=by
 obtain⟨b1,b2,b3,b4⟩:=S.n1;obtain⟨d1,d2,d3⟩:=S.n2;exact⟨K.cellOf S.c0 b1,K.cellOf S.c1 b1,K.cellOf S.c2 b1,K.cellOf S.c3 b1,K.cellOf S.c4 b1,K.cellOf S.c5 b1,fm,S.am.keep K (fun e=>d1 e.symm),S.hp.keep K (fun e=>d2 e.symm) (fun e=>d3 e.symm) (fun g hg=>(S.vo g hg).2.2.1),S.nb,S.n1,S.n2,S.n3,S.vo⟩
theorem bh.ahead (S:bh w N k lb r gv v nh na x){A':Int->Option Int}{na':Nat}(K:ai (fun g=>g=k.ab) w w')(am:aZ prog 3 w' k.ab (av A') na'):bh w' N k lb r gv v nh na' ⟨x.F,A',x.H⟩:=by
 obtain⟨b1,b2,b3,b4⟩:=S.n1;obtain⟨d1,d2,d3⟩:=S.n2;obtain⟨e1,e2⟩:=S.n3;exact⟨K.cellOf S.c0 b2,K.cellOf S.c1 b2,K.cellOf S.c2 b2,K.cellOf S.c3 b2,K.cellOf S.c4 b2,K.cellOf S.c5 b2,S.fm.keep K d1,am,S.hp.keep K (fun e=>e1 e.symm) (fun e=>e2 e.symm) (fun g hg=>(S.vo g hg).2.2.2),S.nb,S.n1,S.n2,S.n3,S.vo⟩
theorem bh.heap (S:bh w N k lb r gv v nh na x){H':Int->Option (Int×Int)}(K:ai (hb3 k.hb k.mb v) w w')(hp:bS w' k.hb k.mb v' Sp H')(ho:∀g,v'.ownBlock=OM g->v.ownBlock=OM g\/w.heap.size<=g)(hN:N<=w.heap.size):bh w' N k lb r gv v' Sp na ⟨x.F,x.A,H'⟩:=by
 obtain⟨b1,b2,b3,b4⟩:=S.n1;obtain⟨d1,d2,d3⟩:=S.n2;obtain⟨e1,e2⟩:=S.n3;have ls:k.sb<w.heap.size:=aJ S.c0;have lc:=S.fm.lt;have la:=S.am.lt;have hs:¬hb3 k.hb k.mb v k.sb:=by
  rintro (h|h|h)
  ·exact b3 h
  ·exact b4 h
  ·exact(S.vo _ h).2.1 rfl
 have hc:¬hb3 k.hb k.mb v k.cb:=by
  rintro (h|h|h)
  ·exact d2 h
  ·exact d3 h
  ·exact(S.vo _ h).2.2.1 rfl
 have ha:¬hb3 k.hb k.mb v k.ab:=by
  rintro (h|h|h)
  ·exact e1 h
  ·exact e2 h
  ·exact(S.vo _ h).2.2.2 rfl
 refine⟨K.cellOf S.c0 hs,K.cellOf S.c1 hs,K.cellOf S.c2 hs,K.cellOf S.c3 hs,K.cellOf S.c4 hs,K.cellOf S.c5 hs,S.fm.keep K hc,S.am.keep K ha,hp,S.nb,S.n1,S.n2,S.n3,fun g hg=>?_⟩;rcases ho g hg with h|h
 ·exact S.vo g h
 ·exact⟨by omega,by omega,by omega,by omega⟩
end
def AV (w0:PG) (N gf:Nat) (cs:List PH) (g:Int->Int×Int):Prop:=(∀(args:Array PH) (w:PG),(callFunc gf args).run prog w=.ok (.enter gf args) w)/\∀(w:PG) (n:Nat),PI N w0 w->n<256->PK prog gf (PE PF (n:Int)::cs).toArray w fun e w'=>e=PM (.agg #[PE PF (g n).1,PE PF (g n).2])/\PI w.heap.size w w'
theorem tZ {Ng:Nat}{k:SBk}{r na n:Nat}{g:Int->Int×Int}{x:SS}{s d:Int}(w0 w:PG)(S:bh w N k lb r (.func (.func gf) #[] cs.toArray) v nh na x)(hg:AV w0 Ng gf cs g)(hNN:Ng<=N)(hB:PI Ng w0 w)(hn:n<256)(hc:okC s d)(hF:∀{p q},x.F (n:Int)=OM (p,q)->okC p q)(hgn:okC (g n).1 (g n).2)(hk:okC (s+(g n).1) (d+(g n).2))(hnh:nh<1000000) :
  PK prog 173 #[.pointer (OM ⟨k.sb,0,Pk⟩),PE PF (n:Int),.agg #[PE PF s,PE PF d]] w fun e w'=>e=PM (.bool (bF x.F (n:Int) s d))/\∃v' Sp,bh w' N k lb r (.func (.func gf) #[] cs.toArray) v' Sp na (eN g x (n:Int) s d)/\Sp<=nh+1/\ai (sb5 k v) w w'/\∀g,v'.ownBlock=OM g->v.ownBlock=OM g\/w.heap.size<=g:=by
 have SZ:=aC (a:=(n:Int)) (by omega) (by omega);have b0:=aQ w (PN #[PE PF s,PE PF d] 53);have S0:=S.below b0;have sl0:=bz.new w s d;have q3:=S0.c3;have l0:=sl0.c0;have l1:=sl0.c1;have Rj:=iA x.F 256;have U9:N<=w.heap.size:=by have:=S.nb.1;have:k.sb<w.heap.size:=aJ S.c0;omega
 obtain⟨gs,gd,ZL⟩:∃gs gd,g (n:Int)=(gs,gd):=⟨_,_,rfl⟩;have UI:bF x.F (n:Int) s d=Pm->eN g x (n:Int) s d=⟨aB x.F (n:Int) s d,x.A,pushH x.H (n:Int) (s+gs) (d+gd)⟩:=fun h=>by
  unfold eN;rw[if_pos h,ZL]
 rw[ZL]at hgn hk;have agE:¬hb3 k.hb k.mb v k.sb:=fun h=>(S.from _ (MF (MF h))).2 rfl;have Xv:¬hb3 k.hb k.mb v w.heap.size:=fun h=>absurd (As S.hp h) (NJ _);rcases hx:x.F (n:Int) with _|⟨p,q⟩
 have hl:(Instr.lookup 225 (.map (OM k.cb)) (PE PF (n:Int)) Pm).run prog (w.alloc (PN #[PE PF s,PE PF d] 53))=.ok (.tuple #[.agg #[PE PF 0,PE PF 0],.bool PB]) (w.alloc (PN #[PE PF s,PE PF d] 53)):=S0.fm.look_none aY Tryz.underK (jD _) SZ (jR hx) Pm;have e1:bF x.F (n:Int) s d=true:=eJ.2 (fun p q h=>by rw[hx]at h;cases h);rw[UI e1,e1];have hcq:∀{ww:PG}{f:Int->Option PH},aZ prog 3 ww k.cb f (if (fv x.F (n:Int)).isSome then cnt x.F 256 else cnt x.F 256+1)->aZ prog 3 ww k.cb f (cnt (aB x.F (n:Int) s d) 256):=fun h=>by
  rw[jR hx]at h;rw[fY x.F (n:Int) s d 256 (by omega) (by omega) hx];exact h
 have bA:=b0.alloc b0.size (PN #[PE PF 0,PE PF 0] 53);have slA:bz ((w.alloc (PN #[PE PF s,PE PF d] 53)).alloc (PN #[PE PF 0,PE PF 0] 53)) w.heap.size s d:=sl0.below (al.alloc aj _);clear UI e1 hF;go_enter func173,ntmps173;go_wp2_with fail;clear hl S0 q3 l0 l1;generalize (w.alloc (PN #[PE PF s,PE PF d] 53)).alloc (PN #[PE PF 0,PE PF 0] 53)=wA at *
 rotate_left
 have hl:(Instr.lookup 225 (.map (OM k.cb)) (PE PF (n:Int)) Pm).run prog (w.alloc (PN #[PE PF s,PE PF d] 53))=.ok (.tuple #[.agg #[PE PF p,PE PF q],.bool Pm]) (w.alloc (PN #[PE PF s,PE PF d] 53)):=S0.fm.look_some aY Tryz.underK (jD _) SZ (gP hx) Pm;have okp:=hF hx;have b1:=b0.alloc b0.size (PN #[PE PF p,PE PF q] 53);have Wu:bz ((w.alloc (PN #[PE PF s,PE PF d] 53)).alloc (PN #[PE PF p,PE PF q] 53)) w.heap.size s d:=sl0.below (al.alloc aj _);have RO:bz ((w.alloc (PN #[PE PF s,PE PF d] 53)).alloc (PN #[PE PF p,PE PF q] 53)) (w.heap.size+1) p q:=by
  have h:=bz.new (w.alloc (PN #[PE PF s,PE PF d] 53)) p q;have e:(w.alloc (PN #[PE PF s,PE PF d] 53)).heap.size=w.heap.size+1:=by simp
  rw[e]at h;exact h
 have m0:=Wu.c0;have m1:=Wu.c1;have m2:=RO.c0;have m3:=RO.c1;have PO:=jU (r:=bF x.F (n:Int) s d) (s:=s) (d:=d) (t:=p) (u:=q) (by
  unfold bF;rw[hx];show ltB s d p q=decide (val s d<val p q);cases hb:ltB s d p q with
  |true=>exact(decide_eq_true ((ew hc okp).1 hb)).symm
  |false=>exact(decide_eq_false (fun h=>by rw[(ew hc okp).2 h]at hb;cases hb)).symm) ((w.alloc (PN #[PE PF s,PE PF d] 53)).alloc (PN #[PE PF p,PE PF q] 53)) hc okp
 rcases e1:bF x.F (n:Int) s d with _|_
 ·have Se:eN g x (n:Int) s d=x:=by unfold eN;rw[e1];rfl
  rw[Se];rw[e1]at PO;clear UI hx hF Se;go_enter func173,ntmps173;go_wp2_with fail;refine PO.mono ?_;rintro e w3 ⟨rfl,agF⟩;have b3:=b1.trans (agF.mono b1.size);have S3:=S.below b3;clear PO hl S0 q3 l0 l1 m0 m1 m2 m3 Wu RO agF b1;go_wp2;go_ret;exact⟨rfl,v,nh,S3,by omega,ai.of_below b3,fun _ h=>MG h⟩
 rw[UI e1];rw[e1]at PO;have hcq:∀{ww:PG}{f:Int->Option PH},aZ prog 3 ww k.cb f (if (fv x.F (n:Int)).isSome then cnt x.F 256 else cnt x.F 256+1)->aZ prog 3 ww k.cb f (cnt (aB x.F (n:Int) s d) 256):=fun h=>by
  rw[gP hx]at h;rw[iB x.F (n:Int) s d 256 (by rw[hx];rfl)];exact h
 clear UI hx hF e1;go_enter func173,ntmps173;go_wp2_with fail;refine PO.mono ?_;rintro e wA ⟨rfl,Zu⟩;have bA:=ak b1 Zu;have slA:=Wu.below Zu;clear PO hl S0 q3 l0 l1 m0 m1 m2 m3 Wu RO Zu b1;go_wp2_with fail
 all_goals
  have S1:=(S.below bA).below (w':=wA.drew) (al.drew);have Xd:bz wA.drew w.heap.size s d:=slA.below (al.drew);obtain⟨w2,Yp,Uf,Wo⟩:=S1.fm.store aY Tryz.underK (by unfold maxLen;omega) SZ (.agg #[PE PF s,PE PF d]);have BN1:PI N w wA.drew:=(bA.mono U9).drew;have q3:=S1.c3;have l0:=Xd.c0;have l1:=Xd.c1;go_region;go_wp2_with fail;have K2:=aA Wo;have S2:=S1.cost (F':=aB x.F (n:Int) s d) K2 (by rw[<- uR];exact hcq Uf);have B2:PI N w w2:=BN1.trans (K2.to_below (M5 U9 BN1.size) (fun g hg=>by rw[hg];exact S.nb.2.1));have Wu:=Xd.keep K2 (by have:=S.fm.lt;omega);have K03:ai (sb5 k v) w w2.drew:=((((ai.of_below bA).drew:ai (sb5 k v) w wA.drew).trans K2 (fun _ _ h=>MG h))).drew;have S3:=S2.below (w':=w2.drew) (al.drew);have B3:PI N w w2.drew:=B2.drew;have RO:bz w2.drew w.heap.size s d:=Wu.below (al.drew);have t0:=S3.c2;have t1:=S3.c5;have t2:=RO.c0;have t3:=RO.c1;have TT:=hg.2 w2.drew n (hB.trans (B3.mono hNN)) hn;rw[ZL]at TT;have hcf:=hg.1 (PE PF (n:Int)::cs).toArray w2.drew;have QF:PJ (∀Tq,_):=fun Tq=>jF s d gs gd Tq hc hgn;have Vp:PJ (∀Sw,bS Sw k.hb k.mb v nh x.H->_):=fun Sw h=>yf (n:Int) (s+gs) (d+gd) Sw h hk SZ hnh;have HS3:PJ _:=S3;have hNz:N<=w2.drew.heap.size:=M5 U9 B3.size;clear S3 S2 S1 S RO Wu Xd sl0 slA K2 Wo Uf Yp BN1 B2 bA b0 hcq q3 l0 l1;go_region_held3 (fun w'=>w'.cell? ⟨k.sb,2,Pk⟩=OM (.func (.func gf) #[] cs.toArray)/\w'.cell? ⟨k.sb,5,Pk⟩=OM (.pointer (OM ⟨k.hb,0,Pk⟩))/\w'.cell? ⟨w.heap.size,0,Pk⟩=OM (PE PF s)/\w'.cell? ⟨w.heap.size,1,Pk⟩=OM (PE PF d)) (first|exact⟨t0,t1,t2,t3⟩|exact⟨u0,u1,u2,u3⟩|exact⟨x0,x1,x2,x3⟩|exact⟨z0,z1,z2,z3⟩)
   (first
    |(go_at_call 177;refine(QF.out Tq).mono ?_;rintro r Sw ⟨rfl,QW⟩;have x0:=ar QW u0;have x1:=ar QW u1;have x2:=ar QW u2;have x3:=ar QW u3;have UZ:=ak QJ QW)
    |(go_at_call 202;refine(Vp.out Sw (HS3.out.hp.below UZ)).mono ?_;rintro r w12 ⟨rfl,alw,Wm⟩;have z0:=Wm.cellOf x0 agE;have z1:=Wm.cellOf x1 agE;have z2:=Wm.cellOf x2 Xv;have z3:=Wm.cellOf x3 Xv)
    |(refine TT.mono ?_;rintro r Tq ⟨rfl,QJ⟩;have u0:=ar QJ t0;have u1:=ar QJ t1;have u2:=ar QJ t2;have u3:=ar QJ t3))
  obtain⟨v12,n12,agH,agI,Xy⟩:=alw;have S12:=(HS3.out.below UZ).heap Wm agH Xy (M5 hNz UZ.size);have K04:=K03.below UZ;have K05:=K04.trans Wm (fun _ _ h=>MF (MF h));have HO:PJ (∀g,v12.ownBlock=OM g->v.ownBlock=OM g\/w.heap.size<=g):=fun g hg=>by
   rcases Xy g hg with h|h
   ·exact MG h
   ·exact MF (M5 K04.size h)
  clear t0 t1 t2 t3 u0 u1 u2 u3 x0 x1 x2 x3 z0 z1 z2 z3 Wm agH Xy HS3 TT hcf QF Vp QJ QW UZ B3 K03 K04;go_wp2;go_ret;exact⟨rfl,v12,n12,S12,agI,K05,HO.out⟩
end
section
open Go.RowKit
theorem mP (n:Int)(w:PG):PK prog 201 #[PE PF n] w fun e w'=>e=PM (.bool (decide (0<=n/\n<=1048576)))/\w'=w:=by
 by_cases h:0<=n
 ·by_cases k:n<=1048576
  ·rw[decide_eq_true (show 0<=n/\n<=1048576 from ⟨h,k⟩)];go_enter func201,ntmps201;go_wp2;go_ret;exact⟨rfl,rfl⟩
  ·rw[decide_eq_false (show ¬(0<=n/\n<=1048576) from fun g=>k g.2)];go_enter func201,ntmps201;go_wp2;go_ret;exact⟨rfl,rfl⟩
 ·rw[decide_eq_false (show ¬(0<=n/\n<=1048576) from fun g=>h g.1)];go_enter func201,ntmps201;go_wp2;go_ret;exact⟨rfl,rfl⟩
theorem vc (s d:Int)(w:PG)(h:inC s d):PK prog 172 #[.agg #[PE PF s,PE PF d]] w fun e w'=>e=PM .nilIface/\PI w.heap.size w w':=by
 obtain⟨h1,h2,h3,h4⟩:=h;have e1:decide (0<=s/\s<=1048576)=true:=decide_eq_true ⟨h1,h2⟩;have e2:decide (0<=d/\d<=1048576)=true:=decide_eq_true ⟨h3,h4⟩;go_enter func172,ntmps172;go_wp2_with (go_at_call 201;refine(mP _ _).mono ?_;rintro e w' ⟨rfl,rfl⟩);go_ret;exact⟨rfl,al.alloc aj _⟩
theorem sI (s d:Int)(w:PG)(h:¬inC s d):PK prog 172 #[.agg #[PE PF s,PE PF d]] w fun e w'=>e=PM (.iface 54 (PE PF 1))/\PI w.heap.size w w':=by
 by_cases g:0<=s/\s<=1048576
 ·have e1:decide (0<=s/\s<=1048576)=true:=decide_eq_true g;have e2:decide (0<=d/\d<=1048576)=false:=decide_eq_false fun k=>h ⟨g.1,g.2,k.1,k.2⟩;clear g h;go_enter func172,ntmps172;go_wp2_with (go_at_call 201;refine(mP _ _).mono ?_;rintro e w' ⟨rfl,rfl⟩);go_ret;exact⟨rfl,al.alloc aj _⟩
 ·have e1:decide (0<=s/\s<=1048576)=false:=decide_eq_false g;clear g h;go_enter func172,ntmps172;go_wp2_with (go_at_call 201;refine(mP _ _).mono ?_;rintro e w' ⟨rfl,rfl⟩);go_ret;exact⟨rfl,al.alloc aj _⟩
def sJ (w:PG) (A:Option Addr) (l:List IE):Prop:=∀(i:Nat) (e:IE),l[i]? = OM e->(Lit.int .i64 e.to).wf=Pm/\∃b o,A=OM ⟨b,o,Pk⟩/\w.cell? ⟨b,o+i*4,Pk⟩=OM (.int .i64 e.to)/\w.cell? ⟨b,o+i*4+1,Pk⟩=OM (.int .i64 e.s)/\w.cell? ⟨b,o+i*4+2,Pk⟩=OM (.int .i64 e.d)/\w.cell? ⟨b,o+i*4+3,Pk⟩=OM (.int .i64 e.mid)
theorem sJ.below {l:List IE}(h:sJ w A l)(hN:w.heap.size<=N)(hb:PI N w w'):sJ w' A l:=fun i e hi=>by
 obtain⟨q,b,o,e0,h1,h2,h3,h4⟩:=h i e hi;have PO:b<N:=MN (aJ h1) hN;exact⟨q,b,o,e0,(hb.cell (p:=⟨b,_,Pk⟩) PO).trans h1,(hb.cell (p:=⟨b,_,Pk⟩) PO).trans h2,(hb.cell (p:=⟨b,_,Pk⟩) PO).trans h3,(hb.cell (p:=⟨b,_,Pk⟩) PO).trans h4⟩
theorem AW (L:List Nat)(g:Int->Int×Int){l:List IE}{i:Nat}{e:IE}(h:l[i]? = OM e):dR L g (l.take (i+1))=kU L g (dR L g (l.take i)) e:=by
 unfold dR;rw[Nb,h,List.foldl_append];rfl
theorem ua {N0:Nat}{lv:LSt}{g:Int->Int×Int}{l:List IE}(w0 w:PG)(V0:cD w0 N0 lb vb eb top L lv f)(O:eT L lv)(hg:AV w0 w0.heap.size gf cs g)(hB:PI w0.heap.size w0 w)(PT:sJ w A l)(hl:l.length<=1000)(Uk:∀n:Nat,0<=(g n).1/\(g n).1<=1024/\0<=(g n).2/\(g n).2<=1024) :
  PK prog 131 #[.pointer (OM ⟨lb,0,Pk⟩),.slice A l.length cap,PE PF (r:Int),.func (.func gf) #[] cs.toArray] w fun e w'=>∃k v nh,e=PM (.pointer (OM ⟨k.sb,0,Pk⟩))/\bh w' w.heap.size k lb r (.func (.func gf) #[] cs.toArray) v nh 0 (dR L g l)/\nh<=l.length/\PI w.heap.size w w':=by
 have Tl:=@run_makeMap prog;have b0:PI w.heap.size w ((w.alloc (.map #[] 0)).alloc (.map #[] 0)):=(al.alloc aj _).alloc (by simp) _;have P0:((w.alloc (.map #[] 0)).alloc (.map #[] 0)).heap.size=w.heap.size+2:=by simp
 have M0:aZ prog 3 ((w.alloc (.map #[] 0)).alloc (.map #[] 0)) w.heap.size (fv fun _=>Pk) (cnt (fun _=>Pk) 256):=by
  rw[jg];exact(aZ.made w prog 3).keep (F:=fun _=>False) ((ai.refl _ _).alloc _) id
 have M1:aZ prog 3 ((w.alloc (.map #[] 0)).alloc (.map #[] 0)) (w.heap.size+1) (av fun _=>Pk) 0:=by
  have h:=aZ.made (w.alloc (.map #[] 0)) prog 3;have e:(w.alloc (.map #[] 0)).heap.size=w.heap.size+1:=by simp
  rw[e]at h;exact h
 have QU:=Ci ((w.alloc (.map #[] 0)).alloc (.map #[] 0));rw[P0]at QU;go_enter func131,ntmps131;go_wp2_with fail;generalize (w.alloc (.map #[] 0)).alloc (.map #[] 0)=wa at *;refine QU.mono ?_;rintro e w1 ⟨rfl,HA,hb1,P3⟩;have b1:PI wa.heap.size wa w1:=by rw[P0];exact hb1
 have B1:=ak b0 b1;have BW:PI w.heap.size w (w1.alloc (PN #[.pointer (OM ⟨lb,0,Pk⟩),PE PF (r:Int),.func (.func gf) #[] cs.toArray,.map (OM w.heap.size),.map (OM (w.heap.size+1)),.pointer (OM ⟨w.heap.size+2+1,0,Pk⟩)] 228)):=B1.alloc B1.size _;have bw:=aQ w1 (PN #[.pointer (OM ⟨lb,0,Pk⟩),PE PF (r:Int),.func (.func gf) #[] cs.toArray,.map (OM w.heap.size),.map (OM (w.heap.size+1)),.pointer (OM ⟨w.heap.size+2+1,0,Pk⟩)] 228);have RF:w1.heap.size=w.heap.size+4:=by omega
 have S1:bh (w1.alloc (PN #[.pointer (OM ⟨lb,0,Pk⟩),PE PF (r:Int),.func (.func gf) #[] cs.toArray,.map (OM w.heap.size),.map (OM (w.heap.size+1)),.pointer (OM ⟨w.heap.size+2+1,0,Pk⟩)] 228)) w.heap.size ⟨w.heap.size+4,w.heap.size,w.heap.size+1,w.heap.size+2+1,w.heap.size+2⟩ lb r (.func (.func gf) #[] cs.toArray) (.slice Pk 0 0) 0 0 Ie :=
  ⟨ME _ _ _ 0 (by simp[RF]),ME _ _ _ 1 (by simp[RF]),ME _ _ _ 2 (by simp[RF]),ME _ _ _ 3 (by simp[RF]),ME _ _ _ 4 (by simp[RF]),ME _ _ _ 5 (by simp[RF]),
   (M0.keep (F:=fun _=>False) (ai.of_below b1) id).keep (F:=fun _=>False) (ai.of_below bw) id,(M1.keep (F:=fun _=>False) (ai.of_below b1) id).keep (F:=fun _=>False) (ai.of_below bw) id,HA.below bw,
   by simp only;omega,by simp only;omega,by simp only;omega,by simp only;omega,fun g hg=>(by cases hg)⟩
 clear QU HA hb1 P3 b1 B1 bw M0 M1 b0 P0;go_wp2;generalize w1.alloc (PN #[.pointer (OM ⟨lb,0,Pk⟩),PE PF (r:Int),.func (.func gf) #[] cs.toArray,.map (OM w.heap.size),.map (OM (w.heap.size+1)),.pointer (OM ⟨w.heap.size+2+1,0,Pk⟩)] 228)=w2 at *
 try rw[RF]
 obtain⟨k,hk⟩:∃k:SBk,k=⟨w.heap.size+4,w.heap.size,w.heap.size+1,w.heap.size+2+1,w.heap.size+2⟩:=⟨_,rfl⟩;have UB:w.heap.size+4=k.sb:=by rw[hk]
 rw[<- hk]at S1;rw[UB];clear hk UB RF;go_loopw [24] (fun iv wr=>∃(i:Nat) (v:PH) (nh:Nat),i<=l.length/\iv=PE PF i/\bh wr w.heap.size k lb r (.func (.func gf) #[] cs.toArray) v nh 0 (dR L g (l.take i))/\nh<=i/\PI w.heap.size w wr)
  (fun i _=>l.length-(intOf i).toNat)
 case atStart=>exact⟨0,_,0,MQ _,rfl,S1,aj,BW⟩
 case round =>
  clear S1 BW;obtain⟨i,v,nh,hi,rfl,S,hnh,ZC⟩:=hrel;by_cases PO:i<l.length
  ·obtain⟨e,he⟩:∃e,l[i]? = OM e:=⟨l[i],MJ PO⟩;obtain⟨hwe,b,o,rfl,q0,q1,q2,q3⟩:=(PT.below aj ZC) i e he;have TF:=AW L g he;have FI0:FI L lv r g (l.take i) (dR L g (l.take i)):=by
    have h:=FI.fold O (l':=l.take i) (FI.start L lv r g);exact h
   have HFI:PJ _:=FI0;have i1:(0:Int)<=(i:Int):=(by omega);have i2:(i:Int)<(l.length:Int):=(by omega);have TS:=aQ wr (PN #[PE PF e.to,PE PF e.s,PE PF e.d,PE PF e.mid] 204);have y0:(wr.alloc (PN #[PE PF e.to,PE PF e.s,PE PF e.d,PE PF e.mid] 204)).cell? ⟨wr.heap.size,0,Pk⟩=OM (PE PF e.to):=ME _ _ _ 0 rfl;have y1:(wr.alloc (PN #[PE PF e.to,PE PF e.s,PE PF e.d,PE PF e.mid] 204)).cell? ⟨wr.heap.size,1,Pk⟩=OM (PE PF e.s):=ME _ _ _ 1 rfl;have y2:(wr.alloc (PN #[PE PF e.to,PE PF e.s,PE PF e.d,PE PF e.mid] 204)).cell? ⟨wr.heap.size,2,Pk⟩=OM (PE PF e.d):=ME _ _ _ 2 rfl;have Ts:=ak ZC TS;have ZD:=ak hB Ts;have V10:=V0.below ZD;have TR:=S.below TS;by_cases PY:0<=e.to/\e.to.toNat∈L
   ·obtain⟨n,hn⟩:∃n:Nat,e.to=(n:Int):=⟨e.to.toNat,by omega⟩;have Qw:n∈L:=(by have h:=PY.2;rw[hn,ML]at h;exact h);rw[hn]at q0 y0 TS Ts ZD V10 TR y1 y2;have St:=pf _ V10 Qw;have abz:=O.small _ Qw;have aaz:JH L e=Pm↔inC e.s e.d:=by
     rw[oj];unfold okE inC;exact⟨fun h=>h.2,fun h=>⟨PY,h⟩⟩
    by_cases hc:inC e.s e.d
    ·have Rs:PJ (∀w',_):=fun w'=>vc e.s e.d w' hc;have Qq:kU L g (dR L g (l.take i)) e=eN g (dR L g (l.take i)) (n:Int) e.s e.d:=(by unfold kU;rw[if_pos (aaz.2 hc),hn]);rw[Qq]at TF;have hgn:=Uk n;have VR:0<=e.s/\e.s<=1048576/\0<=e.d/\e.d<=1048576:=hc;have WJ:=ae TF;have HC:=ae hc;have HN:=ae hn;clear TF Qq aaz PY he hn S hwe ZC V10 hc;generalize dR L g (l.take i)=x at *;generalize e.s=es at *;generalize e.d=ed at *;generalize e.mid=em at *;go_wp2_with fail;clear q0 q1 q2 q3;generalize wr.alloc (PN #[PE PF (n:Int),PE PF es,PE PF ed,PE PF em] 204)=w3 at *;generalize wr.heap.size=E at *;refine St.mono ?_;rintro r1 wl ⟨rfl,Tv⟩
     replace Tv:=Tv.symm
     subst Tv;clear St;go_wp2_with fail;refine(Rs.out _).mono ?_;rintro r1 w4 ⟨rfl,QB⟩;have S4:=TR.below QB;have B4:=ak Ts QB;have C4:=ak ZD QB;have z0:=ar QB y0;have z1:=ar QB y1;have z2:=ar QB y2;have YE:=tZ (s:=es) (d:=ed) w0 w4 S4 hg hB.size C4 abz (by unfold okC;omega) (fun h=>by have:=HFI.out.si.big h;unfold okC;omega) (by unfold okC;omega) (by unfold okC;omega) (by omega);have Yi:PJ _:=S4;clear S4 TR QB y0 y1 y2 Ts ZD C4 TS Rs;go_wp2_with fail;refine YE.mono ?_;rintro r1 w5 ⟨rfl,v5,n5,S5,hn5,K5,_⟩;have B5:=B4.trans (Yi.out.to_below K5);rw[<- WJ.out]at S5;clear YE z0 z1 z2 B4 K5 Yi;go_wp2;go_roundw
     case rel=>exact⟨i+1,v5,n5,by omega,by go_num,S5,by omega,B5⟩
     case measure=>simp[intOf];omega
    ·have Rs:PJ (∀w',_):=fun w'=>sI e.s e.d w' hc;have Qq:kU L g (dR L g (l.take i)) e=dR L g (l.take i):=(by unfold kU;rw[if_neg (fun h=>hc (aaz.1 h))]);rw[Qq]at TF;have WJ:=ae TF;have HC:=ae hc;clear TF Qq aaz PY he hn S hwe ZC V10 hc HFI FI0;generalize e.s=es at *;generalize e.d=ed at *;generalize e.mid=em at *;go_wp2_with fail;clear q0 q1 q2 q3;generalize wr.alloc (PN #[PE PF (n:Int),PE PF es,PE PF ed,PE PF em] 204)=w3 at *;generalize wr.heap.size=E at *;refine St.mono ?_;rintro r1 wl ⟨rfl,Tv⟩
     replace Tv:=Tv.symm
     subst Tv;clear St;go_wp2_with fail;refine(Rs.out _).mono ?_;rintro r1 w4 ⟨rfl,QB⟩;have S4:=TR.below QB;have B4:=ak Ts QB;rw[<- WJ.out]at S4;clear TR QB y0 y1 y2 Ts ZD TS Rs;go_wp2;go_roundw
     case rel=>exact⟨i+1,v,nh,by omega,by go_num,S4,by omega,B4⟩
     case measure=>simp[intOf];omega
   ·have St:=Ir _ V10 PY hwe;have Qq:kU L g (dR L g (l.take i)) e=dR L g (l.take i):=(by unfold kU;rw[if_neg (fun h=>PY (oj.1 h).1)]);rw[Qq,]at TF;rw[<- TF]at TR;clear TF Qq PY he S hwe ZC V10 HFI FI0;generalize e.to=et at *;generalize e.s=es at *;generalize e.d=ed at *;generalize e.mid=em at *;go_wp2_with fail;clear q0 q1 q2 q3;generalize wr.alloc (PN #[PE PF et,PE PF es,PE PF ed,PE PF em] 204)=w3 at *;generalize wr.heap.size=E at *;refine St.mono ?_;rintro r1 wl ⟨rfl,Tv⟩
    replace Tv:=Tv.symm
    subst Tv;clear St;go_wp2;go_roundw
    case rel=>exact⟨i+1,v,nh,by omega,by go_num,TR,by omega,Ts⟩
    case measure=>simp[intOf];omega
  ·have e:i=l.length:=(by omega);subst e;rw[M9]at S;go_wp2;go_ret;exact⟨k,v,nh,rfl,S,hnh,ZC⟩
end
section
open Go.RowKit
def ca (A:Int->Option Int):Nat:=cnt (fun a=>(A a).map fun n=>(n,(0:Int))) 256
theorem Mo (A:Int->Option Int):ca A<=256:=iA _ _
theorem Lo (A:Int->Option Int){a:Int}(n:Int)(h0:0<=a)(h1:a<256):(if (av A a).isSome then ca A else ca A+1)=ca (lZ A a n):=by
 have e:(fun i=>(lZ A a n i).map fun n=>(n,(0:Int)))=aB (fun i=>(A i).map fun n=>(n,(0:Int))) a n 0:=by
  funext i
  unfold lZ aB;by_cases q:i=a
  ·rw[if_pos q,if_pos q];rfl
  ·rw[if_neg q,if_neg q]
 unfold ca;rw[e];cases hA:A a with
 |none =>
  rw[Cv hA,fY _ a n 0 256 h0 h1 (by rw[hA];rfl)];rfl
 |some m =>
  rw[Cu hA,iB _ a n 0 256 (by rw[hA];rfl)];rfl
theorem bS.few {mb n:Nat}{H:Int->Option (Int×Int)}(h:bS w b mb v n H)(hs:∀{a s d},H a=OM (s,d)->0<=a/\a<256):n<=256:=by
 obtain⟨it,f,S,O⟩:=h.ex;have hp:=S.atf.apart;have key:((List.range n).map (fun i=>(it i).id.toNat)).Nodup:=by
  unfold Pu;rw[N7];refine List.Pairwise.imp_of_mem ?_ (List.nodup_range (n:=n));intro i j hi hj PW;have hi:=NR.1 hi;have hj:=NR.1 hj;intro q;have a1:=hs (S.holds.at hi);have a2:=hs (S.holds.at hj);exact PW (hp i j hi hj (by omega))
 have:=cQ 256 key (fun m hm=>by
  obtain⟨i,hi,rfl⟩:=NH.1 hm;have a1:=hs (S.holds.at (NR.1 hi));omega)
 simpa using this
theorem SI.few {lv:LSt}{g:Int->Int×Int}{src:Int->Int->Int->Prop}{P:Int->Int->Prop}{x:SS}(O:eT L lv)(h:SI L lv r g src P x){w:PG}{b mb n:Nat}{v:PH}(hp:bS w b mb v n x.H):n<=256:=hp.few (fun ha=>by
 obtain⟨s',d',k1,_⟩:=h.key ha;obtain⟨l1,l2,_⟩:=h.lab k1;have:=O.small _ l2;omega)
theorem yC {lv:LSt}{n:Nat}{g:Int->Int×Int}{x:SS}{e:LE}(hF:x.F (n:Int)=OM (s,d))(h:lv.lev n+r<=lv.lev e.to):cJ lv r g n x e=if bF x.F (e.to:Int) (s+e.s) (d+e.d)=Pm then eO (eN g x (e.to:Int) (s+e.s) (d+e.d)) (e.to:Int) (n:Int) else x:=by
 unfold cJ;rw[hF];show (if lv.lev n+r<=lv.lev e.to/\bF x.F (e.to:Int) (s+e.s) (d+e.d)=Pm then eO (eN g x (e.to:Int) (s+e.s) (d+e.d)) (e.to:Int) (n:Int) else x)=_;by_cases q:bF x.F (e.to:Int) (s+e.s) (d+e.d)=Pm
 ·rw[if_pos ⟨h,q⟩,if_pos q]
 ·rw[if_neg (fun h=>q h.2),if_neg q]
theorem Lp (g:Int->Int×Int)(x:SS)(n s d:Int):(eN g x n s d).A=x.A:=by
 unfold eN;split<;>rfl
theorem yD {lv:LSt}{n:Nat}{g:Int->Int×Int}{x:SS}{e:LE}(h:¬lv.lev n+r<=lv.lev e.to):cJ lv r g n x e=x:=by
 unfold cJ;exact if_neg (fun q=>h q.1)
theorem yE {Ng N0 n:Nat}{k:SBk}{lv:LSt}{g:Int->Int×Int}{src:Int->Int->Int->Prop}{x:SS}{s d:Int}(w0 w:PG)(V0:cD w0 N0 lb vb eb top L lv f)(O:eT L lv)(UX:∀n,1<=lv.lev n/\lv.lev n<=7)(hr:r<=1)(hg:AV w0 Ng gf cs g)(U9:Ng=w0.heap.size)(hNN:Ng<=N)(hB:PI Ng w0 w)(Uk:∀n:Nat,0<=(g n).1/\(g n).1<=1024/\0<=(g n).2/\(g n).2<=1024)
  (S:bh w N k lb r (.func (.func gf) #[] cs.toArray) v nh (ca x.A) x) (hSI:SI L lv r g src (fun a _=>a≠(n:Int)\/False) x) (hn:x.F (n:Int)=OM (s,d)) (hH:x.H (n:Int)=Pk) :
  PK prog 133 #[.pointer (OM ⟨k.sb,0,Pk⟩),PE PF (n:Int)] w fun e w'=>e=PM (.tuple #[])/\∃v' Sp,bh w' N k lb r (.func (.func gf) #[] cs.toArray) v' Sp (ca (goS lv r g n x).A) (goS lv r g n x)/\ai (sb5 k v) w w'/\∀g,v'.ownBlock=OM g->v.ownBlock=OM g\/w.heap.size<=g:=by
 have Qw:n∈L:=by have h:=(hSI.lab hn).2.1;rw[ML]at h;exact h
 have abz:=O.small _ Qw;have XH:(lv.es n).length<=256:=by
  have h1:((lv.es n).map (·.to)).Nodup:=by
   unfold Pu;rw[N7];exact(O.esy.ord n).imp (fun h=>NO h)
  have:=cQ 256 h1 (fun m hm=>by
   obtain⟨e,he,rfl⟩:=NH.1 hm;exact O.small _ (O.ends he).2)
  simpa using this
 have HVB:PJ (∀g,sb5 k v g->g<w.heap.size):=fun g hg=>by
  rcases hg with rfl|rfl|h
  ·exact S.fm.lt
  ·exact S.am.lt
  ·exact As S.hp h
 have V:=V0.below (by rw[<- U9];exact hB);have St:=pf w V Qw;have c0:=S.c0;go_enter func133,ntmps133;go_wp2_with fail;refine St.mono ?_;rintro e wl ⟨rfl,Tv⟩
 replace Tv:=Tv.symm
 subst Tv;have agJ:=AT w V Qw XH;clear St;go_wp2_with fail;refine agJ.mono ?_;rintro e w1 ⟨v1,rfl,QM,hb1⟩;obtain⟨A1,X0,rfl,QR,hA1⟩:=dY QM;have HA1:PJ (∀b o,A1=OM ⟨b,o,Pk⟩->w.heap.size<=b/\b<w1.heap.size):=fun b o h=>by
  rcases hA1 with⟨h1,_⟩|⟨g,h1,_,h2,h3⟩
  ·rw[h1]at h;cases h
  ·rw[h1]at h;cases h;exact⟨h2,h3⟩
 clear hA1;have S1:=S.below hb1;have agK:N<=w.heap.size:=by have:=S.nb.1;have:k.sb<w.heap.size:=aJ S.c0;omega
 have B1:=hb1.mono agK;clear agJ QM c0 V;go_wp2;have HV1:PJ (ai (sb5 k v) w w1):=ai.of_below hb1;have HSz:w.heap.size<=w1.heap.size:=hb1.size;clear hb1;go_loopw [32] (fun iv wr=>∃(i:Nat) (v':PH) (nh:Nat),i<=(lv.es n).length/\iv=PE PF i/\bh wr N k lb r (.func (.func gf) #[] cs.toArray) v' nh (ca (((lv.es n).take i).foldl (cJ lv r g n) x).A) (((lv.es n).take i).foldl (cJ lv r g n) x)/\ai (sb5 k v) w1 wr/\∀g,v'.ownBlock=OM g->v.ownBlock=OM g\/w1.heap.size<=g)
  (fun i _=>(lv.es n).length-(intOf i).toNat)
 case atStart=>exact⟨0,v,nh,MQ _,rfl,S1,ai.refl _ _,fun _ h=>MG h⟩
 case round =>
  have Tz:=ae QR;have TP:PJ _:=B1;have HS1:PJ _:=S1;clear S1 B1 QR S;obtain⟨i,v',nh,hi,rfl,S,K,XF⟩:=hrel;have ZC:=TP.out.trans (HS1.out.to_below K);have row:=Tz.out.keep K (fun b o h q=>by have:=(HA1.out b o h).1;have:=HVB.out b q;omega);have ZO:=ae XF;clear XF;by_cases PO:i<(lv.es n).length
  ·obtain⟨e,he⟩:∃e,(lv.es n)[i]? = OM e:=⟨(lv.es n)[i],MJ PO⟩;have hem:=MZ he;obtain⟨b,o,rfl,q0,q1,q2,q3⟩:=row i e he;have TF:((lv.es n).take (i+1)).foldl (cJ lv r g n) x=cJ lv r g n (((lv.es n).take i).foldl (cJ lv r g n) x) e:=by
    rw[Nb,he,List.foldl_append];rfl
   obtain⟨SIi,RT,hHi⟩:=SI.fold O (l:=(lv.es n).take i) (fun e he=>List.mem_of_mem_take he) hSI hn hH;have hnh:=SIi.few O S.hp;have hbe:=O.bd hem;have Ys:=SIi.big RT;have htL:=(O.ends hem).2;have agM:=O.small _ htL;have HFC:PJ (∀{p q},(((lv.es n).take i).foldl (cJ lv r g n) x).F (e.to:Int)=OM (p,q)->okC p q):=fun h=>by have:=SIi.big h;unfold okC;omega
   have Qq:lv.lev n+r<=lv.lev e.to->_:=fun h=>yC (g:=g) (e:=e) RT h;have agN:¬lv.lev n+r<=lv.lev e.to->cJ lv r g n (((lv.es n).take i).foldl (cJ lv r g n) x) e=(((lv.es n).take i).foldl (cJ lv r g n) x):=fun h=>yD h;have i1:(0:Int)<=(i:Int):=(by omega);have i2:(i:Int)<((lv.es n).length:Int):=(by omega);have TS:=aQ wr (PN #[PE PF (e.to:Int),PE PF e.s,PE PF e.d,PE PF e.mid] 204);have y0:(wr.alloc (PN #[PE PF (e.to:Int),PE PF e.s,PE PF e.d,PE PF e.mid] 204)).cell? ⟨wr.heap.size,0,Pk⟩=OM (PE PF (e.to:Int)):=ME _ _ _ 0 rfl;have y1:(wr.alloc (PN #[PE PF (e.to:Int),PE PF e.s,PE PF e.d,PE PF e.mid] 204)).cell? ⟨wr.heap.size,1,Pk⟩=OM (PE PF e.s):=ME _ _ _ 1 rfl;have y2:(wr.alloc (PN #[PE PF (e.to:Int),PE PF e.s,PE PF e.d,PE PF e.mid] 204)).cell? ⟨wr.heap.size,2,Pk⟩=OM (PE PF e.d):=ME _ _ _ 2 rfl;have hNr:N<=wr.heap.size:=M5 agK ZC.size;have Ts:=ZC.trans (TS.mono hNr);have ZD:=hB.trans (Ts.mono hNN);have V10:=V0.below (by rw[<- U9];exact ZD);have TR:=S.below TS;have XJ:=K.below TS;have HSR:PJ (k.cb<wr.heap.size/\k.ab<wr.heap.size/\∀g,hb3 k.hb k.mb v' g->g<wr.heap.size):=⟨S.fm.lt,S.am.lt,fun g hg=>As S.hp hg⟩;have YW:=row.below TS;have c0:=TR.c0;have c1:=TR.c1;have c3:=TR.c3;generalize ((lv.es n).take i).foldl (cJ lv r g n) x=xi at *;have WJ:=ae TF;obtain⟨l1,l2⟩:=UX n;obtain⟨l3,l4⟩:=UX e.to;have HFi:=ae RT;have HSI:PJ _:=SIi;have QV:=ae Qq;have HS0:=ae agN;have HNE:¬e.to=n:=O.esy.off hem;clear TF he hem S row TS ZC RT hHi SIi Qq agN;go_wp2_with fail;clear q0 q1 q2 q3;have hE:wr.heap.size<(wr.alloc (PN #[PE PF (e.to:Int),PE PF e.s,PE PF e.d,PE PF e.mid] 204)).heap.size:=aJ y0;generalize wr.alloc (PN #[PE PF (e.to:Int),PE PF e.s,PE PF e.d,PE PF e.mid] 204)=w3 at *;have d3:=cI w3;have t0:=bH c0;have t1:=bH y0;have St:=pf w3.drew (V10.below d3) htL;go_region_held3 (fun w'=>w'.cell? ⟨k.sb,0,Pk⟩=OM (.pointer (OM ⟨lb,0,Pk⟩))/\w'.cell? ⟨wr.heap.size,0,Pk⟩=OM (PE PF (e.to:Int))) (first|exact⟨t0,t1⟩)
    (first
     |(go_at_call 171;refine St.mono ?_;rintro r1 wl ⟨rfl,Tv⟩;replace Tv:=Tv.symm;subst Tv))
   have S4:=TR.below d3;have K4:ai (sb5 k v) w1 w3.drew:=XJ.below d3;have C4:=ZD.trans (d3.mono (by rw[U9];exact ZD.size));have y0':=t1;have y1':=bH y1;have y2':=bH y2;have hE4:wr.heap.size<w3.drew.heap.size:=hE;clear t0 t1 St TR XJ ZD y0 y1 y2 d3 hE V10 c0 c1 c3;generalize w3.drew=w4 at *;go_wp2_with fail;have d5:=cI w4;have S5:=S4.below d5;have t1:=S5.c1;have t3:=S5.c3;have e0:=bH y0';have e1:=bH y1';have e2:=bH y2';have Wp:(Instr.lookup 225 (.map (OM k.cb)) (PE PF (n:Int)) PB).run prog w4.drew=.ok (.agg #[PE PF s,PE PF d]) w4.drew:=S5.fm.look_some aY Tryz.underK (jD _) (aC (by omega) (by omega)) (gP HFi.out) PB;have QF:PJ (∀Tq,_):=fun Tq=>jF s d e.s e.d Tq (by unfold okC;omega) (by unfold okC;omega);have Vx:=Uk e.to;have YE:PJ (∀Sw,PI w4.drew.heap.size w4.drew Sw->_):=fun Sw hb=>tZ (n:=e.to) (s:=s+e.s) (d:=d+e.d) w0 Sw (S5.below hb) hg hNN (C4.trans (((ak d5 hb)).mono (by rw[U9];exact C4.size))) agM (by unfold okC;omega) HFC.out (by unfold okC;omega) (by unfold okC;omega) (by omega);have hnE:PJ (¬sb5 k v' wr.heap.size):=fun h=>by
    rcases h with h|h|h
    ·have:=HSR.out.1;omega
    ·have:=HSR.out.2.1;omega
    ·have:=HSR.out.2.2 _ h;omega
   have hnS:PJ (¬sb5 k v' k.sb):=fun h=>(S5.from _ h).2 rfl;have HS5:PJ _:=S5;by_cases SN:lv.lev n+r<=lv.lev e.to
   ·have hi1:(lv.lev n:Int)+(r:Int)<=(lv.lev e.to:Int):=(by omega);have hi2:(0:Int)<=(lv.lev n:Int)+(r:Int):=(by omega);have hi3:(lv.lev n:Int)+(r:Int)<=8:=(by omega);have agO:=QV.out SN;generalize Z6:bF xi.F (e.to:Int) (s+e.s) (d+e.d)=pb at *;have HPB:=ae Z6;have aaA:PJ _:=agO;clear agO Z6 S5 S4 HS0 QV;generalize (lv.lev e.to:Int)=lt at *;generalize (r:Int)=rr at *;have X4:IntKind.i64.wrap ((lv.lev n:Int)+rr)=(lv.lev n:Int)+rr:=fk (by omega) (by omega);have Xn:decide ((lv.lev n:Int)+rr<=lt)=true:=decide_eq_true hi1;go_region_held3 (fun w'=>w'.cell? ⟨k.sb,1,Pk⟩=OM (PE PF rr)/\w'.cell? ⟨k.sb,3,Pk⟩=OM (.map (OM k.cb))/\w'.cell? ⟨wr.heap.size,0,Pk⟩=OM (PE PF (e.to:Int))/\w'.cell? ⟨wr.heap.size,1,Pk⟩=OM (PE PF e.s)/\w'.cell? ⟨wr.heap.size,2,Pk⟩=OM (PE PF e.d)) (first|exact⟨t1,t3,e0,e1,e2⟩|exact⟨u1,u3,f0,f1,f2⟩|exact⟨z1,z3,g0,g1,g2⟩)
     (first
      |(go_at_call 177;refine(QF.out _).mono ?_;rintro r1 Sw ⟨rfl,QW⟩;have u1:=ar QW t1;have u3:=ar QW t3;have f0:=ar QW e0;have f1:=ar QW e1;have f2:=ar QW e2)
      |(go_at_call 173;refine(YE.out Sw QW).mono ?_;rintro r1 w12 ⟨rfl,v12,n12,S12,atl,Wm,Xy⟩;have z1:=Wm.cellOf u1 hnS.out;have z3:=Wm.cellOf u3 hnS.out;have g0:=Wm.cellOf f0 hnE.out;have g1:=Wm.cellOf f1 hnE.out;have g2:=Wm.cellOf f2 hnE.out))
    have UZ:=ak d5 QW;have hKv:∀q,q<w1.heap.size->sb5 k v' q->sb5 k v q:=fun q hq h=>by
     rcases h with h|h|h|h|h
     ·exact MG h
     ·exact MF (MG h)
     ·exact MF (MF (MG h))
     ·exact MF (MF (MF (MG h)))
     ·rcases ZO.out q h with h|h
      ·exact MF (MF (MF (MF h)))
      ·omega
    have Sx:=K4.below UZ;have adg:=Sx.trans Wm hKv;have agP:PJ (∀g,v12.ownBlock=OM g->v.ownBlock=OM g\/w1.heap.size<=g):=fun q hq=>by
     rcases Xy q hq with h|h
     ·exact ZO.out q h
     ·exact MF (M5 Sx.size h)
    clear t1 t3 e0 e1 e2 u1 u3 f0 f1 f2 z1 z3 g1 g2 Wp YE QF hKv Wm Xy K4 Sx UZ QW d5 HS5 ZO y0' y1' y2' HFC HFi HSI;cases pb with
    |false =>
     have HX:PJ (eN g xi (e.to:Int) (s+e.s) (d+e.d)=xi):=by
      unfold eN;rw[HPB.out];rfl
     rw[HX.out]at S12;have HSZ:PJ (cJ lv r g n xi e=xi):=aaA.out.trans (if_neg (by decide));clear aaA HPB HX;go_wp2;go_roundw
     case rel=>exact⟨i+1,v12,n12,by omega,by go_num,by rw[WJ.out,HSZ.out];exact S12,adg,agP.out⟩
     case measure=>simp[intOf];omega
    |true =>
     have HSZ:PJ (cJ lv r g n xi e=eO (eN g xi (e.to:Int) (s+e.s) (d+e.d)) (e.to:Int) (n:Int)):=aaA.out.trans (if_pos rfl);have HA:PJ ((eN g xi (e.to:Int) (s+e.s) (d+e.d)).A=xi.A):=Lp _ _ _ _ _;clear aaA HPB;have S13:=S12.below (w':=w12.drew) (al.drew);have hca:=Mo xi.A;obtain⟨w14,alD,adh,agR⟩:=S13.am.store aY Tryz.underV (by unfold maxLen;omega) (aC (a:=(e.to:Int)) (by omega) (by omega)) (PE PF (n:Int));have K14:=aA agR;have S14:=S13.ahead (A':=lZ (eN g xi (e.to:Int) (s+e.s) (d+e.d)).A (e.to:Int) (n:Int)) (na':=ca (lZ (eN g xi (e.to:Int) (s+e.s) (d+e.d)).A (e.to:Int) (n:Int))) K14 (by
      rw[<- Ln,<- Lo _ _ (by omega) (by omega)];rw[HA.out]at adh ⊢;exact adh)
     have K15:=(adg.drew).trans K14 (fun _ _ h=>MF (MG h));have m0:=S13.c4;have m1:=bH g0;clear g0 adh agR K14 S12 S13 adg;go_wp2_with fail;go_region;go_wp2;go_roundw
     case rel=>exact⟨i+1,v12,n12,by omega,by go_num,by rw[WJ.out,HSZ.out];exact S14,K15,agP.out⟩
     case measure=>simp[intOf];omega
   ·have hi1:¬(lv.lev n:Int)+(r:Int)<=(lv.lev e.to:Int):=(by omega);have hi2:(0:Int)<=(lv.lev n:Int)+(r:Int):=(by omega);have hi3:(lv.lev n:Int)+(r:Int)<=8:=(by omega);have HSZ:PJ (cJ lv r g n xi e=xi):=HS0.out SN;have q1:=S4.c1;have Yi:PJ _:=S4;have HK4:PJ _:=K4;clear HS0 QV YE QF S5 S4 Wp HS5 t1 t3 e0 e1 e2 d5 K4;generalize (lv.lev e.to:Int)=lt at *;generalize (r:Int)=rr at *;have X4:IntKind.i64.wrap ((lv.lev n:Int)+rr)=(lv.lev n:Int)+rr:=fk (by omega) (by omega);have Xn:decide ((lv.lev n:Int)+rr<=lt)=false:=decide_eq_false hi1;go_quiet (fail);have dq:PI w4.heap.size w4 (w4.drewN nq):=below_drewN al _;have S6:=Yi.out.below dq;have K6:=HK4.out.below dq;clear q1 Yi HK4 dq;go_wp2;go_roundw
    case rel=>exact⟨i+1,v',nh,by omega,by go_num,by rw[WJ.out,HSZ.out];exact S6,K6,ZO.out⟩
    case measure=>simp[intOf];omega
  ·have e:i=(lv.es n).length:=(by omega);subst e;rw[M9]at S;have KF:=HV1.out.trans K (fun _ _ h=>h);go_wp2;go_end0;refine⟨rfl,v',nh,S,KF,fun g hg=>?_⟩;rcases ZO.out g hg with h|h
   ·exact MG h
   ·exact MF (by omega)
end
section
open Go.RowKit
structure vf (w:PG) (g L:Nat) (f:Nat->Int):Prop where
 at':∀i,i<L->w.cell? ⟨g,i,Pk⟩=OM (PE PF (f i))
 fr:∀i,i<L->w.frozen? ⟨g,i,Pk⟩=PB
theorem vf.two {L:Nat}{f:Nat->Int}(h:vf w g L f){i j:Nat}(hi:i<L)(hj:j<L)(x y:Int) :
  vf ((w.setCell ⟨g,i,Pk⟩ (PE PF x)).setCell ⟨g,j,Pk⟩ (PE PF y)) g L (fun k=>if k=j then y else if k=i then x else f k):=by
 refine⟨fun k hk=>?_,fun k hk=>by simpa using h.fr k hk⟩;by_cases e:k=j
 ·subst e;rw[if_pos rfl];by_cases e2:k=i
  ·subst e2;exact MO _ _ _ (MO _ _ _ (h.at' k hk))
  ·refine MO _ _ _ (u:=PE PF (f k)) ?_;rw[MH _ _ _ _ (by intro q;cases q;exact e2 rfl)];exact h.at' k hk
 ·rw[if_neg e,MH _ _ _ _ (by intro q;cases q;exact e rfl)];by_cases e2:k=i
  ·subst e2;rw[if_pos rfl];exact MO _ _ _ (h.at' k hk)
  ·rw[if_neg e2,MH _ _ _ _ (by intro q;cases q;exact e2 rfl)];exact h.at' k hk
def oG (w:PG) (g cap:Nat):Prop:=∃cur:Array PH,w.heap[g]? = OM (.cells cur 3 (0,0))/\cur.size=cap
theorem oG.set (h:oG w g cap):oG (w.setCell ⟨g,i,Pk⟩ v) g cap:=by
 obtain⟨cur,h1,h2⟩:=h;exact⟨cur.setIfInBounds i v,by simp[World.setCell,Array.getElem?_modify,h1],by simpa using h2⟩
def turn (L:Nat) (f:Nat->Int) (i:Nat):Nat->Int:=fun k=>if k<i\/L-1-i<k then f (L-1-k) else f k
theorem JR {L C:Nat}{f:Nat->Int}(w:PG)(h:vf w g L f)(hsh:oG w g C)(h0:0<L)(hL:L<=1000) :
  PK prog 181 #[.slice (OM ⟨g,0,Pk⟩) L cap] w fun e w'=>e=PM (.tuple #[])/\(∀i,i<L->w'.cell? ⟨g,i,Pk⟩=OM (PE PF (f (L-1-i))))/\oG w' g C/\ai (fun k=>k=g) w w':=by
 have Qq:vf w g L (turn L f 0):=by
  refine⟨fun i hi=>?_,h.fr⟩;rw[h.at' i hi];unfold turn;rw[if_neg (by omega)]
 go_enter func181,ntmps181;go_wp2;go_loopg [2,3] L (fun gk iv jv wr=>∃i:Nat,2*i<=L+1/\gk=L-i/\iv=PE PF i/\jv=PE PF ((L:Int)-1-i)/\vf wr g L (turn L f i)/\oG wr g C/\ai (fun k=>k=g) w wr)
 case atStart=>exact⟨0,by omega,rfl,rfl,by go_num,Qq,hsh,ai.refl _ _⟩
 case round =>
  clear Qq;obtain⟨i,hi,QD,rfl,rfl,R,SH,K⟩:=hrel;have HSH:=ae SH;clear SH;have HG:=ae QD;clear QD;by_cases PO:(i:Int)<(L:Int)-1-i
  ·obtain⟨j,hj⟩:∃j:Nat,(L:Int)-1-i=j:=⟨((L:Int)-1-i).toNat,by omega⟩;rw[hj]at PO ⊢;have hiL:i<L:=(by omega);have hjL:j<L:=(by omega);have ci:=R.at' i hiL;have cj:=R.at' j hjL;have fi:=R.fr i hiL;have fj:=R.fr j hjL;have b1:(i:Int)<(L:Int):=(by omega);have b2:(j:Int)<(L:Int):=(by omega);have b3:(0:Int)<=(i:Int):=(by omega);have b4:(0:Int)<=(j:Int):=(by omega);have PW:¬i=j:=(by omega);have hR:=R.two hiL hjL (turn L f i j) (turn L f i i);have hR2:vf ((wr.setCell ⟨g,i,Pk⟩ (PE PF (turn L f i j))).setCell ⟨g,j,Pk⟩ (PE PF (turn L f i i))) g L (turn L f (i+1)):=by
    refine⟨fun k hk=>?_,hR.fr⟩;rw[hR.at' k hk]
    congr 2
    unfold turn;by_cases e1:k=j
    ·subst e1;rw[if_pos rfl,if_neg (by omega),if_pos (by omega)]
     congr 1;omega
    ·rw[if_neg e1];by_cases e2:k=i
     ·subst e2;rw[if_pos rfl,if_neg (by omega),if_pos (by omega)]
      congr 1;omega
     ·rw[if_neg e2];by_cases e3:k<i\/L-1-i<k
      ·rw[if_pos e3,if_pos (by omega)]
      ·rw[if_neg e3,if_neg (by omega)]
   have hK2:ai (fun k=>k=g) w ((wr.setCell ⟨g,i,Pk⟩ (PE PF (turn L f i j))).setCell ⟨g,j,Pk⟩ (PE PF (turn L f i i))):=(K.setCell (p:=⟨g,i,Pk⟩) (fun _=>rfl) _).setCell (p:=⟨g,j,Pk⟩) (fun _=>rfl) _;clear hR R K;generalize turn L f i i=vi at *;generalize turn L f i j=vj at *;go_wp2;go_region;have hR3:vf ((wr.setCell ⟨g,i,Pk⟩ (PE PF vj)).setCell ⟨g,j,Pk⟩ (PE PF vi)).drew g L (turn L f (i+1)):=⟨hR2.at',hR2.fr⟩;have hK3:=hK2.drew;have HS3:PJ (oG ((wr.setCell ⟨g,i,Pk⟩ (PE PF vj)).setCell ⟨g,j,Pk⟩ (PE PF vi)).drew g C):=(HSH.out.set (i:=i) (v:=PE PF vj)).set (i:=j) (v:=PE PF vi);clear hR2 hK2 ci cj fi fj;go_wp2;go_roundg (L-(i+1))
   case measure=>have:=HG.out;omega
   case rel =>
    refine⟨i+1,by omega,rfl,by go_num,?_,hR3,HS3.out,hK3⟩;have e:(j:Int)-1=(L:Int)-1-((i+1:Nat):Int):=(by omega);rw[<- e]
  ·have RJ:∀k,k<L->wr.cell? ⟨g,k,Pk⟩=OM (PE PF (f (L-1-k))):=fun k hk=>by
    rw[R.at' k hk]
    congr 2
    unfold turn;by_cases e:k<i\/L-1-i<k
    ·rw[if_pos e]
    ·rw[if_neg e];congr 1;omega
   go_wp2;go_end0;exact⟨rfl,RJ,HSH.out,K⟩
theorem EH {base:Nat}(hb:base<=g)(h1:l.length<=cap)(h2:cap<=maxLen)(hs:oG w g cap)(hc:∀i,i<l.length->w.cell? ⟨g,i,Pk⟩=OM (PE PF ((l.getD i 0:Nat):Int))):w.ownsRow base 3 1 (.slice (OM ⟨g,0,Pk⟩) l.length cap) l.length (aH l):=by
 obtain⟨cur,c1,c2⟩:=hs;refine⟨by simp[aH],MF ⟨g,cap,cur,rfl,hb,c1,h1,h2,by omega,?_⟩⟩;refine List.ext_getElem? fun i=>?_;rw[Nat.mul_one];by_cases hi:i<l.length
 ·have Rl:=hc i hi;have e1:cur[i]? = OM (PE PF ((l.getD i 0:Nat):Int)):=by
   have h3:w.cell? ⟨g,i,Pk⟩=cur[i]? :=(by simp[World.cell?,c1]);rw[<- h3];exact Rl
  rw[List.getElem?_take_of_lt hi,Array.getElem?_toList,e1];simp[aH,hi]
 ·rw[NC (by rw[MY];omega),NC (by simp[aH];omega)]
theorem JS {base cap:Nat}{l:List Nat}(w:PG)(h:w.ownsRow base 3 1 (.slice (OM ⟨g,0,Pk⟩) l.length cap) l.length (aH l))(h0:0<l.length)(hl:l.length<=1000) :
  PK prog 181 #[.slice (OM ⟨g,0,Pk⟩) l.length cap] w fun e w'=>e=PM (.tuple #[])/\w'.ownsRow base 3 1 (.slice (OM ⟨g,0,Pk⟩) l.length cap) l.reverse.length (aH l.reverse)/\ai (fun k=>k=g) w w':=by
 rcases h.2 with⟨_,q⟩|⟨g',cap',cur,hv,hb,hg,h1,h2,h3,_⟩
 ·omega
 ·cases hv;have hsh:oG w g cap:=⟨cur,hg,by omega⟩;have IR:vf w g l.length (fun i=>((l.getD i 0:Nat):Int)):=⟨fun i hi=>iO h i hi,fun i _=>h.frozenAt i⟩;refine(JR (cap:=cap) w IR hsh h0 hl).mono fun e w' ⟨e1,e2,e3,e4⟩=>⟨e1,?_,e4⟩;have:=EH (l:=l.reverse) (base:=base) hb (by rw[O3];exact h1) h2 e3 (fun i hi=>by
   rw[O3]at hi;rw[e2 i hi]
   congr 3
   rw[MS,MS,List.getElem?_reverse hi])
  rw[O3]at this ⊢;exact this
end
section
open Go.RowKit
theorem AX {bl:Nat->Bool}{p:Int->Bool}(w:PG)(g:aw w b W H V bl)(s:az w)(hb:b<w.heap.size)(ha:inB W H a=Pm)(Qk:bl a.toNat=PB)
  (hC:∀(w':PG) (n:Int),PI w.heap.size w w'->inB W H n=Pm->PK prog 160 #[PE PF n,.pointer (OM ⟨rb,0,Pk⟩)] w' fun e Q2=>e=PM (.bool (p n))/\PI w'.heap.size w' Q2) :
  PK prog 127 #[.pointer (OM ⟨b,0,Pk⟩),PE PF a,.func (.func 160) #[] #[.pointer (OM ⟨rb,0,Pk⟩)]] w fun e w'=>∃v l,e=PM v/\w'.ownsRow w.heap.size 204 4 v l.length (bQ W a l)/\(l.Pairwise (·<·)/\∀n:Nat,n∈l↔Dir W H bl a n/\p n=Pm)/\PI w.heap.size w w' :=
 rS (cs:=[.pointer (OM ⟨rb,0,Pk⟩)]) w g s hb ha Qk (fun _ _=>by kernel_rfl) hC
theorem se {bl:Nat->Bool}(w:PG)(g:aw w b W H V bl)(hf:ffv W H bl a≠0) :
  PK prog 127 #[.pointer (OM ⟨b,0,Pk⟩),PE PF a,.func (.func 160) #[] #[.pointer (OM ⟨rb,0,Pk⟩)]] w fun e w'=>e=PM (.slice Pk 0 0)/\PI w.heap.size w w' :=
 uZ (cs:=[.pointer (OM ⟨rb,0,Pk⟩)]) w g hf
end
section
open Go.RowKit
theorem Tryz.underT:Tryz.prog.underlying 163=OM (.map 3 217):=by kernel_rfl
theorem EI {bl:Nat->Bool}(w:PG)(n:Int)(q2:w.cell? ⟨xb,0,Pk⟩=OM (.pointer (OM ⟨pb,0,Pk⟩)))(g:aw w pb W H V bl)(s:az w)(hn:inB W H n=Pm) :
  PK prog 160 #[PE PF n,.pointer (OM ⟨xb,0,Pk⟩)] w fun e w'=>e=PM (.bool (bj W H bl n))/\PI w.heap.size w w':=by
 have h1:=p8 n w g s hn;generalize bj W H bl n=r at *;go_enter func160,ntmps160;go_wp2_with fail;refine h1.mono ?_;rintro e1 w1 ⟨rfl,m,rfl⟩;clear h1;go_wp2;go_ret;exact⟨rfl,below_drewN al _⟩
theorem ub (W a:Int):∀(l:List Nat) (i:Nat),i<l.length->(bQ W a l)[i*4]? = OM (PE PF ((l.getD i 0:Nat):Int))/\(bQ W a l)[i*4+1]? = OM (PE PF (aO W a ((l.getD i 0:Nat):Int)))/\(bQ W a l)[i*4+2]? = OM (PE PF (aK W a ((l.getD i 0:Nat):Int)))/\(bQ W a l)[i*4+3]? = OM (PE PF (-1))
 |[],i,h=>absurd h (Nat.not_lt_zero i)
 |n::l,0,_=>⟨rfl,rfl,rfl,rfl⟩
 |n::l,i+1,h=>by
  have ih:=ub W a l i (by simpa using h);have e:bQ W a (n::l)=tQ W a n++bQ W a l:=by unfold bQ;rw[Oh]
  have hl:(tQ W a n).length=4:=rfl;have e2:(n::l).getD (i+1) 0=l.getD i 0:=rfl;rw[e,e2];refine⟨?_,?_,?_,?_⟩
  ·rw[Ni (by omega),hl,show (i+1)*4-4=i*4 by omega];exact ih.1
  ·rw[Ni (by omega),hl,show (i+1)*4+1-4=i*4+1 by omega];exact ih.2.1
  ·rw[Ni (by omega),hl,show (i+1)*4+2-4=i*4+2 by omega];exact ih.2.2.1
  ·rw[Ni (by omega),hl,show (i+1)*4+3-4=i*4+3 by omega];exact ih.2.2.2
def Tch (W H:Int) (bl:Nat->Bool) (x y ny nx z:Int):Prop:=bj W H bl z=Pm/\∃p,(inB W H p=Pm/\bl p.toNat=PB/\Dir W H bl p z)/\(x-1<=p%W/\p%W<=x+1/\y-1<=p/W/\p/W<=y+1)/\(p/W<ny\/(p/W=ny/\p%W<nx))
section
variable {W H x y ny nx z : Int} {bl : Nat → Bool}
theorem Tch.none:¬Tch W H bl x y (y-1) (x-1) z:=by
 rintro⟨_,p,_,h1,h2⟩;omega
theorem Tch.row:Tch W H bl x y ny (x+1+1) z↔Tch W H bl x y (ny+1) (x-1) z:=by
 unfold Tch;refine and_congr Iff.rfl (exists_congr fun p=>and_congr Iff.rfl ?_);constructor
 ·rintro⟨h1,h2⟩;exact⟨h1,by omega⟩
 ·rintro⟨h1,h2⟩;exact⟨h1,by omega⟩
theorem Tch.all:Tch W H bl x y (y+1+1) (x-1) z↔bj W H bl z=Pm/\∃p,(inB W H p=Pm/\bl p.toNat=PB/\Dir W H bl p z)/\(x-1<=p%W/\p%W<=x+1/\y-1<=p/W/\p/W<=y+1):=by
 unfold Tch;refine and_congr Iff.rfl (exists_congr fun p=>?_);constructor
 ·rintro⟨h0,h1,h2⟩;exact⟨h0,h1⟩
 ·rintro⟨h0,h1⟩;exact⟨h0,h1,by omega⟩
theorem Tch.skip (h:∀p,inB W H p=Pm->bl p.toNat=PB->¬(p/W=ny/\p%W=nx)):Tch W H bl x y ny (nx+1) z↔Tch W H bl x y ny nx z:=by
 unfold Tch;refine and_congr Iff.rfl (exists_congr fun p=>and_congr_right fun h0=>and_congr_right fun h1=>?_);have:=h p h0.1 h0.2.1;omega
theorem Tch.cell (hx:nx=c%W)(hy:ny=c/W)(hc:inB W H c=Pm)(hf:bl c.toNat=PB)(h1:x-1<=nx)(h2:nx<=x+1)(h3:y-1<=ny)(h4:ny<=y+1) :
  Tch W H bl x y ny (nx+1) z↔Tch W H bl x y ny nx z\/(Dir W H bl c z/\bj W H bl z=Pm):=by
 unfold Tch;constructor
 ·rintro⟨hz,p,h5,h6,h7⟩;by_cases e:p/W=ny/\p%W=nx
  ·right;have:p=c:=by
    have e1:=fe W p;have e2:=fe W c;rw[<- e1,<- e2,e.1,e.2,hx,hy]
   rw[this]at h5;exact⟨h5.2.2,hz⟩
  ·exact MG ⟨hz,p,h5,h6,by omega⟩
 ·rintro (⟨hz,p,h5,h6,h7⟩|⟨hd,hz⟩)
  ·exact⟨hz,p,h5,h6,by omega⟩
  ·exact⟨hz,c,⟨hc,hf,hd⟩,by omega,by omega⟩
end
theorem pL {b tb:Nat}{V x y:Int}{bl:Nat->Bool}{T:Int->Bool}(w:PG)(g:aw w b W H V bl)(s:az w)(hb:b<w.heap.size)(hT:aX w tb T)(hbt:b≠tb)(h0:1≠tb)(hc:inB W H c=Pm)(hx:c%W=x)(hy:c/W=y) :
  PK prog 119 #[.map (OM tb),.pointer (OM ⟨b,0,Pk⟩),PE PF c] w fun e w'=>e=PM (.tuple #[])/\(∃T',aX w' tb T'/\∀z,T' z=Pm↔T z=Pm\/Tch W H bl x y (y+1+1) (x-1) z)/\ai (fun k=>k=tb) w w':=by
 have Qa:=g.w1;have Xs:=g.w2;have Xt:=g.h2;have Rq:=bP g.w1 g.w2 g.h1 g.h2;obtain⟨x1,x2,y1,y2⟩:=dA g.w1 hc;rw[hx]at x1 x2;rw[hy]at y1 y2;have Ry:=fun w g=>dZ (b:=b) (V:=V) (bl:=bl) c w g hc;rw[hx,hy]at Ry;have B0:=aQ w (PN #[.pointer (OM ⟨b,0,Pk⟩)] 80);have q0:(w.alloc (PN #[.pointer (OM ⟨b,0,Pk⟩)] 80)).cell? ⟨w.heap.size,0,Pk⟩=OM (.pointer (OM ⟨b,0,Pk⟩)):=ME #[.pointer (OM ⟨b,0,Pk⟩)] 80 w.heap.size 0 rfl;have htl:=hT.lt;clear hx hy;go_enter func119,ntmps119;go_wp2_with fail;refine(Ry _ (g.below B0 hb)).mono ?_;rintro e w1 ⟨rfl,m1,RF⟩;have B1:PI w.heap.size w w1:=by rw[RF];exact below_drewN B0 _
 have q1:w1.cell? ⟨w.heap.size,0,Pk⟩=OM (.pointer (OM ⟨b,0,Pk⟩)):=by rw[RF];exact q0
 clear RF Ry B0 q0;have Tg:=hT.below B1;have K1:ai (fun k=>k=tb) w w1:=ai.of_below B1;clear B1 hT;go_wp2;go_loopw [9] (fun iv wr=>∃(ny:Int) (T':Int->Bool),iv=PE PF ny/\y-1<=ny/\ny<=y+1+1/\aX wr tb T'/\PJ (∀z,T' z=Pm↔T z=Pm\/Tch W H bl x y ny (x-1) z)/\wr.cell? ⟨w.heap.size,0,Pk⟩=OM (.pointer (OM ⟨b,0,Pk⟩))/\ai (fun k=>k=tb) w wr)
  (fun i _=>(y+1+1-intOf i).toNat)
 case atStart=>exact⟨y-1,T,rfl,by omega,by omega,Tg,fun z=>⟨MG,fun h=>h.resolve_right Tch.none⟩,q1,K1⟩
 case round =>
  obtain⟨ny,T1,rfl,n1,n2,Tg,U7,q1,K1⟩:=hrel;by_cases PO:ny<=y+1
  ·go_wp2;go_loopw [10] (fun iv wr=>∃(nx:Int) (T':Int->Bool),iv=PE PF nx/\x-1<=nx/\nx<=x+1+1/\aX wr tb T'/\PJ (∀z,T' z=Pm↔T z=Pm\/Tch W H bl x y ny nx z)/\wr.cell? ⟨w.heap.size,0,Pk⟩=OM (.pointer (OM ⟨b,0,Pk⟩))/\ai (fun k=>k=tb) w wr)
    (fun i _=>(x+1+1-intOf i).toNat)
   case atStart=>exact⟨x-1,T1,rfl,by omega,by omega,Tg,U7,q1,K1⟩
   case round =>
    obtain⟨nx,T2,rfl,m1,m2,Th,WX,q2,K2⟩:=hrel;by_cases Se:nx<=x+1
    ·have g2:=g.keep K2 hbt;have s2:=s.keep K2 h0;have Qd:=K2.size;cases Sh:atB W H nx ny with
     |false =>
      have hce:=rL nx ny wr g2 Sh;have HS:PJ (∀z,T2 z=Pm↔T z=Pm\/Tch W H bl x y ny (nx+1) z):=fun z=>(WX.out z).trans (or_congr Iff.rfl (Tch.skip (fun p hp _ he=>by
       obtain⟨a1,a2,a3,a4⟩:=dA Qa hp;have:atB W H nx ny=true:=decide_eq_true (by omega);rw[Sh]at this;cases this)).symm)
      clear Sh;go_wp2_with fail;refine hce.mono ?_;rintro e w3 ⟨rfl,rfl⟩;clear hce;go_wp2;go_roundw
      case rel=>exact⟨nx+1,T2,by go_num,by omega,by omega,Th,HS,q2,K2⟩
      case measure=>simp[intOf];omega
     |true =>
      have hce:=uV nx ny wr g2 Sh;obtain⟨a1,a2,a3,a4⟩:0<=nx/\nx<W/\0<=ny/\ny<H:=of_decide_eq_true Sh;have hm0:0<=ny*W:=Int.mul_nonneg a3 (by omega);have hpx:nx=(ny*W+nx)%W:=(by rw[NI,Int.add_mul_emod_self_right];exact(Int.emod_eq_of_lt a1 a2).symm);have hpy:ny=(ny*W+nx)/W:=(by rw[NI,Int.add_mul_ediv_right _ _ (by omega),Int.ediv_eq_zero_of_lt a1 a2];omega);have XZ:inB W H (ny*W+nx)=true:=by
       have h2:ny*W+W<=H*W:=by
        have:=Int.mul_le_mul_of_nonneg_right (show ny+1<=H by omega) (show 0<=W by omega);rw[Int.add_mul]at this;omega
       have h3:H*W=W*H:=Int.mul_comm H W;exact decide_eq_true ⟨by omega,by omega⟩
      have Qk:bl (ny*W+nx).toNat=PB\/bl (ny*W+nx).toNat=true:=(by cases bl (ny*W+nx).toNat<;>simp);have HPX:=ae hpx;have HPY:=ae hpy;have Z6:0<=ny*W+nx/\ny*W+nx<W*H:=of_decide_eq_true XZ;clear Sh hpx hpy hm0;generalize ny*W+nx=p at *;have Vy:b<wr.heap.size:=MN hb Qd;go_wp2_with fail;refine hce.mono ?_;rintro e w3 ⟨rfl,rfl⟩;clear hce;rcases Qk with Qk|Qk
      ·have Qv:=AX (rb:=w.heap.size) (p:=fun n=>bj W H bl n) w3 g2 s2 Vy XZ Qk (fun w' n Su hn=>by
        have kk:∀{a:Addr}{v:PH},w3.cell? a=OM v->w'.cell? a=OM v:=fun {a v} h=>(Su.cell (MK w3 a h)).trans h;exact EI w' n (kk q2) (g2.below Su Vy) (s2.below Su (by omega)) hn)
       go_wp2_with fail;refine Qv.mono ?_;rintro e w4 ⟨v,l,rfl,hown,⟨Rv,Rc⟩,QB⟩;have HM:=ae Rc;have PY:∀n∈l,n<256:=fun n hn=>by
        have h2:0<=(n:Int)/\(n:Int)<W*H:=of_decide_eq_true (aT Qa (aE.1 ((Rc n).1 hn).2));omega
       have T8:l.length<=256:=cQ 256 (Rv.imp (fun h e=>by omega)) PY;have Sk:=ae PY;have HS:PJ (∀T4:Int->Bool,(∀z,T4 z=Pm↔T2 z=Pm\/∃i,i<l.length/\z=((l.getD i 0:Nat):Int))->∀z,T4 z=Pm↔T z=Pm\/Tch W H bl x y ny (nx+1) z):=fun T4 h4 z=>by
        rw[h4 z,WX.out z,Tch.cell HPX.out HPY.out XZ Qk m1 Se n1 PO,or_assoc];refine or_congr Iff.rfl (or_congr Iff.rfl ?_);constructor
        ·rintro⟨i,hi,rfl⟩;exact(HM.out _).1 (by rw[bo _ _ hi];exact ND hi)
        ·rintro⟨hd,hz⟩;have hzi:0<=z/\z<W*H:=of_decide_eq_true (aT Qa (aE.1 hz));have hm:z.toNat∈l:=(HM.out z.toNat).2 (by rw[Nl hzi.1];exact⟨hd,hz⟩);obtain⟨i,hi,h⟩:=Nv hm;exact⟨i,hi,by rw[bo _ _ hi,h];omega⟩
       obtain⟨A,cap,rfl⟩:∃A cap,v=.slice A l.length cap:=by
        rcases hown.2 with⟨rfl,h0⟩|⟨g',cap,cur,rfl,_⟩
        ·exact⟨Pk,0,by rw[h0]⟩
        ·exact⟨_,_,rfl⟩
       have Uj:=Th.below QB;have q4:=ar QB q2;have K4:=K2.below QB;clear Qv Rc Rv PY QB g2 s2;go_wp2;go_loopw [52] (fun iv wr=>∃(j:Nat) (T4:Int->Bool),j<=l.length/\iv=PE PF j/\aX wr tb T4/\PJ (∀z,T4 z=Pm↔T2 z=Pm\/∃i,i<j/\z=((l.getD i 0:Nat):Int))/\wr.ownsRow w3.heap.size 204 4 (.slice A l.length cap) l.length (bQ W p l)/\wr.cell? ⟨w.heap.size,0,Pk⟩=OM (.pointer (OM ⟨b,0,Pk⟩))/\ai (fun k=>k=tb) w wr)
        (fun i _=>l.length-(intOf i).toNat)
       case atStart=>exact⟨0,T2,MQ _,rfl,Uj,fun z=>⟨MG,fun h=>h.resolve_right (fun ⟨i,hi,_⟩=>by omega)⟩,hown,q4,K4⟩
       case round =>
        obtain⟨j,T4,hj,rfl,Uj,agT,PT,q4,K4⟩:=hrel;by_cases VN:j<l.length
        ·obtain⟨ba,hA⟩:∃ba,A=OM ⟨ba,0,Pk⟩:=by
          rcases PT.2 with⟨_,h0⟩|⟨ba,_,_,hv,_⟩
          ·omega
          ·exact⟨ba,by cases hv;rfl⟩
         subst hA;obtain⟨e0,e1,e2,e3⟩:=ub W p l j VN;have U1:l.getD j 0∈l:=(by rw[bo _ _ VN];exact ND VN);have U0:=Sk.out _ U1;have c0:wr.cell? ⟨ba,j*4,Pk⟩=OM (PE PF ((l.getD j 0:Nat):Int)):=(PT.cellAt (j*4) (by omega)).trans e0;have c1:wr.cell? ⟨ba,j*4+1,Pk⟩=_:=(PT.cellAt (j*4+1) (by omega)).trans e1;have c2:wr.cell? ⟨ba,j*4+2,Pk⟩=_:=(PT.cellAt (j*4+2) (by omega)).trans e2;have c3:wr.cell? ⟨ba,j*4+3,Pk⟩=_:=(PT.cellAt (j*4+3) (by omega)).trans e3;have HJ:PJ (∀z:Int,(∃i,i<j+1/\z=((l.getD i 0:Nat):Int))↔(∃i,i<j/\z=((l.getD i 0:Nat):Int))\/z=((l.getD j 0:Nat):Int)):=fun z=>by
          constructor
          ·rintro⟨i,hi,h⟩;by_cases e:i=j
           ·subst e;exact MF h
           ·exact MG ⟨i,by omega,h⟩
          ·rintro (⟨i,hi,h⟩|h)
           ·exact⟨i,by omega,h⟩
           ·exact⟨j,by omega,h⟩
         clear e0 e1 e2 e3 U1;generalize aO W p ((l.getD j 0:Nat):Int)=es at *;generalize aK W p ((l.getD j 0:Nat):Int)=ed at *;have z0:(0:Int)<=((l.getD j 0:Nat):Int):=(by omega);have z1:((l.getD j 0:Nat):Int)<256:=(by omega);generalize ((l.getD j 0:Nat):Int)=zz at *;have i1:(0:Int)<=(j:Int):=(by omega);have i2:(j:Int)<(l.length:Int):=(by omega);have XC:=Uj.grown (World.grownBy_alloc wr (PN #[PE PF zz,PE PF es,PE PF ed,PE PF (-1)] 204) Pk) (by simp);go_wp2_with (first|(at_mapUpdate;refine dE rfl _ _ _ 163 rfl 3 217 aY Tryz.underT tb _ _ rfl XC.mp XC.room zz (.agg #[]) rfl rfl (aC z0 z1) ?_;intro w5 XA XB;go_frame)|go_in);have hT6:=XC.put z0 z1 XA;have RU:=XB.grown;have K6:ai (fun k=>k=tb) w w5:=(K4.alloc _).grown RU (fun k e h=>by cases e;rfl);have R6:=gX (PT.alloc _) RU (fun g' hg' e=>bJ PT Uj.mp g' hg' (Option.some.inj e));have q6:w5.cell? ⟨w.heap.size,0,Pk⟩=OM (.pointer (OM ⟨b,0,Pk⟩)):=(aA XB).cellOf ((World.cell?_alloc_old _ _ _ (NO (aJ q4))).trans q4) (show w.heap.size≠tb by omega);clear XA XB RU XC Uj PT K4 c0 c1 c2 c3;go_roundw
         case rel =>
          refine⟨j+1,_,by omega,by go_num,hT6,fun z=>?_,R6,q6,K6⟩;rw[cF,agT.out z,HJ.out z];exact⟨fun h=>h.elim (fun e=>MF (MF e)) (fun h=>h.imp id MG),fun h=>h.elim (fun e=>MF (MG e)) (fun h=>h.elim (fun e=>MF (MF e)) MG)⟩
         case measure=>simp[intOf];omega
        ·have e:j=l.length:=(by omega);subst e;have WC:=HS.out T4 agT.out;go_wp2;go_roundw
         case rel=>exact⟨nx+1,T4,by go_num,by omega,by omega,Uj,WC,q4,K4⟩
         case measure=>simp[intOf];omega
      ·have hff:ffv W H bl p≠0:=(by unfold ffv;rw[XZ,Qk];decide);have Qv:=se (rb:=w.heap.size) w3 g2 hff;have HS:PJ (∀z,T2 z=Pm↔T z=Pm\/Tch W H bl x y ny (nx+1) z):=fun z=>(WX.out z).trans (or_congr Iff.rfl (Tch.skip (fun q hq hqf he=>by
        have e1:=fe W q;have e2:=fe W p;have:q=p:=(by rw[<- e1,<- e2,he.1,he.2,<- HPX.out,<- HPY.out]);rw[this,Qk]at hqf;cases hqf)).symm)
       go_wp2_with fail;refine Qv.mono ?_;rintro e w4 ⟨rfl,QB⟩;have Uj:=Th.below QB;have q4:=ar QB q2;have K4:=K2.below QB;clear Qv g2 s2 QB;go_wp2;go_loopw [52] (fun iv wr=>iv=PE PF 0/\aX wr tb T2/\wr.cell? ⟨w.heap.size,0,Pk⟩=OM (.pointer (OM ⟨b,0,Pk⟩))/\ai (fun k=>k=tb) w wr) (fun _ _=>0)
       case atStart=>exact⟨rfl,Uj,q4,K4⟩
       case round =>
        obtain⟨rfl,Uj,q4,K4⟩:=hrel;go_wp2;go_roundw
        case rel=>exact⟨nx+1,T2,by go_num,by omega,by omega,Uj,HS,q4,K4⟩
        case measure=>simp[intOf];omega
    ·have e:nx=x+1+1:=(by omega);subst e;go_wp2;go_roundw
     case rel=>exact⟨ny+1,T2,by go_num,by omega,by omega,Th,fun z=>(WX.out z).trans (or_congr Iff.rfl Tch.row),q2,K2⟩
     case measure=>simp[intOf];omega
  ·have e:ny=y+1+1:=(by omega);subst e;go_wp2;go_end0;exact⟨rfl,⟨T1,Tg,U7.out⟩,K1⟩
end
section
section
variable {W H c0 : Int} {bl Qt : Nat → Bool}
theorem sf (Qz:∀n:Nat,(n:Int)≠c0->bl n=Qt n)(w1:1<=W){c:Int}(h:¬Tch W H bl (c0%W) (c0/W) (c0/W+1+1) (c0%W-1) c)(hc:bj W H bl c=Pm) :
  (∀p,inB W H p=Pm->bl p.toNat=PB->Blk W c0 p->¬Dir W H bl p c)/\¬Blk W c0 c/\bj W H Qt c=true:=by
 rw[Tch.all]at h;have Qc:∀p,inB W H p=Pm->bl p.toNat=PB->Blk W c0 p->¬Dir W H bl p c:=fun p hp hf hB hd=>h ⟨hc,p,⟨hp,hf,hd⟩,by unfold Blk at hB;omega⟩;have PY:=aT w1 (aE.1 hc);have Uh:¬Blk W c0 c:=fun hB=>Qc c PY (fT hc) hB (Dir.self w1);exact⟨Qc,Uh,aE.2 (rP Qz Uh (aE.1 hc))⟩
theorem yF (Qz:∀n:Nat,(n:Int)≠c0->bl n=Qt n)(w1:1<=W)(w2:W<=16)(h1:1<=H)(h2:H<=16){c:Int}(h:¬Tch W H bl (c0%W) (c0/W) (c0/W+1+1) (c0%W-1) c)(hc:bj W H bl c=Pm)(d:Int)(hd:Dir W H bl c d/\(decide (d≠c)&&bj W H bl d)=Pm) :
  Dir W H Qt c d/\(decide (d≠c)&&bj W H Qt d)=true:=by
 obtain⟨Qc,_,_⟩:=sf Qz w1 h hc;rw[MW]at hd;have PY:=aT w1 (aE.1 hc);have alH:=aT w1 (aE.1 hd.2.2);have:=bV w1 w2 h1 h2 PY alH;obtain⟨k1,k2⟩:=En Qz w1 (by omega) (by omega) PY (fT hc) (aE.1 hd.2.2) hd.1 Qc;rw[MW];exact⟨k2,hd.2.1,aE.2 k1⟩
theorem EOk.loc (Qz:∀n:Nat,(n:Int)≠c0->bl n=Qt n)(w1:1<=W)(w2:W<=16)(h1:1<=H)(h2:H<=16){c:Int}
  (hn:¬Tch W H bl (c0%W) (c0/W) (c0/W+1+1) (c0%W-1) c) (Xe:¬Tch W H Qt (c0%W) (c0/W) (c0/W+1+1) (c0%W-1) c) (E:EOk w pb W H bl f c):EOk w pb W H Qt f c:=by
 have agU:∀n:Nat,(n:Int)≠c0->Qt n=bl n:=fun n h=>(Qz n h).symm;refine⟨fun hc=>?_,fun hc=>?_⟩
 ·have Ue:=(sf agU w1 Xe hc).2.2;obtain⟨v,l,e1,e2,e3,e4⟩:=E.yes Ue;refine⟨v,l,e1,e2,⟨e3.1,fun n=>?_⟩,e4⟩;rw[e3.2 n];exact⟨yF Qz w1 w2 h1 h2 hn Ue n,yF agU w1 w2 h1 h2 Xe hc n⟩
 ·refine E.no ?_;cases hb:bj W H bl c with
  |false=>rfl
  |true =>
   have:=(sf Qz w1 hn hb).2.2;rw[hc]at this;cases this
end
end
section
open Go.RowKit
def kX (c:Int) (F:Int->Option (Int×Int)):List Value:=NB .i64 c::(cX F++isL F)
def zR (c:Int):List Value:=NB .i64 c::(N8 512 (NB .i64 0)++N8 256 (OZ PB))
theorem Iu (c:Int):(zR c).length=769:=by unfold zR;rw[Nf,MM,OE,OE]
theorem yG (c:Int)(F:Int->Option (Int×Int)):(kX c F).length=769:=by unfold kX;rw[Nf,MM,di,lJ]
theorem Lq (c:Int):∀v∈zR c,v.oneCell'=true:=by
 intro v hv;unfold zR at hv;rw[Nh,MT,List.mem_replicate,List.mem_replicate]at hv;rcases hv with rfl|⟨_,rfl⟩|⟨_,rfl⟩<;>rfl
theorem yH (c:Int)(F:Int->Option (Int×Int)):∀v∈kX c F,v.oneCell'=true:=by
 intro v hv;unfold kX at hv;rw[Nh,MT]at hv;rcases hv with rfl|h|h
 ·rfl
 ·exact lK F v h
 ·exact p6 F v h
theorem vg (w:PG):(Instr.alloc 199 Pm (.tuple #[])).run prog w=.ok (.pointer (OM ⟨w.heap.size,0,Pk⟩)) (w.alloc (.cells (zR 0).toArray 199)):=by kernel_rfl
theorem Iv (c:Int):prog.built 199 [(0,PE PF c)]=OM (zR c).toArray:=by kernel_rfl
theorem lP:(prog.info? 199).map (·.size)=OM 769:=by kernel_rfl
theorem pP {t:TypeId}{z:Array PH}(UC:∀w:PG,(Instr.alloc t Pm (.tuple #[])).run prog w=.ok (.pointer (OM ⟨w.heap.size,0,Pk⟩)) (w.alloc (.cells z t))){ops:Array Oper}{rest:List Oper}{o:Oper}{a:Act}{w:PG}{Q:Exit->Act->PG->Prop}(Tn:o.guard=Pk)(ho:o.op=.alloc t)
  (h:wpList prog ops Q rest (a.put o.dst (.pointer (OM ⟨w.heap.size,0,Pk⟩))) (w.alloc (.cells z t))):wpList prog ops Q (o::rest) a w :=
 wpList_plain Tn fun _ hK=>by
  unfold Oper.wp execOp;simp only[ho,Sem.run_bind,UC w,Result.andThen_ok];exact hK _ _ h
theorem pQ {t:TypeId}{z:Array PH}(hbu:prog.built t [(0,v)]=OM z){ops:Array Oper}{rest:List Oper}{o:Oper}{a:Act}{w:PG}{Q:Exit->Act->PG->Prop}(Tn:o.guard=Pk)(x:Operand)(ho:o.op=.build t #[(0,x)])
  (hx:a.eval x=v) (h:wpList prog ops Q rest (a.put o.dst (.agg z)) w):wpList prog ops Q (o::rest) a w :=
 wpList_plain Tn fun _ hK=>by
  have e:prog.built t ((#[(0,x)]:Array (Nat×Operand)).map fun (i,x)=>(i,a.eval x)).toList=OM z:=by
   have e0:((#[(0,x)]:Array (Nat×Operand)).map fun (i,x)=>(i,a.eval x)).toList=[(0,a.eval x)]:=(by simp);rw[e0,hx];exact hbu
  refine wp_build t #[(0,x)] ho (by rw[e];rfl) ?_;rw[e];exact hK _ _ h
theorem qe (i:Nat):(kX c F)[1+i]? = (cX F++isL F)[i]? := by
 unfold kX;rw[Po,List.getElem?_cons_succ]
structure gK (w:PG) (b:Nat) (c:Int) (F:Int->Option (Int×Int)):Prop where
 a0:w.cell? ⟨b,0,Pk⟩=OM (PE PF c)
 s0:∀p:Nat,p<256->w.cell? ⟨b,1+p*2,Pk⟩=OM (PE PF (js F p))
 d0:∀p:Nat,p<256->w.cell? ⟨b,1+p*2+1,Pk⟩=OM (PE PF (iT F p))
 i0:∀p:Nat,p<256->w.cell? ⟨b,513+p,Pk⟩=OM (.bool (F p).isSome)
theorem gK.lt (h:gK w b c F):b<w.heap.size:=MK w _ h.a0
theorem gK.below (h:gK w b c F)(hb:PI w.heap.size w w'):gK w' b c F:=by
 have k:∀{a:Addr}{v:PH},w.cell? a=OM v->w'.cell? a=OM v:=fun {a v} h=>(hb.cell (MK w a h)).trans h;exact⟨k h.a0,fun p hp=>k (h.s0 p hp),fun p hp=>k (h.d0 p hp),fun p hp=>k (h.i0 p hp)⟩
theorem yI (F:Int->Option (Int×Int))(i:Nat)(hi:i<512):(cX F)[i]? = OM (NB .i64 (if i%2=0 then js F (i/2:Nat) else iT F (i/2:Nat))):=by
 unfold cX;rw[NF,Oj hi];rfl
theorem Lr (F:Int->Option (Int×Int))(i:Nat)(hi:i<256):(isL F)[i]? = OM (OZ (F (i:Int)).isSome):=by
 unfold isL;rw[NF,Oj hi];rfl
theorem yJ (h:w.rangeAt b 0 (kX c F)):gK w b c F:=by
 have at_:∀j v,(kX c F)[j]? = OM v->w.cell? ⟨b,j,Pk⟩=OM v:=fun j v hj=>by have:=h j v hj;rw[M8]at this;exact this
 refine⟨at_ 0 _ rfl,fun p hp=>at_ _ _ ?_,fun p hp=>at_ _ _ ?_,fun p hp=>at_ _ _ ?_⟩
 ·rw[qe,Nd (by rw[di];omega),yI F _ (by omega)];rw[if_pos (by omega),show p*2/2=p by omega]
 ·rw[show 1+p*2+1=1+(p*2+1) by omega,qe,Nd (by rw[di];omega),yI F _ (by omega)];rw[if_neg (by omega),show (p*2+1)/2=p by omega]
 ·rw[show 513+p=1+(512+p) by omega,qe,Ni (by rw[di];omega),di,show 512+p-512=p by omega];exact Lr F p hp
theorem EJ (h0:w.cell? ⟨b,0,Pk⟩=OM (PE PF c))(h1:w.rangeAt b 1 (cX F))(h2:w.rangeAt b 513 (isL F)):w.rangeAt b 0 (kX c F):=by
 intro j v hj;rw[M8];cases j with
 |zero =>
  have:v=PE PF c:=(Option.some.inj hj).symm;rw[this];exact h0
 |succ j =>
  rw[Po,qe]at hj;by_cases q:j<512
  ·rw[Nd (by rw[di];exact q)]at hj;rw[Po];exact h1 j v hj
  ·rw[Ni (by rw[di];omega),di]at hj;have:=h2 (j-512) v hj;rw[show 513+(j-512)=j+1 by omega]at this;exact this
theorem uc {n o' n':Nat}(h:w.there b o n)(h1:o<=o')(h2:o'+n'<=o+n):w.there b o' n':=fun j hj=>by
 have:=h (o'-o+j) (by omega);rw[show o+(o'-o+j)=o'+j by omega]at this;exact this
theorem pM {n:Nat}(h:w.there b o n)(hl:b<w.heap.size)(hb:PI w.heap.size w w'):w'.there b o n:=fun j hj=>by
 rw[hb.cell (p:=⟨b,o+j,Pk⟩) hl,hb.frozen (p:=⟨b,o+j,Pk⟩) hl];exact h j hj
def J8 (w w':PG) (e:Ending) (W H:Int) (bl:Nat->Bool) (o:Int):Prop :=
 ∃F,e=PM (.agg (kX o F).toArray)/\ct (aF W H bl) o F/\PI w.heap.size w w'
theorem Mp {n:Nat}(h:w.there b o n)(j:Nat)(hj:j<n):w.frozen? ⟨b,o+0+j,Pk⟩=false:=(h j hj).2
theorem Mq {n:Nat}(h:w.there b o n)(j:Nat)(hj:j<n):(w.cell? ⟨b,o+0+j,Pk⟩).isSome=true:=(h j hj).1
theorem stored {n:Nat}{l:List PH}(hl:l.length=n)(h:w.there b o n)(ho:∀v∈l,v.oneCell'=Pm):(storeCells ⟨b,o,Pk⟩ l).run prog w=.ok () (w.setCells b o l) :=
 run_storeCells_cells (P:=prog) b o l 0 w (fun j hj=>Mq h j (by omega)) (fun j hj=>Mp h j (by omega)) ho
theorem yK {P:Program}{fn:Func}{tmps:Array PH}{s:TypeId}{A:Addr}{u:PH}(hr:fn.results=#[.cell i s])(a:tmps.getD i undef=.pointer (OM A))
  (h:(loadVar s A).run P w=.ok u w):(results fn tmps).run P w=.ok u w:=by
 unfold results;rw[hr];rw[Array.getD_eq_getD_getElem?]at a;simp[a,h,asAddr]
theorem Mr {M:Nat}{bl:Nat->Bool}{z0 zc:List PH}(c:Nat)(w:PG)(g:bg w M W H V bl)(UJ:M<w.heap.size)(hr:inB W H c=Pm)
  (UC:∀w:PG,(Instr.alloc 199 Pm (.tuple #[])).run prog w=.ok (.pointer (OM ⟨w.heap.size,0,Pk⟩)) (w.alloc (.cells z0.toArray 199)))
  (hbu:prog.built 199 [(0,PE PF (c:Int))]=OM zc.toArray) (l0:z0.length=769) (lc:zc.length=769) (oc:∀v∈zc,v.oneCell'=Pm) (a0:zc[0]? = OM (PE PF (c:Int))) :
  PK prog 104 #[.pointer (OM ⟨M,0,Pk⟩),PE PF (c:Int)] w fun e w'=>J8 w w' e W H bl c:=by
 have ZE:=gY w z0 199 769 l0;have th1:=gY (w.alloc (.cells z0.toArray 199)) z0 199 769 l0;have P3:(w.alloc (.cells z0.toArray 199)).heap.size=w.heap.size+1:=by simp
 rw[P3]at th1;have ZE:=World.there_alloc ZE (.cells z0.toArray 199);have B1:PI w.heap.size w ((w.alloc (.cells z0.toArray 199)).alloc (.cells z0.toArray 199)):=(al.alloc aj _).alloc (by simp) _;have Qq:=stored lc th1 oc;have B2:PI w.heap.size w (((w.alloc (.cells z0.toArray 199)).alloc (.cells z0.toArray 199)).setCells (w.heap.size+1) 0 zc):=bW _ (by omega) _ _ B1;have hr1:=NG ((w.alloc (.cells z0.toArray 199)).alloc (.cells z0.toArray 199)) (w.heap.size+1) 0 zc (by rw[lc];exact th1);have ha1:=hr1 0 _ a0;have ZE:=NU ZE (w.heap.size+1) 0 zc;have th1:=NU th1 (w.heap.size+1) 0 zc;go_enter func104,ntmps104;go_wp2_with (first|(refine pP UC rfl rfl ?_)|(refine pQ hbu rfl _ rfl rfl ?_));clear Qq hr1 B1 oc a0;generalize ((w.alloc (.cells z0.toArray 199)).alloc (.cells z0.toArray 199)).setCells (w.heap.size+1) 0 zc=W2 at *;have Ze:w.heap.size+1<W2.heap.size:=aJ ha1;have RY:=jT c W2 (g.below B2 UJ) (MN UJ B2.size) hr;refine RY.mono ?_;rintro e w3 ⟨F,rfl,BF,hb3⟩;have B3:=ak B2 hb3;have ha3:=(hb3.cell (p:=⟨w.heap.size+1,0+0,Pk⟩) Ze).trans ha1;have ZE:=pM ZE (by omega) hb3;have th1:=pM th1 Ze hb3;have lC:=di F;have lI:=lJ F;have oC:=lK F;have oI:=p6 F;have oR:=yH (c:Int) F;have lR:=yG (c:Int) F;have tC:w3.there (w.heap.size+1) 1 512:=uc th1 (by omega) (by omega);have tI:(w3.setCells (w.heap.size+1) 1 (cX F)).there (w.heap.size+1) 513 256:=NU (uc th1 (by omega) (by omega)) _ _ _;have s1:=stored lC tC oC;have s2:=stored lI tI oI;have rC:((w3.setCells (w.heap.size+1) 1 (cX F)).setCells (w.heap.size+1) 513 (isL F)).rangeAt (w.heap.size+1) 1 (cX F):=NL (NG _ _ _ _ (by rw[lC];exact tC)) _ _ _ (MF (MG (by omega)));have rI:((w3.setCells (w.heap.size+1) 1 (cX F)).setCells (w.heap.size+1) 513 (isL F)).rangeAt (w.heap.size+1) 513 (isL F):=NG _ _ _ _ (by rw[lI];exact tI);have rA:((w3.setCells (w.heap.size+1) 1 (cX F)).setCells (w.heap.size+1) 513 (isL F)).cell? ⟨w.heap.size+1,0,Pk⟩=OM (PE PF (c:Int)):=by
  have k1:w3.rangeAt (w.heap.size+1) 0 [PE PF (c:Int)]:=fun j v hj=>by
   cases j with
   |zero=>cases hj;exact ha3
   |succ j=>cases hj
  have k2:=NL (NL k1 (w.heap.size+1) 1 (cX F) (MF (MG (by simp)))) (w.heap.size+1) 513 (isL F) (MF (MG (by simp)));exact k2 0 _ rfl
 have rR:=EJ rA rC rI;have B4:PI w.heap.size w ((w3.setCells (w.heap.size+1) 1 (cX F)).setCells (w.heap.size+1) 513 (isL F)):=bW _ (by omega) _ _ (bW _ (by omega) _ _ B3);have ZE:=NU (NU ZE (w.heap.size+1) 1 (cX F)) (w.heap.size+1) 513 (isL F);have s3:=stored lR ZE oR;have rF:(((w3.setCells (w.heap.size+1) 1 (cX F)).setCells (w.heap.size+1) 513 (isL F)).setCells w.heap.size 0 (kX (c:Int) F)).rangeAt w.heap.size 0 (kX (c:Int) F):=NG _ _ _ _ (by rw[lR];exact ZE);have B5:PI w.heap.size w (((w3.setCells (w.heap.size+1) 1 (cX F)).setCells (w.heap.size+1) 513 (isL F)).setCells w.heap.size 0 (kX (c:Int) F)):=bW _ aj _ _ B4;clear rC rI rA oC oI tC tI ha3 ha1 B3 B2 RY hb3 B4;generalize hRL:kX (c:Int) F=RL at *;have HRL:=ae hRL;clear hRL;generalize cX F=CL at *;generalize isL F=IL at *;go_wp2_with (refine wpList_load_mid rfl 199 _ rfl (w.heap.size+1) 0 rfl RL _ rR underlying199 rfl (by rw[lP,lR]) ?_);refine bodyPost_ret (v:=.agg RL.toArray) (yK results104 rfl (run_loadVar_mid _ w.heap.size 0 199 RL _ rF underlying199 rfl (by rw[lP,lR]))) rfl ⟨F,by rw[HRL.out],BF,B5⟩
theorem Iw {M:Nat}{bl:Nat->Bool}(c:Nat)(w:PG)(g:bg w M W H V bl)(UJ:M<w.heap.size)(hr:inB W H c=Pm) :
  PK prog 104 #[.pointer (OM ⟨M,0,Pk⟩),PE PF (c:Int)] w fun e w'=>J8 w w' e W H bl c :=
 Mr c w g UJ hr vg (Iv c) (Iu 0) (Iu c) (Lq c) rfl
end
section
open Go.RowKit
def sg (w:PG) (A:Option Addr) (W a:Int) (l:List Nat):Prop:=∀i,i<l.length->∃b,A=OM ⟨b,0,Pk⟩/\b<w.heap.size/\w.cell? ⟨b,i*4,Pk⟩=OM (PE PF ((l.getD i 0:Nat):Int))/\w.cell? ⟨b,i*4+1,Pk⟩=OM (PE PF (aO W a ((l.getD i 0:Nat):Int)))/\w.cell? ⟨b,i*4+2,Pk⟩=OM (PE PF (aK W a ((l.getD i 0:Nat):Int)))/\w.cell? ⟨b,i*4+3,Pk⟩=OM (PE PF (-1))
theorem sg.below (h:sg w A W a l)(hb:PI w.heap.size w w'):sg w' A W a l:=fun i hi=>by
 obtain⟨b,e,h0,h1,h2,h3,h4⟩:=h i hi;exact⟨b,e,MN h0 hb.size,(hb.cell (p:=⟨b,i*4,Pk⟩) h0).trans h1,(hb.cell (p:=⟨b,i*4+1,Pk⟩) h0).trans h2,(hb.cell (p:=⟨b,i*4+2,Pk⟩) h0).trans h3,(hb.cell (p:=⟨b,i*4+3,Pk⟩) h0).trans h4⟩
end
end Go.Proofs.YtmaefimaeelkbaaGreatDoor
