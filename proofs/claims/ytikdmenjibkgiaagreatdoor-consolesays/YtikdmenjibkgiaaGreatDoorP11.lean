/- Texts laid together. -/
import Derived.Test.YtikdmenjibkgiaaGreatDoorP10
namespace Go.Proofs.YtikdmenjibkgiaaGreatDoor
open Go.Proofs.Tryz renaming underlying60->Vyg,prog->Vyj
open _root_.Array renaming size->G
open _root_.Nat renaming zero_le->Te,zero_add->Tm,le_trans->Tg
open _root_.Or renaming inr->SP,inl->SQ
open _root_.List renaming getElem?_eq_getElem->SU,length_append->Td,take_add_one->Ty,take_length->Tl,pairwise_map->UY,mem_range->Up,mem_map->TX,mem_of_getElem?->Ti,pairwise_singleton->UZ,mem_singleton->Tv,pairwise_append->Vh,mem_append->Tn,length->K
open Go.World renaming cell?_alloc_at->SR,cell?->D,alloc->E,ownsRow->G'
open _root_.Int renaming toNat_natCast->Ta
open Go.Value renaming int->VN,ownBlock->M'
open Go.IntKind renaming i64->VO
open Go.Proofs.Tryz
open _root_.Option renaming some->Z,none->UP
open _root_.Bool renaming true->Q
open Go renaming World->M,Value->Vr,wpList_append_own->Vxk,maxLen->Vyf
open Go.RowKit renaming Below->Vw,Hid->Vy
open Go.Ending renaming returned->VJ
open Go.Obj renaming cells->VP
variable {c a n N gf lb r nh vb eb top:Nat}{w:M}{g:Int->Int×Int}{v:Vr}{cs:List Vr}{s d:Int}{f:Int->Option Vr}{src:Int->Int->Int->Prop}{P:Int->Int->Prop}
set_option maxHeartbeats 8000000
set_option maxRecDepth 1000000
open Go.RowKit
section
open Go.RowKit Go.Maps
section
variable {N lb vb eb top n : Nat} {L : List Nat} {st : LSt} {f : Int → Option Vr}
theorem Nn (w:M)(V:cR w N lb vb eb top L st f):Eq9 102 #[Pq lb] w (J (top:Int)):=by
 have a:=V.c0;clear V;generalize (top:Int)=t at *;go_enter func102,ntmps102;go_wp2;go_ret;exact⟨rfl,rfl⟩
theorem rB (w:M)(V:cR w N lb vb eb top L st f)(a:n∈L):Eq9 236 #[Pq lb,J (n:Int)] w (.tuple #[J (st.VE n:Int),.nilIface]):=by
 have c:=V.c1;have b:(Instr.lookup 144 (.map (Z vb)) (J (n:Int)) Q).run Vyj w=.ok (.tuple #[J (st.VE n:Int),.bool Q]) w:=V.lv.Ui aV Tryz.Vxf (mX w) (aE U (Oq (V.bd n a))) (vO a) Q;clear V;generalize (st.VE n:Int)=t at *;go_enter func236,ntmps236;go_wp2;go_ret2;exact⟨rfl,rfl⟩
theorem JC {c:Int}(w:M)(V:cR w N lb vb eb top L st f)(b:¬(0<=c/\c.toNat∈L))(a:(Lit.int .i64 c).wf=Q):Eq9 236 #[Pq lb,J c] w (.tuple #[J 0,.iface 42 (J 5)]):=by
 have e:=V.c1;have d:(Instr.lookup 144 (.map (Z vb)) (J c) Q).run Vyj w=.ok (.tuple #[J 0,.bool false]) w:=V.lv.u6 aV Tryz.Vxf (mX w) a (by unfold lvF;rw[Q6 b]) Q;clear V;go_enter func236,ntmps236;go_wp2;go_ret2;exact⟨rfl,rfl⟩
theorem CJ (w:M)(V:cR w N lb vb eb top L st f)(h:n∈L)(b:K (st.es n)<=256):Zq 241 #[Pq lb,J (n:Int)] w λ e I=>∃v,e=VJ (.tuple #[v,.nilIface])/\G' I (G w.heap) 203 4 v (K (st.es n)) (bB (st.es n))/\Bq w I:=by
 have t:=V.c2;obtain⟨v,i,a⟩:=V.row n h;have s:(Instr.lookup 137 (.map (Z eb)) (J (n:Int)) Q).run Vyj w=.ok (.tuple #[v,.bool Q]) w:=V.em.Ui aV Tryz.Vxa (mm w) (aE U (Oq (V.bd n h))) i Q;clear V i;rcases a.2 with⟨rfl,j⟩|⟨g,o,m,rfl,_⟩
 ·have c:=xX w;have k:st.es n=[]:=List.length_eq_zero_iff.1 j;have q:=qH k;clear a j k;go_enter func241,ntmps241;go_wp2_with fail;refine Q0 c ?_;clear c;go_wp2;go_ret2;refine⟨_,rfl,?_,ae⟩;rw[q.out];exact World.ownsRow_nil _ _ _ _
 ·have c:=xY w (cu a (Te _)) (gW _) b;generalize K (st.es n)=l at *;clear a;go_enter func241,ntmps241;go_wp2_with fail;refine c.mono ?_;rintro e r ⟨v',rfl,p,d⟩;clear c;go_wp2;go_ret2;exact⟨_,rfl,p,d⟩
end
end
section
open Go.RowKit Go.Maps Go.Lib
def pZ (w:M) (a o:Nat) (l:Ln):Prop:=∀j u,(aH l)[j]? = Z u->D w ((O a o:Addr).add j)=Z u
theorem pZ.below {I:M}{o:Nat}{l:Ln}(h:pZ w a o l)(b:Bq w I):pZ I a o l:=by grind [pZ,Go.Addr.add_lit,Go.RowKit.Below.cell,Go.World.block_lt_of_cell?]
theorem jl (l:Ln):K (aH l)=K l:=by simp[aH]
theorem mG (l:Ln):∀u∈aH l,u.oneCell'=true:=by
 intro u a;simp[aH]at a;obtain⟨n,_,rfl⟩:=a;rfl
theorem p6 (l l':Ln):aH (l++l')=aH l++aH l':=by simp[aH]
theorem JD (w:M)(s:0<n)(y:n<=1000):Zq 290 #[.slice UP 0 0,J (n:Int)] w λ e I=>∃v,e=VJ v/\G' I (G w.heap) 3 1 v 0 (aH [])/\Bq w I:=by
 obtain⟨p,l,u,z,q⟩:=info_parts Tryz.Vxg;obtain⟨a,i⟩:∃a,a=grownCap w n 0 3:=⟨_,rfl⟩;have b:(Builtin.firstCells p.size 0 (.slice UP 0 0)).run Vyj w.drew=.ok ([]:List Vr).toArray w.drew:=by
  simp[Builtin.firstCells]
 obtain⟨g,d⟩:∃g:Array Vr,g=([]:List Vr).toArray++Builtin.zeroCells (J 0).cells n++Builtin.zeroCells (J 0).cells (a-n):=⟨_,rfl⟩;have r:n<=a:=by rw[i];exact grownCap_ge w _ _ _
 have c:a<=Vyf:=by rw[i];exact grownCap_le_maxLen w _ _ _ mQ
 have k:∀j,(Builtin.append_ #[60,3] j #[.slice UP 0 0,J (n:Int)]).run Vyj w=.ok (.slice (Z (O (G w.heap) 0)) n a) (E w.drew (.cells g 3)):=λ j=>by
  have h:=Lib.run_append_grow_zeros w 60 3 j 3 p _ .i64 .i64 Vyg aV l u UP 0 0 [] b n s U U U (by rw[q];omega) (by rw[q,Tm];exact growslice_fits U U);rw[Tm,<- i]at h;rw[d];exact h
 have f:g.size=a*1:=by
  rw[d];simp[Builtin.zeroCells,Value.cells];omega
 have t:a<=9223372036854775807:=by unfold Vyf at c;omega
 have x:(0:Int)<(n:Int):=U;have m:Vy _:=f;have o:Vy _:=c;clear i d b f c;go_enter func290,ntmps290;go_wp2_with (at_builtin;refine Lib.wpList_append_run _ rfl _ _ _ _ rfl _ _ rfl rfl _ _ (k _) ?_);go_wp2;go_ret;refine⟨_,rfl,⟨rfl,SP ⟨G w.heap,a,g,rfl,aa,heap_alloc_new w _,Te _,o.out,m.out,by simp[aH]⟩⟩,(ae.drew).alloc aa _⟩
theorem CM {g s A c1 r y c2:Nat}{l1 l2:Ln}(w:M)(S:Cq w g 0 (.slice (Z (O s A)) (K l1) c1))(q1:Cq w g 1 (.slice (Z (O r y)) (K l2) c2))(x:pZ w s A l1)(u:pZ w r y l2)(h1:0<K l1)(h2:0<K l2)(b1:K l1<=300)(b2:K l2<=300) :
  Zq 266 #[.slice (Z (O g 0)) 2 2] w λ e I=>∃v,e=VJ v/\G' I (G w.heap) 3 1 v (K (l1++l2)) (aH (l1++l2))/\Bq w I:=by
 obtain⟨T,V,Y,X,W⟩:=info_parts Tryz.Vxg;have ab:s<G w.heap:=by
  have:=x 0 _ (SU (by rw[jl];omega));rw[Addr.add_lit]at this;exact aB this
 have WY:r<G w.heap:=by
  have:=u 0 _ (SU (by rw[jl];omega));rw[Addr.add_lit]at this;exact aB this
 have k:g<G w.heap:=aB S;have WT:=qH x;have N:=qH u;have P:Vy (K (l1++l2)=K l1+K l2):=Td;clear x u;go_enter func266,ntmps266;go_wp2;go_loopw [3,11] (λ t iv wr=>Vy (wr=w)/\((t=J 0/\iv=J 0)\/(t=J (K l1:Int)/\iv=J 1)\/(t=J ((K l1:Int)+(K l2:Int))/\iv=J 2)))
  (λ _ i _=>2-(intOf i).toNat)
 case atStart=>exact⟨(rfl:_=_),SQ ⟨rfl,rfl⟩⟩
 case round =>
  obtain⟨d,h|h|h⟩:=hrel
  all_goals
   have d:=d.out;subst d
  ·obtain⟨rfl,rfl⟩:=h;go_wp2;go_roundw
   case rel=>exact⟨by first|exact trivial|exact rfl,SP (SQ ⟨rfl,rfl⟩)⟩
   case measure=>simp[intOf]
  ·obtain⟨rfl,rfl⟩:=h;go_wp2;go_roundw
   case rel=>exact⟨by first|exact trivial|exact rfl,SP (SP ⟨rfl,rfl⟩)⟩
   case measure=>simp[intOf]
  ·obtain⟨rfl,rfl⟩:=h;obtain⟨a,F⟩:∃a,a=wr:=⟨_,rfl⟩;subst F;have f:=JD (n:=K l1+K l2) a U U;rw[Int.natCast_add]at f;go_wp2_with fail;refine f.mono ?_;rintro e w5 ⟨v5,rfl,b,H⟩;clear f;have z5:=H.size;go_wp2;go_loopw [6,27] (λ B iv o=>Bq a o/\((iv=J 0/\G' o (G a.heap) 3 1 B 0 (aH []))\/(iv=J 1/\G' o (G a.heap) 3 1 B (K l1) (aH l1))\/(iv=J 2/\G' o (G a.heap) 3 1 B (K (l1++l2)) (aH (l1++l2)))))
    (λ _ i _=>2-(intOf i).toNat)
   case atStart=>exact⟨H,SQ ⟨rfl,b⟩⟩
   case round =>
    clear b H z5;obtain⟨c,h|h|h⟩:=hrel
    ·obtain⟨rfl,b⟩:=h;have p:=(c.cell (p:=O g 0) k).trans S;have src:=WT.out.below c;have z:=c.size;go_wp2_with (at_builtin;refine Vxk _ rfl _ _ 60 rfl (G a.heap) 3 T (J 0) 1 8 Vyg V Y X W rfl dQ _ _ _ rfl b (O s A) (K l1) c1 (aH l1) rfl ?c0 src (mG _) ?c3 ?c4 ?c5 ?_)
     case c0=>rw[jl];omega
     case c3=>unfold Vyf;omega
     case c4=>omega
     case c5=>exact z
     intro v' j l m _;have R:Bq a j:=c.grown m z (λ q C=>(b.lt q C).1);have L:G' j (G a.heap) 3 1 v' (K l1) (aH l1):=by simpa [aH]using l
     clear l m b c src;go_wp2;go_roundw
     case rel=>exact⟨R,SP (SQ ⟨rfl,L⟩)⟩
     case measure=>simp[intOf]
    ·obtain⟨rfl,b⟩:=h;have p:=(c.cell (p:=O g 1) k).trans q1;have src:=N.out.below c;have z:=c.size;go_wp2_with (at_builtin;refine Vxk _ rfl _ _ 60 rfl (G a.heap) 3 T (J 0) 1 8 Vyg V Y X W rfl dQ _ _ _ rfl b (O r y) (K l2) c2 (aH l2) rfl ?c0 src (mG _) ?c3 ?c4 ?c5 ?_)
     case c0=>rw[jl];omega
     case c3=>unfold Vyf;omega
     case c4=>omega
     case c5=>exact z
     intro v' j l m _;have R:Bq a j:=c.grown m z (λ q C=>(b.lt q C).1);have L:G' j (G a.heap) 3 1 v' (K (l1++l2)) (aH (l1++l2)):=(by rw[p6,P.out];exact l);clear l m b c src;go_wp2;go_roundw
     case rel=>exact⟨R,SP (SP ⟨rfl,L⟩)⟩
     case measure=>simp[intOf]
    ·obtain⟨rfl,b⟩:=h;go_wp2;go_ret;exact⟨_,rfl,b,c⟩
end
def av (A:Int->Option Int):Int->Option Value:=λ a=>(A a).map λ n=>J n
theorem EI {A:Int->Option Int}{a n:Int}(h:A a=Z n):av A a=Z (J n):=by unfold av;rw[h];rfl
theorem EJ {A:Int->Option Int}{a:Int}(h:A a=UP):av A a=none:=by unfold av;rw[h];rfl
theorem Pw (A:Int->Option Int)(a n:Int):bQ (av A) a (J n)=av (qQ A a n):=by grind [bQ,av,qQ]
structure SBk where
 sb:Nat
 cb:Nat
 ab:Nat
 hb:Nat
 mb:Nat
structure bh (w:M) (N:Nat) (k:SBk) (lb r:Nat) (gv v:Vr) (nh na:Nat) (x:SS):Prop where
 c0:D w (O k.sb 0)=Z (Pq lb)
 c1:D w (O k.sb 1)=Z (J (r:Int))
 c2:D w (O k.sb 2)=Z gv
 c3:D w (O k.sb 3)=Z (.map (Z k.cb))
 c4:D w (O k.sb 4)=Z (.map (Z k.ab))
 c5:D w (O k.sb 5)=Z (Pq k.hb)
 fm:bj Vyj 3 w k.cb (fv x.F) (cnt x.F 256)
 am:bj Vyj 3 w k.ab (av x.A) na
 hp:cq w k.hb k.mb v nh x.H
 nb:N<=k.sb/\N<=k.cb/\N<=k.ab/\N<=k.hb/\N<=k.mb
 n1:k.sb≠k.cb/\k.sb≠k.ab/\k.sb≠k.hb/\k.sb≠k.mb
 n2:k.cb≠k.ab/\k.cb≠k.hb/\k.cb≠k.mb
 n3:k.ab≠k.hb/\k.ab≠k.mb
 vo:∀g,M' v=Z g->N<=g/\g≠k.sb/\g≠k.cb/\g≠k.ab
def sb5 (k:SBk) (v:Vr) (g:Nat):Prop:=g=k.cb\/g=k.ab\/hb3 k.hb k.mb v g
section
variable {w I : M} {N : Nat} {k : SBk} {lb r : Nat} {gv v v' : Vr} {nh YA na : Nat} {x : SS}
theorem bh.X' {F:Nat->Prop}(S:bh w N k lb r gv v nh na x)(a:ai F w I)(b:¬F k.sb)(c:∀g,sb5 k v g->¬F g):bh I N k lb r gv v nh na x :=
 ⟨a.cellOf S.c0 b,a.cellOf S.c1 b,a.cellOf S.c2 b,a.cellOf S.c3 b,a.cellOf S.c4 b,a.cellOf S.c5 b,S.fm.X' a (c _ (SQ rfl)),S.am.X' a (c _ (SP (SQ rfl))),S.hp.X' a (c _ (SP (SP (SQ rfl)))) (c _ (SP (SP (SP (SQ rfl))))) (λ g d=>c g (SP (SP (SP (SP d))))),S.nb,S.n1,S.n2,S.n3,S.vo⟩
theorem bh.below (S:bh w N k lb r gv v nh na x)(a:Bq w I):bh I N k lb r gv v nh na x:=S.X' (F:=λ _=>False) (ai.Y' a) id (λ _ _=>id)
theorem bh.from (S:bh w N k lb r gv v nh na x):∀g,sb5 k v g->N<=g/\g≠k.sb:=by
 obtain⟨l,j,i,f,e⟩:=S.nb;obtain⟨d,c,b,a⟩:=S.n1;rintro g (rfl|rfl|rfl|rfl|h)
 grind
 grind
 grind
 grind
 exact⟨(S.vo g h).1,(S.vo g h).2.1⟩
theorem bh.Z' (S:bh w N k lb r gv v nh na x)(b:ai (sb5 k v) w I):Vw N w I:=b.Z' (by have:=S.nb.1;have:k.sb<G w.heap:=aB S.c0;omega) (λ g a=>(S.from g a).1)
theorem bh.cost (S:bh w N k lb r gv v nh na x){F':Int->Oi}(a:ai (λ g=>g=k.cb) w I)(d:bj Vyj 3 I k.cb (fv F') (cnt F' 256)):bh I N k lb r gv v nh na ⟨F',x.A,x.H⟩:=by
 obtain⟨b,i,h,f⟩:=S.n1;obtain⟨d1,d2,d3⟩:=S.n2;exact⟨a.cellOf S.c0 b,a.cellOf S.c1 b,a.cellOf S.c2 b,a.cellOf S.c3 b,a.cellOf S.c4 b,a.cellOf S.c5 b,d,S.am.X' a (λ e=>d1 e.symm),S.hp.X' a (λ e=>d2 e.symm) (λ e=>d3 e.symm) (λ g c=>(S.vo g c).2.2.1),S.nb,S.n1,S.n2,S.n3,S.vo⟩
theorem bh.ahead (S:bh w N k lb r gv v nh na x){A':Int->Option Int}{na':Nat}(a:ai (λ g=>g=k.ab) w I)(h:bj Vyj 3 I k.ab (av A') na'):bh I N k lb r gv v nh na' ⟨x.F,A',x.H⟩:=by
 obtain⟨l,b,j,i⟩:=S.n1;obtain⟨d1,d2,d3⟩:=S.n2;obtain⟨f,d⟩:=S.n3;exact⟨a.cellOf S.c0 b,a.cellOf S.c1 b,a.cellOf S.c2 b,a.cellOf S.c3 b,a.cellOf S.c4 b,a.cellOf S.c5 b,S.fm.X' a d1,h,S.hp.X' a (λ e=>f e.symm) (λ e=>d e.symm) (λ g c=>(S.vo g c).2.2.2),S.nb,S.n1,S.n2,S.n3,S.vo⟩
theorem bh.heap (S:bh w N k lb r gv v nh na x){c:Int->Oi}(a:ai (hb3 k.hb k.mb v) w I)(d:cq I k.hb k.mb v' YA c)(e:∀g,M' v'=Z g->M' v=Z g\/G w.heap<=g)(t:N<=G w.heap):bh I N k lb r gv v' YA na ⟨x.F,x.A,c⟩:=by
 obtain⟨y,u,o,n⟩:=S.n1;obtain⟨d1,d2,d3⟩:=S.n2;obtain⟨m,l⟩:=S.n3;have p:k.sb<G w.heap:=aB S.c0;have q:=S.fm.lt;have s:=S.am.lt;have b:¬hb3 k.hb k.mb v k.sb:=by
  rintro (h|h|h);exact o h;exact n h;exact(S.vo _ h).2.1 rfl
 have i:¬hb3 k.hb k.mb v k.cb:=by
  rintro (h|h|h);exact d2 h;exact d3 h;exact(S.vo _ h).2.2.1 rfl
 have j:¬hb3 k.hb k.mb v k.ab:=by
  rintro (h|h|h);exact m h;exact l h;exact(S.vo _ h).2.2.2 rfl
 refine⟨a.cellOf S.c0 b,a.cellOf S.c1 b,a.cellOf S.c2 b,a.cellOf S.c3 b,a.cellOf S.c4 b,a.cellOf S.c5 b,S.fm.X' a i,S.am.X' a j,d,S.nb,S.n1,S.n2,S.n3,λ g f=>?_⟩;rcases e g f with h|h
 exact S.vo g h
 grind
end
def CN (w0:M) (N gf:Nat) (cs:List Vr) (g:Int->Int×Int):Prop:=(∀(args:Array Vr) (w:M),(callFunc gf args).run Vyj w=.ok (.enter gf args) w)/\∀(w:M) (n:Nat),Vw N w0 w->n<256->Zq gf (J (n:Int)::cs).toArray w λ e I=>e=VJ (.agg #[J (g n).1,J (g n).2])/\Vw (G w.heap) w I
theorem wI {Ng:Nat}{k:SBk}{r na:Nat}{x:SS}{s d:Int}(w0 w:M)(S:bh w N k lb r (.func (.func gf) #[] cs.toArray) v nh na x)(Y:CN w0 Ng gf cs g)(aN:Ng<=N)(hB:Vw Ng w0 w)(hn:n<256)(hc:okC s d)(hF:∀{p q},x.F (n:Int)=Z (p,q)->okC p q)(ag:okC (g n).1 (g n).2)(hk:okC (s+(g n).1) (d+(g n).2))(ax:nh<1000000) :
  Zq 238 #[Pq k.sb,J (n:Int),.agg #[J s,J d]] w λ e I=>e=VJ (.bool (bE x.F (n:Int) s d))/\∃v' YA,bh I N k lb r (.func (.func gf) #[] cs.toArray) v' YA na (fD g x (n:Int) s d)/\YA<=nh+1/\ai (sb5 k v) w I/\∀g,M' v'=Z g->M' v=Z g\/G w.heap<=g:=by
 have Y2:=aE (a:=(n:Int)) U U;have b0:Bq w (E w (VP #[J s,J d] 90)):=ae.alloc aa _;have S0:=S.below b0;have i:=bz.new w s d;have q3:=S0.c3;have l0:=i.c0;have l1:=i.c1;have XO:=jj x.F 256;have R:N<=G w.heap:=by have:=S.nb.1;have:k.sb<G w.heap:=aB S.c0;omega
 obtain⟨gs,gd,L⟩:∃gs gd,g (n:Int)=(gs,gd):=⟨_,_,rfl⟩;have l:bE x.F (n:Int) s d=Q->fD g x (n:Int) s d=⟨aC x.F (n:Int) s d,x.A,pushH x.H (n:Int) (s+gs) (d+gd)⟩:=λ h=>by
  unfold fD;rw[Q5 h,L]
 rw[L]at ag hk;have ao:¬hb3 k.hb k.mb v k.sb:=λ h=>(S.from _ (SP (SP h))).2 rfl;have ad:¬hb3 k.hb k.mb v (G w.heap):=λ h=>Q8 (DP S.hp h) (Nat.lt_irrefl _);rcases hx:x.F (n:Int) with _|⟨p,q⟩
 have hl:(Instr.lookup 251 (.map (Z k.cb)) (J (n:Int)) Q).run Vyj (E w (VP #[J s,J d] 90))=.ok (.tuple #[.agg #[J 0,J 0],.bool false]) (E w (VP #[J s,J d] 90)):=S0.fm.u6 aV Tryz.Vxc (k9 _) Y2 (lX hx) Q;have o:bE x.F (n:Int) s d=true:=gy.2 (λ p q h=>by rw[hx]at h;cases h);rw[l o,o];have P:∀{ww:M}{f:Int->Option Vr},bj Vyj 3 ww k.cb f (if (fv x.F (n:Int)).isSome then cnt x.F 256 else cnt x.F 256+1)->bj Vyj 3 ww k.cb f (cnt (aC x.F (n:Int) s d) 256):=λ h=>by
  rw[lX hx]at h;rw[gZ x.F (n:Int) s d 256 U U hx];exact h
 have bA:=b0.alloc b0.size (VP #[J 0,J 0] 90);have B:bz ((E w (VP #[J s,J d] 90)).alloc (VP #[J 0,J 0] 90)) (G w.heap) s d:=i.below (ae.alloc aa _);clear l o hF;go_enter func238,ntmps238;go_wp2_with fail;clear hl S0 q3 l0 l1;generalize (E w (VP #[VN VO s,VN VO d] 90)).alloc (VP #[VN VO 0,VN VO 0] 90)=wA at *
 rotate_left
 have hl:(Instr.lookup 251 (.map (Z k.cb)) (J (n:Int)) Q).run Vyj (E w (VP #[J s,J d] 90))=.ok (.tuple #[.agg #[J p,J q],.bool Q]) (E w (VP #[J s,J d] 90)):=S0.fm.Ui aV Tryz.Vxc (k9 _) Y2 (iW hx) Q;have C:=hF hx;have b1:=b0.alloc b0.size (VP #[J p,J q] 90);have b:bz ((E w (VP #[J s,J d] 90)).alloc (VP #[J p,J q] 90)) (G w.heap) s d:=i.below (ae.alloc aa _);have z:bz ((E w (VP #[J s,J d] 90)).alloc (VP #[J p,J q] 90)) (G w.heap+1) p q:=by
  have h:=bz.new (E w (VP #[J s,J d] 90)) p q;have e:G (E w (VP #[J s,J d] 90)).heap=G w.heap+1:=by simp
  rw[e]at h;exact h
 have m0:=b.c0;have m1:=b.c1;have m2:=z.c0;have m3:=z.c1;have VS:=lV (r:=bE x.F (n:Int) s d) (s:=s) (d:=d) (t:=p) (u:=q) (by
  unfold bE;rw[hx];show ltB s d p q=decide (val s d<val p q);cases hb:ltB s d p q with
  |true=>exact(Q2 ((fg hc C).1 hb)).symm
  |false=>exact(Q3 (λ h=>by rw[(fg hc C).2 h]at hb;cases hb)).symm) ((E w (VP #[J s,J d] 90)).alloc (VP #[J p,J q] 90)) hc C
 rcases o:bE x.F (n:Int) s d with _|_
 ·have Yp:fD g x (n:Int) s d=x:=by unfold fD;rw[o];rfl
  rw[Yp];rw[o]at VS;clear l hx hF Yp;go_enter func238,ntmps238;go_wp2_with fail;refine Q9 VS λ w3 an=>?_;have b3:=b1.trans (an.mono b1.size);have S3:=S.below b3;clear VS hl S0 q3 l0 l1 m0 m1 m2 m3 b z an b1;go_wp2;go_ret;exact⟨rfl,v,nh,S3,U,ai.Y' b3,λ _ h=>SQ h⟩
 rw[l o];rw[o]at VS;have P:∀{ww:M}{f:Int->Option Vr},bj Vyj 3 ww k.cb f (if (fv x.F (n:Int)).isSome then cnt x.F 256 else cnt x.F 256+1)->bj Vyj 3 ww k.cb f (cnt (aC x.F (n:Int) s d) 256):=λ h=>by
  rw[iW hx]at h;rw[jF x.F (n:Int) s d 256 (by rw[hx];rfl)];exact h
 clear l hx hF o;go_enter func238,ntmps238;go_wp2_with fail;refine Q9 VS λ wA ZV=>?_;have bA:=aj b1 ZV;have B:=b.below ZV;clear VS hl S0 q3 l0 l1 m0 m1 m2 m3 b z ZV b1;go_wp2_with fail
 all_goals
  have S1:=(S.below bA).below (I:=wA.drew) (ae.drew);have m:bz wA.drew (G w.heap) s d:=B.below (ae.drew);obtain⟨y,a2,ZW,ac⟩:=S1.fm.store aV Tryz.Vxc mQ Y2 (.agg #[J s,J d]);have X:Vw N w wA.drew:=(bA.mono R).drew;have q3:=S1.c3;have l0:=m.c0;have l1:=m.c1;go_region;go_wp2_with fail;have K2:=aA ac;have S2:=S1.cost (F':=aC x.F (n:Int) s d) K2 (by rw[<- zk];exact P ZW);have B2:Vw N w y:=X.trans (K2.Z' (Tg R X.size) (λ g Y=>by rw[Y];exact S.nb.2.1));have b:=m.X' K2 (Oq S.fm.lt);have au:ai (sb5 k v) w y.drew:=((((ai.Y' bA).drew:ai (sb5 k v) w wA.drew).trans K2 (λ _ _ h=>SQ h))).drew;have S3:=S2.below (I:=y.drew) (ae.drew);have B3:Vw N w y.drew:=B2.drew;have z:bz y.drew (G w.heap) s d:=b.below (ae.drew);have t0:=S3.c2;have t1:=S3.c5;have t2:=z.c0;have t3:=z.c1;have ZJ:=Y.2 y.drew n (hB.trans (B3.mono aN)) hn;rw[L]at ZJ;have ay:=Y.1 (J (n:Int)::cs).toArray y.drew;have WW:Vy (∀YI,_):=λ YI=>lD s d gs gd YI hc ag;have ap:Vy (∀YT,cq YT k.hb k.mb v nh x.H->_):=λ YT h=>Bj (n:Int) (s+gs) (d+gd) YT h hk Y2 ax;have W:Vy _:=S3;have aL:N<=G y.drew.heap:=Tg R B3.size;clear S3 S2 S1 S z b m i B K2 ac ZW a2 X B2 bA b0 P q3 l0 l1;go_region_held3 (λ I=>D I (O k.sb 2)=Z (.func (.func gf) #[] cs.toArray)/\Cq I k.sb 5 (Pq k.hb)/\Cq I (G w.heap) 0 (J s)/\Cq I (G w.heap) 1 (J d)) (first|exact⟨t0,t1,t2,t3⟩|exact⟨u0,u1,u2,u3⟩|exact⟨x0,x1,x2,x3⟩|exact⟨z0,z1,z2,z3⟩)
   (first
    |(go_at_call 242;refine Q9 (WW.out YI) λ YT Xn=>?_;have x0:=al Xn u0;have x1:=al Xn u1;have x2:=al Xn u2;have x3:=al Xn u3;have j:=aj Xa Xn)
    |(go_at_call 262;refine(ap.out YT (W.out.hp.below j)).mono ?_;rintro r a5 ⟨rfl,a0,c⟩;have z0:=c.cellOf x0 ao;have z1:=c.cellOf x1 ao;have z2:=c.cellOf x2 ad;have z3:=c.cellOf x3 ad)
    |(refine Q9 ZJ λ YI Xa=>?_;have u0:=al Xa t0;have u1:=al Xa t1;have u2:=al Xa t2;have u3:=al Xa t3))
  obtain⟨ab,aw,am,a1,T⟩:=a0;have a3:=(W.out.below j).heap c am T (Tg aL j.size);have V:=au.below j;have a4:=V.trans c (λ _ _ h=>SP (SP h));have HO:Vy (∀g,M' ab=Z g->M' v=Z g\/G w.heap<=g):=λ g Y=>by
   rcases T g Y with h|h
   ·exact SQ h
   ·exact SP (Tg V.size h)
  clear t0 t1 t2 t3 u0 u1 u2 u3 x0 x1 x2 x3 z0 z1 z2 z3 c am T W ZJ ay WW ap Xa Xn j B3 au V;go_wp2;go_ret;exact⟨rfl,ab,aw,a3,a1,a4,HO.out⟩
theorem pq (n:Int)(w:M):Eq9 261 #[J n] w (.bool (decide (0<=n/\n<=1048576))):=by
 by_cases h:0<=n
 ·by_cases k:n<=1048576
  ·rw[Q2 (show 0<=n/\n<=1048576 from ⟨h,k⟩)];go_enter func261,ntmps261;go_wp2;go_ret;exact⟨rfl,rfl⟩
  ·rw[Q3 (show ¬(0<=n/\n<=1048576) from λ g=>k g.2)];go_enter func261,ntmps261;go_wp2;go_ret;exact⟨rfl,rfl⟩
 ·rw[Q3 (show ¬(0<=n/\n<=1048576) from λ g=>h g.1)];go_enter func261,ntmps261;go_wp2;go_ret;exact⟨rfl,rfl⟩
theorem yr (s d:Int)(w:M)(h:inC s d):Zq 237 #[.agg #[J s,J d]] w λ e I=>e=VJ .nilIface/\Bq w I:=by
 obtain⟨f,c,b,a⟩:=h;have i:decide (0<=s/\s<=1048576)=true:=Q2 ⟨f,c⟩;have g:decide (0<=d/\d<=1048576)=true:=Q2 ⟨b,a⟩;go_enter func237,ntmps237;go_wp2_with (go_at_call 261;refine Q0 (pq _ _) ?_);go_ret;exact⟨rfl,ae.alloc aa _⟩
theorem vV (s d:Int)(w:M)(h:¬inC s d):Rq 237 #[.agg #[J s,J d]] w (.iface 42 (J 1)):=by
 by_cases g:0<=s/\s<=1048576
 ·have a:=Q2 g;have b:decide (0<=d/\d<=1048576)=false:=Q3 λ k=>h ⟨g.1,g.2,k.1,k.2⟩;clear g h;go_enter func237,ntmps237;go_wp2_with (go_at_call 261;refine Q0 (pq _ _) ?_);go_ret;exact⟨rfl,ae.alloc aa _⟩
 ·have a:=Q3 g;clear g h;go_enter func237,ntmps237;go_wp2_with (go_at_call 261;refine Q0 (pq _ _) ?_);go_ret;exact⟨rfl,ae.alloc aa _⟩
def vW (w:M) (A:Oa) (l:List IE):Prop:=∀(i:Nat) (e:IE),l[i]? = Z e->(Lit.int .i64 e.to).wf=Q/\∃b o,A=Z (O b o)/\D w (O b (o+i*4))=Z (J e.to)/\D w (O b (o+i*4+1))=Z (J e.s)/\D w (O b (o+i*4+2))=Z (J e.d)/\D w (O b (o+i*4+3))=Z (J e.U6)
theorem vW.below {I:M}{A:Oa}{l:List IE}(h:vW w A l)(g:G w.heap<=N)(a:Vw N w I):vW I A l:=λ i e f=>by
 obtain⟨q,b,o,n,d,m,k,j⟩:=h i e f;have c:b<N:=Nat.lt_of_lt_of_le (aB d) g;exact⟨q,b,o,n,(a.cell (p:=O b _) c).trans d,(a.cell (p:=O b _) c).trans m,(a.cell (p:=O b _) c).trans k,(a.cell (p:=O b _) c).trans j⟩
theorem CP (L:Ln)(g:Int->Int×Int){l:List IE}{i:Nat}{e:IE}(h:l[i]? = Z e):eP L g (l.take (i+1))=ni L g (eP L g (l.take i)) e:=by grind [eP,Ty]
theorem wJ {N0 cap:Nat}{L:Ln}{lv:LSt}{A:Oa}{l:List IE}(X w:M)(V0:cR X N0 lb vb eb top L lv f)(O9:fN L lv)(hg:CN X (G X.heap) gf cs g)(hB:Vw (G X.heap) X w)(VU:vW w A l)(hl:K l<=1000)(an:∀n:Nat,0<=(g n).1/\(g n).1<=1024/\0<=(g n).2/\(g n).2<=1024) :
  Zq 198 #[Pq lb,.slice A (K l) cap,J (r:Int),.func (.func gf) #[] cs.toArray] w λ e I=>∃k v nh,e=VJ (Pq k.sb)/\bh I (G w.heap) k lb r (.func (.func gf) #[] cs.toArray) v nh 0 (eP L g l)/\nh<=K l/\Vw (G w.heap) w I:=by
 have au:=@run_makeMap Vyj;have b0:Vw (G w.heap) w ((E w (.map #[] 0)).alloc (.map #[] 0)):=(ae.alloc aa _).alloc sQ _;have VZ:G ((E w (.map #[] 0)).alloc (.map #[] 0)).heap=G w.heap+2:=by simp
 have M0:bj Vyj 3 ((E w (.map #[] 0)).alloc (.map #[] 0)) (G w.heap) (fv λ _=>UP) (cnt (λ _=>UP) 256):=by
  rw[j9];exact(bj.made w Vyj 3).X' (F:=λ _=>False) ((ai.refl _ _).alloc _) id
 have M1:bj Vyj 3 ((E w (.map #[] 0)).alloc (.map #[] 0)) (G w.heap+1) (av λ _=>UP) 0:=by
  have h:=bj.made (E w (.map #[] 0)) Vyj 3;have e:G (E w (.map #[] 0)).heap=G w.heap+1:=by simp
  rw[e]at h;exact h
 have Xg:=FM ((E w (.map #[] 0)).alloc (.map #[] 0));rw[VZ]at Xg;go_enter func198,ntmps198;go_wp2_with fail;generalize (E w (.map #[] 0)).alloc (.map #[] 0)=wa at *;refine Xg.mono ?_;rintro e W ⟨rfl,HA,ad,Wa⟩;have b1:Vw (G wa.heap) wa W:=ad
 have B1:=aj b0 b1;have BW:Vw (G w.heap) w (E W (VP #[Pq lb,J (r:Int),.func (.func gf) #[] cs.toArray,.map (Z (G w.heap)),.map (Z (G w.heap+1)),Pq (G w.heap+2+1)] 287)):=B1.alloc B1.size _;have bw:=mB W (VP #[Pq lb,J (r:Int),.func (.func gf) #[] cs.toArray,.map (Z (G w.heap)),.map (Z (G w.heap+1)),Pq (G w.heap+2+1)] 287);have z:G W.heap=G w.heap+4:=U;have S1:bh (E W (VP #[Pq lb,J (r:Int),.func (.func gf) #[] cs.toArray,.map (Z (G w.heap)),.map (Z (G w.heap+1)),Pq (G w.heap+2+1)] 287)) (G w.heap) ⟨G w.heap+4,G w.heap,G w.heap+1,G w.heap+2+1,G w.heap+2⟩ lb r (.func (.func gf) #[] cs.toArray) (.slice UP 0 0) 0 0 Md :=
  ⟨SR _ _ _ 0 (by simp[z]),SR _ _ _ 1 (by simp[z]),SR _ _ _ 2 (by simp[z]),SR _ _ _ 3 (by simp[z]),SR _ _ _ 4 (by simp[z]),SR _ _ _ 5 (by simp[z]),
   (M0.X' (F:=λ _=>False) (ai.Y' b1) id).X' (F:=λ _=>False) (ai.Y' bw) id,(M1.X' (F:=λ _=>False) (ai.Y' b1) id).X' (F:=λ _=>False) (ai.Y' bw) id,HA.below bw,
   by simp only;omega,by simp only;omega,by simp only;omega,by simp only;omega,λ g hg=>(by cases hg)⟩
 clear Xg HA ad Wa b1 B1 bw M0 M1 b0 VZ;go_wp2;generalize E W (VP #[.pointer (Z (O lb 0)),VN VO (r:Int),.func (.func gf) #[] cs.toArray,.map (Z (G w.heap)),.map (Z (G w.heap+1)),.pointer (Z (O (G w.heap+2+1) 0))] 287)=w2 at *
 try rw[z]
 obtain⟨k,hk⟩:∃k:SBk,k=⟨G w.heap+4,G w.heap,G w.heap+1,G w.heap+2+1,G w.heap+2⟩:=⟨_,rfl⟩;have ac:G w.heap+4=k.sb:=by rw[hk]
 rw[<- hk]at S1;rw[ac];clear hk ac z;go_loopw [24] (λ iv wr=>∃(i:Nat) (v:Vr) (nh:Nat),i<=K l/\iv=J i/\bh wr (G w.heap) k lb r (.func (.func gf) #[] cs.toArray) v nh 0 (eP L g (l.take i))/\nh<=i/\Vw (G w.heap) w wr)
  (λ i _=>K l-(intOf i).toNat)
 case atStart=>exact⟨0,_,0,Te _,rfl,S1,aa,BW⟩
 case round =>
  clear S1 BW;obtain⟨i,v,nh,hi,rfl,S,am,a⟩:=hrel;by_cases VS:i<K l
  ·obtain⟨e,he⟩:∃e,l[i]? = Z e:=⟨l[i],SU VS⟩;obtain⟨q,b,o,rfl,q0,q1,q2,q3⟩:=(VU.below aa a) i e he;have y:=CP L g he;have V:FI L lv r g (l.take i) (eP L g (l.take i)):=by
    have h:=FI.fold O9 (l':=l.take i) (FI.start L lv r g);exact h
   have T:Vy _:=V;have i1:(0:Int)<=(i:Int):=U;have i2:(i:Int)<(K l:Int):=U;have ZK:=mB wr (VP #[J e.to,J e.s,J e.d,J e.U6] 203);have y0:D (E wr (VP #[J e.to,J e.s,J e.d,J e.U6] 203)) (O (G wr.heap) 0)=Z (J e.to):=SR _ _ _ 0 rfl;have y1:D (E wr (VP #[J e.to,J e.s,J e.d,J e.U6] 203)) (O (G wr.heap) 1)=Z (J e.s):=SR _ _ _ 1 rfl;have y2:D (E wr (VP #[J e.to,J e.s,J e.d,J e.U6] 203)) (O (G wr.heap) 2)=Z (J e.d):=SR _ _ _ 2 rfl;have C:=aj a ZK;have p:=aj hB C;have c:=V0.below p;have H:=S.below ZK;by_cases P:0<=e.to/\e.to.toNat∈L
   ·obtain⟨n,Y⟩:∃n:Nat,e.to=(n:Int):=⟨e.to.toNat,U⟩;have WK:n∈L:=(by have h:=P.2;rw[Y,Ta]at h;exact h);rw[Y]at q0 y0 ZK C p c H y1 y2;have N:=rB _ c WK;have ao:=O9.small _ WK;have u:Ow L e=Q↔inC e.s e.d:=by
     rw[qT];unfold okE inC;exact⟨λ h=>h.2,λ h=>⟨P,h⟩⟩
    by_cases t:inC e.s e.d
    ·have XU:Vy (∀I,_):=λ I=>yr e.s e.d I t;have B:ni L g (eP L g (l.take i)) e=fD g (eP L g (l.take i)) (n:Int) e.s e.d:=(by unfold ni;rw[Q5 (u.2 t),Y]);rw[B]at y;have aw:=an n;have ax:0<=e.s/\e.s<=1048576/\0<=e.d/\e.d<=1048576:=t;have R:=qH y;have HC:=qH t;have HN:=qH Y;clear y B u P he Y S q a c t;generalize eP L g (l.take i)=x at *;generalize e.s=es at *;generalize e.d=ed at *;generalize e.U6=em at *;go_wp2_with fail;clear q0 q1 q2 q3;generalize E wr (VP #[VN VO (n:Int),VN VO es,VN VO ed,VN VO em] 203)=w3 at *;generalize G wr.heap=E9 at *;refine Q9 N λ wl j=>?_
     replace j:=j.symm
     subst j;clear N;go_wp2_with fail;refine Q9 (XU.out _) λ w4 m=>?_;have S4:=H.below m;have B4:=aj C m;have C4:=aj p m;have z0:=al m y0;have z1:=al m y1;have z2:=al m y2;have ab:=wI (s:=es) (d:=ed) X w4 S4 hg hB.size C4 ao (by unfold okC;omega) (λ h=>by have:=T.out.si.big h;unfold okC;omega) (by unfold okC;omega) (by unfold okC;omega) U;have ag:Vy _:=S4;clear S4 H m y0 y1 y2 C p C4 ZK XU;go_wp2_with fail;refine ab.mono ?_;rintro r1 w5 ⟨rfl,v5,n5,S5,ap,K5,_⟩;have B5:=B4.trans (ag.out.Z' K5);rw[<- R.out]at S5;clear ab z0 z1 z2 B4 K5 ag;go_wp2;go_roundw
     case rel=>exact⟨i+1,v5,n5,U,gQ,S5,U,B5⟩
     case measure=>simp[intOf];omega
    ·have XU:Vy (∀I,_):=λ I=>vV e.s e.d I t;have B:ni L g (eP L g (l.take i)) e=eP L g (l.take i):=(by unfold ni;rw[Q6 (λ h=>t (u.1 h))]);rw[B]at y;have R:=qH y;have HC:=qH t;clear y B u P he Y S q a c t T V;generalize e.s=es at *;generalize e.d=ed at *;generalize e.U6=em at *;go_wp2_with fail;clear q0 q1 q2 q3;generalize E wr (VP #[VN VO (n:Int),VN VO es,VN VO ed,VN VO em] 203)=w3 at *;generalize G wr.heap=E9 at *;refine Q9 N λ wl j=>?_
     replace j:=j.symm
     subst j;clear N;go_wp2_with fail;refine Q9 (XU.out _) λ w4 m=>?_;have S4:=H.below m;have B4:=aj C m;rw[<- R.out]at S4;clear H m y0 y1 y2 C p ZK XU;go_wp2;go_roundw
     case rel=>exact⟨i+1,v,nh,U,gQ,S4,U,B4⟩
     case measure=>simp[intOf];omega
   ·have N:=JC _ c P q;have B:ni L g (eP L g (l.take i)) e=eP L g (l.take i):=(by unfold ni;rw[Q6 (λ h=>P (qT.1 h).1)]);rw[B,]at y;rw[<- y]at H;clear y B P he S q a c T V;generalize e.to=et at *;generalize e.s=es at *;generalize e.d=ed at *;generalize e.U6=em at *;go_wp2_with fail;clear q0 q1 q2 q3;generalize E wr (VP #[VN VO et,VN VO es,VN VO ed,VN VO em] 203)=w3 at *;generalize G wr.heap=E9 at *;refine Q9 N λ wl j=>?_
    replace j:=j.symm
    subst j;clear N;go_wp2;go_roundw
    case rel=>exact⟨i+1,v,nh,U,gQ,H,U,C⟩
    case measure=>simp[intOf];omega
  ·have e:i=K l:=U;subst e;rw[Tl]at S;go_wp2;go_ret;exact⟨k,v,nh,rfl,S,am,a⟩
def ca (A:Int->Option Int):Nat:=cnt (λ a=>(A a).map λ n=>(n,(0:Int))) 256
theorem QO (A:Int->Option Int):ca A<=256:=jj _ _
theorem Px (A:Int->Option Int){a:Int}(n:Int)(d:0<=a)(c:a<256):(if (av A a).isSome then ca A else ca A+1)=ca (qQ A a n):=by
 have e:(λ i=>(qQ A a n i).map λ n=>(n,(0:Int)))=aC (λ i=>(A i).map λ n=>(n,(0:Int))) a n 0:=by grind [qQ,aC]
 unfold ca;rw[e];cases b:A a with
 |none =>
  rw[EJ b,gZ _ a n 0 256 d c (by rw[b];rfl)];rfl
 |some m =>
  rw[EI b,jF _ a n 0 256 (by rw[b];rfl)];rfl
theorem cq.few {b mb n:Nat}{H:Int->Oi}(h:cq w b mb v n H)(k:∀{a s d},H a=Z (s,d)->0<=a/\a<256):n<=256:=by
 obtain⟨l,f,S,x⟩:=h.ex;have o:=S.atf.apart;have g:((List.range n).map (λ i=>(l i).id.toNat)).Nodup:=by
  unfold List.Nodup;rw[UY];refine List.Pairwise.imp_of_mem ?_ (List.nodup_range (n:=n));intro i j c e t;have c:=Up.1 c;have e:=Up.1 e;intro q;have r:=k (S.holds.at c);have u:=k (S.holds.at e);exact t (o i j c e U)
 have:=dr 256 g (λ m p=>by
  obtain⟨i,c,rfl⟩:=TX.1 p;have r:=k (S.holds.at (Up.1 c));omega)
 simpa using this
theorem SI.few {L:Ln}{a:LSt}{x:SS}(i:fN L a)(h:SI L a r g src P x){w:M}{b mb n:Nat}{v:Vr}(e:cq w b mb v n x.H):n<=256:=e.few (λ f=>by
 obtain⟨j,l,d,_⟩:=h.key f;obtain⟨k,c,_⟩:=h.lab d;have:=i.small _ c;omega)
theorem zN {a:LSt}{x:SS}{e:LE}(b:x.F (n:Int)=Z (s,d))(h:a.VE n+r<=a.VE e.to):dB a r g n x e=if bE x.F (e.to:Int) (s+e.s) (d+e.d)=Q then fW (fD g x (e.to:Int) (s+e.s) (d+e.d)) (e.to:Int) (n:Int) else x:=by grind [dB,bE,fW,fD]
theorem Py (g:Int->Int×Int)(x:SS)(n s d:Int):(fD g x n s d).A=x.A:=by
 unfold fD;split<;>rfl
theorem zO {a:LSt}{x:SS}{e:LE}(h:¬a.VE n+r<=a.VE e.to):dB a r g n x e=x:=by grind [dB]
theorem zP {Ng N0 n:Nat}{k:SBk}{L:Ln}{c:LSt}{g:Int->Int×Int}{x:SS}{s d:Int}(w0 w:M)(V0:cR w0 N0 lb vb eb top L c f)(P:fN L c)(bb:∀n,1<=c.VE n/\c.VE n<=7)(hr:r<=1)(hg:CN w0 Ng gf cs g)(T:Ng=G w0.heap)(be:Ng<=N)(hB:Vw Ng w0 w)(b4:∀n:Nat,0<=(g n).1/\(g n).1<=1024/\0<=(g n).2/\(g n).2<=1024)
  (S:bh w N k lb r (.func (.func gf) #[] cs.toArray) v nh (ca x.A) x) (bc:SI L c r g src (λ a _=>a≠(n:Int)\/False) x) (hn:x.F (n:Int)=Z (s,d)) (hH:x.H (n:Int)=UP) :
  Zq 200 #[Pq k.sb,J (n:Int)] w λ e I=>e=VJ (.tuple #[])/\∃v' YA,bh I N k lb r (.func (.func gf) #[] cs.toArray) v' YA (ca (goS c r g n x).A) (goS c r g n x)/\ai (sb5 k v) w I/\∀g,M' v'=Z g->M' v=Z g\/G w.heap<=g:=by
 have WK:n∈L:=by have h:=(bc.lab hn).2.1;rw[Ta]at h;exact h
 have cK:=P.small _ WK;have b5:K (c.es n)<=256:=by
  have h1:((c.es n).map (·.to)).Nodup:=by
   unfold List.Nodup;rw[UY];exact(P.esy.ord n).imp (λ h=>Nat.ne_of_lt h)
  have:=dr 256 h1 (λ m hm=>by
   obtain⟨e,he,rfl⟩:=TX.1 hm;exact P.small _ (P.ends he).2)
  simpa using this
 have ce:Vy (∀g,sb5 k v g->g<G w.heap):=λ g hg=>by
  rcases hg with rfl|rfl|h
  ·exact S.fm.lt
  ·exact S.am.lt
  ·exact DP S.hp h
 have V:=V0.below (show Vw (G w0.heap) w0 w from by rw[<- T];exact hB);have YB:=rB w V WK;have c0:=S.c0;go_enter func200,ntmps200;go_wp2_with fail;refine Q9 YB λ wl Xs=>?_
 replace Xs:=Xs.symm
 subst Xs;have bp:=CJ w V WK b5;clear YB;go_wp2_with fail;refine bp.mono ?_;rintro e w1 ⟨v1,rfl,Xb,t⟩;obtain⟨A1,c2,rfl,Xh,bi⟩:=eJ Xb;have cl:Vy (∀b o,A1=Z (O b o)->G w.heap<=b/\b<G w1.heap):=λ b o h=>by
  rcases bi with⟨h1,_⟩|⟨g,h1,_,h2,h3⟩
  ·rw[h1]at h;cases h
  ·rw[h1]at h;cases h;exact⟨h2,h3⟩
 clear bi;have S1:=S.below t;have bn:N<=G w.heap:=by have:=S.nb.1;have:k.sb<G w.heap:=aB S.c0;omega
 have B1:=t.mono bn;clear bp Xb c0 V;go_wp2;have cg:Vy (ai (sb5 k v) w w1):=ai.Y' t;have c5:G w.heap<=G w1.heap:=t.size;clear t;go_loopw [32] (λ iv wr=>∃(i:Nat) (v':Vr) (nh:Nat),i<=K (c.es n)/\iv=J i/\bh wr N k lb r (.func (.func gf) #[] cs.toArray) v' nh (ca (((c.es n).take i).foldl (dB c r g n) x).A) (((c.es n).take i).foldl (dB c r g n) x)/\ai (sb5 k v) w1 wr/\∀g,M' v'=Z g->M' v=Z g\/G w1.heap<=g)
  (λ i _=>K (c.es n)-(intOf i).toNat)
 case atStart=>exact⟨0,v,nh,Te _,rfl,S1,ai.refl _ _,λ _ h=>SQ h⟩
 case round =>
  have WT:=qH Xh;have YC:Vy _:=B1;have cj:Vy _:=S1;clear S1 B1 Xh S;obtain⟨i,v',nh,hi,rfl,S,K9,a7⟩:=hrel;have au:=YC.out.trans (cj.out.Z' K9);have ag:=WT.out.X' K9 (λ b o h q=>by have:=(cl.out b o h).1;have:=ce.out b q;omega);have y:=qH a7;clear a7;by_cases VS:i<K (c.es n)
  ·obtain⟨e,he⟩:∃e,(c.es n)[i]? = Z e:=⟨(c.es n)[i],SU VS⟩;have R:=Ti he;obtain⟨b,o,rfl,q0,q1,q2,q3⟩:=ag i e he;have ZX:((c.es n).take (i+1)).foldl (dB c r g n) x=dB c r g n (((c.es n).take i).foldl (dB c r g n) x) e:=by
    rw[Ty,he,List.foldl_append];rfl
   obtain⟨u,Yc,b7⟩:=SI.fold P (l:=(c.es n).take i) (λ e he=>List.mem_of_mem_take he) bc hn hH;have cn:=u.few P S.hp;have cv:=P.bd R;have cS:=u.big Yc;have a8:=(P.ends R).2;have b8:=P.small _ a8;have b0:Vy (∀{p q},(((c.es n).take i).foldl (dB c r g n) x).F (e.to:Int)=Z (p,q)->okC p q):=λ h=>by have:=u.big h;unfold okC;omega
   have Wq:c.VE n+r<=c.VE e.to->_:=λ h=>zN (g:=g) (e:=e) Yc h;have bm:¬c.VE n+r<=c.VE e.to->dB c r g n (((c.es n).take i).foldl (dB c r g n) x) e=(((c.es n).take i).foldl (dB c r g n) x):=λ h=>zO h;have i1:(0:Int)<=(i:Int):=U;have i2:(i:Int)<(K (c.es n):Int):=U;have ZK:Bq wr (E wr (VP #[J (e.to:Int),J e.s,J e.d,J e.U6] 203)):=ae.alloc aa _;have y0:D (E wr (VP #[J (e.to:Int),J e.s,J e.d,J e.U6] 203)) (O (G wr.heap) 0)=Z (J (e.to:Int)):=SR _ _ _ 0 rfl;have y1:D (E wr (VP #[J (e.to:Int),J e.s,J e.d,J e.U6] 203)) (O (G wr.heap) 1)=Z (J e.s):=SR _ _ _ 1 rfl;have y2:D (E wr (VP #[J (e.to:Int),J e.s,J e.d,J e.U6] 203)) (O (G wr.heap) 2)=Z (J e.d):=SR _ _ _ 2 rfl;have b6:N<=G wr.heap:=Tg bn au.size;have Zk:=au.trans (ZK.mono b6);have ac:=hB.trans (Zk.mono be);have bx:=V0.below (show Vw (G w0.heap) w0 _ from by rw[<- T];exact ac);have ZL:=S.below ZK;have bA:=K9.below ZK;have aL:Vy (k.cb<G wr.heap/\k.ab<G wr.heap/\∀g,hb3 k.hb k.mb v' g->g<G wr.heap):=⟨S.fm.lt,S.am.lt,λ g hg=>DP S.hp hg⟩;have cN:=ag.below ZK;have c0:=ZL.c0;have c1:=ZL.c1;have c3:=ZL.c3;generalize ((c.es n).take i).foldl (dB c r g n) x=xi at *;have aN:=qH ZX;obtain⟨l1,l2⟩:=bb n;obtain⟨l3,l4⟩:=bb e.to;have bZ:=qH Yc;have ci:Vy _:=u;have Xm:=qH Wq;have a0:=qH bm;have c6:¬e.to=n:=P.esy.off R;clear ZX he R S ag ZK au Yc b7 u Wq bm;go_wp2_with fail;clear q0 q1 q2 q3;have hE:G wr.heap<G (E wr (VP #[J (e.to:Int),J e.s,J e.d,J e.U6] 203)).heap:=aB y0;generalize E wr (VP #[VN VO (e.to:Int),VN VO e.s,VN VO e.d,VN VO e.U6] 203)=C at *;have d3:Bq C C.drew:=ae.drew;have t0:Cq C.drew k.sb 0 (Pq lb):=c0;have t1:Cq C.drew (G wr.heap) 0 (J (e.to:Int)):=y0;have YB:=rB C.drew (bx.below d3) a8;go_region_held3 (λ I=>D I (O k.sb 0)=Z (Pq lb)/\Cq I (G wr.heap) 0 (J (e.to:Int))) (first|exact⟨t0,t1⟩)
    (first
     |(go_at_call 236;refine Q9 YB λ wl Xs=>?_;replace Xs:=Xs.symm;subst Xs))
   have S4:=ZL.below d3;have K4:ai (sb5 k v) w1 C.drew:=bA.below d3;have C4:=ac.trans (d3.mono (by rw[T];exact ac.size));have a4:=t1;have a3:Cq C.drew (G wr.heap) 1 (J e.s):=y1;have a2:Cq C.drew (G wr.heap) 2 (J e.d):=y2;have cx:G wr.heap<G C.drew.heap:=hE;clear t0 t1 YB ZL bA ac y0 y1 y2 d3 hE bx c0 c1 c3;generalize C.drew=B at *;go_wp2_with fail;have d5:Bq B B.drew:=ae.drew;have S5:=S4.below d5;have t1:=S5.c1;have t3:=S5.c3;have e0:Cq B.drew (G wr.heap) 0 (J (e.to:Int)):=a4;have e1:Cq B.drew (G wr.heap) 1 (J e.s):=a3;have e2:Cq B.drew (G wr.heap) 2 (J e.d):=a2;have Yn:(Instr.lookup 251 (.map (Z k.cb)) (J (n:Int)) false).run Vyj B.drew=.ok (.agg #[J s,J d]) B.drew:=S5.fm.Ui aV Tryz.Vxc (k9 _) (aE U U) (iW bZ.out) false;have WW:Vy (∀YI,_):=λ YI=>lD s d e.s e.d YI (by unfold okC;omega) (by unfold okC;omega);have cp:=b4 e.to;have ao:Vy (∀YT,Bq B.drew YT->_):=λ YT hb=>wI (n:=e.to) (s:=s+e.s) (d:=d+e.d) w0 YT (S5.below hb) hg be (C4.trans (((aj d5 hb)).mono (by rw[T];exact C4.size))) b8 (by unfold okC;omega) b0.out (by unfold okC;omega) (by unfold okC;omega) U;have an:Vy (¬sb5 k v' (G wr.heap)):=λ h=>by
    rcases h with h|h|h
    ·have:=aL.out.1;omega
    ·have:=aL.out.2.1;omega
    ·have:=aL.out.2.2 _ h;omega
   have ba:Vy (¬sb5 k v' k.sb):=λ h=>(S5.from _ h).2 rfl;have bD:Vy _:=S5;by_cases YP:c.VE n+r<=c.VE e.to
   ·have ap:(c.VE n:Int)+(r:Int)<=(c.VE e.to:Int):=U;have b3:(0:Int)<=(c.VE n:Int)+(r:Int):=U;have b2:(c.VE n:Int)+(r:Int)<=8:=U;have bl:=Xm.out YP;generalize a9:bE xi.F (e.to:Int) (s+e.s) (d+e.d)=pb at *;have a1:=qH a9;have W:Vy _:=bl;clear bl a9 S5 S4 a0 Xm;generalize (c.VE e.to:Int)=lt at *;generalize (r:Int)=rr at *;have b1:=fX U U;have b9:=Q2 ap;go_region_held3 (λ I=>D I (O k.sb 1)=Z (J rr)/\Cq I k.sb 3 (.map (Z k.cb))/\Cq I (G wr.heap) 0 (J (e.to:Int))/\Cq I (G wr.heap) 1 (J e.s)/\Cq I (G wr.heap) 2 (J e.d)) (first|exact⟨t1,t3,e0,e1,e2⟩|exact⟨u1,u3,f0,f1,f2⟩|exact⟨z1,z3,g0,g1,g2⟩)
     (first
      |(go_at_call 242;refine Q9 (WW.out _) λ YT Xn=>?_;have u1:=al Xn t1;have u3:=al Xn t3;have f0:=al Xn e0;have f1:=al Xn e1;have f2:=al Xn e2)
      |(go_at_call 238;refine(ao.out YT Xn).mono ?_;rintro r1 a5 ⟨rfl,ad,a6,Y,cy,j,bw⟩;have z1:=j.cellOf u1 ba.out;have z3:=j.cellOf u3 ba.out;have g0:=j.cellOf f0 an.out;have g1:=j.cellOf f1 an.out;have g2:=j.cellOf f2 an.out))
    have bk:=aj d5 Xn;have bf:∀q,q<G w1.heap->sb5 k v' q->sb5 k v q:=λ q hq h=>by
     rcases h with h|h|h|h|h
     ·exact SQ h
     ·exact SP (SQ h)
     ·exact SP (SP (SQ h))
     ·exact SP (SP (SP (SQ h)))
     ·rcases y.out q h with h|h
      ·exact SP (SP (SP (SP h)))
      ·omega
    have YJ:=K4.below bk;have ax:=YJ.trans j bf;have bs:Vy (∀g,M' ad=Z g->M' v=Z g\/G w1.heap<=g):=λ q hq=>by
     rcases bw q hq with h|h
     ·exact y.out q h
     ·exact SP (Tg YJ.size h)
    clear t1 t3 e0 e1 e2 u1 u3 f0 f1 f2 z1 z3 g1 g2 Yn ao WW bf j bw K4 YJ bk Xn d5 bD y a4 a3 a2 b0 bZ ci;cases pb with
    |false =>
     have HX:Vy (fD g xi (e.to:Int) (s+e.s) (d+e.d)=xi):=by
      unfold fD;rw[a1.out];rfl
     rw[HX.out]at Y;have z:=qH (W.out.trans (Q6 dQ));clear W a1 HX;go_wp2;go_roundw
     case rel=>exact⟨i+1,ad,a6,U,gQ,by rw[aN.out,z.out];exact Y,ax,bs.out⟩
     case measure=>simp[intOf];omega
    |true =>
     have z:=qH (W.out.trans (Q5 rfl));have HA:Vy ((fD g xi (e.to:Int) (s+e.s) (d+e.d)).A=xi.A):=Py _ _ _ _ _;clear W a1;have X:=Y.below (I:=a5.drew) (ae.drew);have cr:=QO xi.A;obtain⟨cm,cz,aw,bq⟩:=X.am.store aV Tryz.Vxf mQ (aE (a:=(e.to:Int)) U U) (J (n:Int));have ay:=aA bq;have cc:=X.ahead (A':=qQ (fD g xi (e.to:Int) (s+e.s) (d+e.d)).A (e.to:Int) (n:Int)) (na':=ca (qQ (fD g xi (e.to:Int) (s+e.s) (d+e.d)).A (e.to:Int) (n:Int))) ay (by
      rw[<- Pw,<- Px _ _ U U];rw[HA.out]at aw ⊢;exact aw)
     have cd:=(ax.drew).trans ay (λ _ _ h=>SP (SQ h));have m0:=X.c4;have m1:Cq a5.drew (G wr.heap) 0 (J (e.to:Int)):=g0;clear g0 aw bq ay Y X ax;go_wp2_with fail;go_region;go_wp2;go_roundw
     case rel=>exact⟨i+1,ad,a6,U,gQ,by rw[aN.out,z.out];exact cc,cd,bs.out⟩
     case measure=>simp[intOf];omega
   ·have ap:¬(c.VE n:Int)+(r:Int)<=(c.VE e.to:Int):=U;have b3:(0:Int)<=(c.VE n:Int)+(r:Int):=U;have b2:(c.VE n:Int)+(r:Int)<=8:=U;have z:=qH (a0.out YP);have q1:=S4.c1;have bI:Vy _:=S4;have bM:Vy _:=K4;clear a0 Xm ao WW S5 S4 Yn bD t1 t3 e0 e1 e2 d5 K4;generalize (c.VE e.to:Int)=lt at *;generalize (r:Int)=rr at *;have b1:=fX U U;have b9:=Q3 ap;go_quiet (fail);have dq:Bq B (B.drewN nq):=below_drewN ae _;have S6:=bI.out.below dq;have K6:=bM.out.below dq;clear q1 bI bM dq;go_wp2;go_roundw
    case rel=>exact⟨i+1,v',nh,U,gQ,by rw[aN.out,z.out];exact S6,K6,y.out⟩
    case measure=>simp[intOf];omega
  ·have e:i=K (c.es n):=U;subst e;rw[Tl]at S;have KF:=cg.out.trans K9 (λ _ _ h=>h);go_wp2;go_end0;refine⟨rfl,v',nh,S,KF,λ g hg=>?_⟩;rcases y.out g hg with h|h
   ·exact SQ h
   ·exact SP U
section
open Go.RowKit Go.Maps Go.Lib
theorem Unp.two {es:Nat->List LE}:∀{f a b:Nat}{c:Ln},Unp es f a b c->2<=K c/\K c<=2 ^ f+1
 |0,_,_,_,h=>h.elim
 |f+1,a,b,c,⟨e,_,_,h⟩=>by
  have m:1<=2 ^ f:=Nat.one_le_two_pow;rcases h with⟨_,rfl⟩|⟨_,j,i,g,d,rfl⟩
  grind
  have l:=Unp.two g;have k:=Unp.two d;rw[Td,List.length_tail,Nat.pow_succ];omega
theorem JE {l:List LE}(c:Rsg l){e:LE}(b:e∈l):lg l e.to=Q/\l[fy l e.to]? = Z e:=by
 have h:=(M5 c (t:=e.to)).2 ⟨e,b,rfl⟩;refine⟨h,?_⟩;unfold lg at h;cases a:l[fy l e.to]? with
 |none=>rw[a]at h;cases h
 |some x =>
  rw[a]at h;have:=c.one (Ti a) b (Q1 h);rw[this]
theorem sf (w:M)(b es c a:Int):Rq 152 #[.agg #[J b,J es,J c,J a]] w (.bool (decide (0<=a))):=by
 have d:Bq w (E w (VP #[J b,J es,J c,J a] 203)):=ae.alloc aa _;go_enter func152,ntmps152;go_wp2;go_ret;exact⟨by simp,d⟩
theorem fS {base:Nat}{l:Ln}(h:G' w base 3 1 v (K l) (aH l))(k:0<K l):∃g a,v=.slice (Z (O g 0)) (K l) a/\pZ w g 0 l/\base<=g/\g<G w.heap/\K l<=a/\a<=9223372036854775807:=by
 rcases h.2 with⟨_,m⟩|⟨g,a,i,rfl,d,c,f,e,_⟩
 omega;exact⟨g,a,rfl,λ j u b=>h.cells (g:=g) rfl j u b,d,(Array.getElem?_eq_some_iff.1 c).1,f,by unfold Vyf at e;omega⟩
theorem pZ.tail {o:Nat}{l:Ln}(h:pZ w a o l):pZ w a (o+1) l.tail:=λ j u b=>by
 have c:=h (j+1) u (by
  cases l with
  |nil=>simp[aH]at b
  |cons x l=>simpa [aH]using b)
 rw[Addr.add_lit]at c ⊢;rw[show o+1+j=o+(j+1) by omega];exact c
theorem pr {L:Ln}{st:LSt}(T:∀a,Rsg (st.es a))(hC:∀{a e},e∈st.es a->a∈L/\e.to∈L)(hl:∀a,K (st.es a)<=256)(l:∀n∈L,n<256):∀(F a b:Nat) (Y:Ln) (w:M),F<=7->Unp st.es F a b Y->cR w N lb vb eb top L st f ->
  Zq 244 #[Pq lb,J (a:Int),J (b:Int)] w λ e I=>∃v,e=VJ (.tuple #[v,.nilIface])/\G' I (G w.heap) 3 1 v (K Y) (aH Y)/\Bq w I
 |0,_,_,_,_,_,hu,_=>hu.elim
 |F+1,a,b,Y,w,hF,hu,V=>by
  obtain⟨e,he,ag,Xk⟩:=hu;subst ag;have C:=(hC he).1;have ac:=aE (a:=(a:Int)) U (Oq (l a C));obtain⟨A,P,j,Xh,YK⟩:=V.edges C;have c2:=V.c2;have XG:=yf (cap:=P) (t:=e.to) w Xh (hl a) (T a);obtain⟨hh,hp⟩:=JE (T a) he;rw[hh]at XG;have aw:=(List.getElem?_eq_some_iff.1 hp).1;generalize fy (st.es a) e.to=ps at *;clear hh;go_enter func244,ntmps244;go_wp2_with fail;refine Q9 XG λ i k=>?_;have V1:=V.below k;have aL:=V1.c2;have S:=Xh.below k;have Xp:(Instr.lookup 137 (.map (Z eb)) (J (a:Int)) false).run Vyj i=.ok (.slice A (K (st.es a)) P) i:=V1.em.Ui aV Tryz.Vxa (mm _) ac YK false;obtain⟨bb,o,rfl,q1,q2,q3,q4⟩:=S ps e hp;have p1:(0:Int)<=(ps:Int):=U;have p2:(ps:Int)<(K (st.es a):Int):=U;have b2:Bq i (E i (VP #[J (e.to:Int),J e.s,J e.d,J e.U6] 203)):=ae.alloc aa _;have y3:D (E i (VP #[J (e.to:Int),J e.s,J e.d,J e.U6] 203)) (O (G i.heap) 3)=Z (J e.U6):=SR _ _ _ 3 rfl;have p:=sf (E i (VP #[J (e.to:Int),J e.s,J e.d,J e.U6] 203)) (e.to:Int) e.s e.d e.U6;have B2:=aj k b2;clear XG j c2 Xh S hp YK;rcases Xk with⟨hm,rfl⟩|⟨hm,h,c,u1,u2,rfl⟩
  ·rw[Q3 U]at p;go_wp2_with fail;refine Q9 p λ w3 hb3=>?_;have u:=aj B2 hb3;clear p hb3;go_wp2;go_ret2;refine⟨_,rfl,?_,u.alloc u.size _⟩;have:=World.ownsRow_lit (base:=G w.heap) (e:=3) (size:=1) w3 #[J (a:Int),J (e.to:Int)] 2 u.size mQ rfl;exact this
  ·obtain⟨mn,g⟩:∃mn:Nat,e.U6=(mn:Int):=⟨e.U6.toNat,U⟩;have B:e.U6.toNat=mn:=U;rw[B]at u1 u2;rw[Q2 hm,g]at p;rw[g]at y3 q4;have k1:=u1.two;have k2:=u2.two;have am:2 ^ F<=64:=by
    have:=Nat.pow_le_pow_right (show 0<2 by decide) (show F<=6 by omega)
    simpa using this
   rw[g]at B2;have HN:=qH g;clear g B hm;go_wp2_with fail;refine Q9 p λ w3 hb3=>?_;have u:=aj B2 hb3;have V3:=V.below u;have z3:=al hb3 y3;have y:=pr T hC hl l F a mn h w3 U u1 V3;clear p hb3 y3 b2;go_wp2_with fail;refine y.mono ?_;rintro r w4 ⟨v4,rfl,WN,Ww⟩;have B4:=aj u Ww;have V4:=V.below B4;have z4:=al Ww z3;have x:=pr T hC hl l F mn e.to c w4 U u2 V4;obtain⟨W,X,rfl,r4,ZM,a3,ay,a2⟩:=fS WN U;clear y WN Ww V3 z3;go_wp2_with fail;refine x.mono ?_;rintro r m ⟨v5,rfl,WA,VW⟩;have B5:=aj B4 VW;obtain⟨H,q,rfl,r5,X9,a1,ax,a0⟩:=fS WA U;have ab:=r4.below VW;have t5:=r5.tail;have a4:¬q=1:=U;have au:0<K c:=U;have ap:1<=K c:=U;have ao:(1:Int)<=(K c:Int):=U;have j:K h<=300:=U;have an:0<K h:=U;have Xp:K c<=300:=U;have aN:2<=K c:=U;have ad:Vy (K c-1=K c.tail):=(by unfold Vy;rw[List.length_tail]);clear x WA VW V4 z4 r4 r5 k1 k2 am;go_wp2_with fail;have b6:Bq m (E m (VP #[.slice (Z (O W 0)) (K h) X,.slice (Z (O H 1)) (K c-1) (q-1)] 60)):=ae.alloc aa _;have q0:D (E m (VP #[.slice (Z (O W 0)) (K h) X,.slice (Z (O H 1)) (K c-1) (q-1)] 60)) (O (G m.heap) 0)=Z (.slice (Z (O W 0)) (K h) X):=SR _ _ _ 0 rfl;have q1:D (E m (VP #[.slice (Z (O W 0)) (K h) X,.slice (Z (O H 1)) (K c-1) (q-1)] 60)) (O (G m.heap) 1)=Z (.slice (Z (O H 1)) (K c.tail) (q-1)):=by
    rw[SR _ _ _ 1 rfl];exact Q7 Z (Q7 (λ z=>Value.slice (Z (O H 1)) z (q-1)) ad)
   have e1:0<K c.tail:=(by rw[List.length_tail];omega);have e2:K c.tail<=300:=(by rw[List.length_tail];omega);have R:=CM (l1:=h) (l2:=c.tail) _ q0 q1 (ab.below b6) (t5.below b6) an e1 j e2;have B6:=aj B5 b6;refine R.mono ?_;rintro r w6 ⟨v6,rfl,Wu,WR⟩;have B7:=aj B6 WR;clear R q0 q1 e1 e2;go_wp2;go_ret2;refine⟨_,rfl,?_,B7⟩;exact cu Wu B6.size
end
def vl (x:SS) (a:Nat):Int:=val ((x.F (a:Int)).getD (0,0)).1 ((x.F (a:Int)).getD (0,0)).2
theorem yu {x:SS}(h:x.F (a:Int)=Z (s,d)):vl x a=val s d:=by unfold vl;rw[h];rfl
structure BkI (x:SS) (L:Ln) (n:Nat) (l:Ln) (c:Nat):Prop where
 last:∃pre,l=pre++[c]
 head:∃t,l=n::t
 down:l.Pairwise (λ a b=>vl x b<vl x a)
 inL:∀a∈l,a∈L
 cont:∀t,Bk x.A (c::t)->Bk x.A (l++t)
theorem BkI.start {x:SS}{L:Ln}(b:n∈L):BkI x L n [n] n :=
 ⟨⟨[],rfl⟩,⟨[],rfl⟩,UZ _ _,λ a c=>by rw[Tv.1 c];exact b,λ _ h=>h⟩
theorem BkI.step {x:SS}{L:Ln}{m:Nat}{l:Ln}(h:BkI x L n l c)(p:x.A (c:Int)=Z (m:Int))(q:vl x m<vl x c)(r:m∈L):BkI x L n (l++[m]) m:=by
 obtain⟨j,f⟩:=h.last;obtain⟨t,k⟩:=h.head;refine⟨⟨l,rfl⟩,⟨t++[m],by rw[k];rfl⟩,?_,λ a d=>?_,λ i e=>?_⟩;rw[Vh];refine⟨h.down,UZ _ _,λ a d b o=>?_⟩;rw[Tv.1 o];rw[f]at d;rcases Tn.1 d with d|d
 have g:=h.down;rw[f,Vh]at g;have:=g.2.2 a d c (Tv.2 rfl);omega
 grind
 rcases Tn.1 d with d|d
 exact h.inL a d
 grind
 have:=h.cont (m::i) ⟨p,e⟩;rw[List.append_assoc];exact this
theorem BkI.len {x:SS}{L:Ln}{l:Ln}(h:BkI x L n l c)(b:∀n∈L,n<256):K l<=256 :=
 dr 256 (h.down.imp (λ h e=>by subst e;omega)) (λ a d=>b a (h.inL a d))
theorem BkI.done {x:SS}{L:Ln}{l:Ln}(h:BkI x L n l c)(b:x.A (c:Int)=UP):∃t,l=n::t/\Bk x.A (n::t):=by
 obtain⟨t,a⟩:=h.head;have:=h.cont [] b;rw[List.append_nil,a]at this;exact⟨t,a,this⟩
theorem SI.ahead {L:Ln}{f:LSt}{x:SS}(q:fN L f)(h:SI L f r g src P x){c:Nat}{m:Int}(p:x.A (c:Int)=Z m):∃b:Nat,m=(b:Int)/\b∈L/\vl x b<vl x c/\0<=vl x b:=by
 obtain⟨s,d,v,F,t,u,i,o,⟨e,n,_,l,k,_⟩,B⟩:=h.ptr p;obtain⟨z,j,y,w,_⟩:=h.lab i;refine⟨m.toNat,U,j,?_,?_⟩;rw[yu (a:=m.toNat) (by rw[show ((m.toNat:Nat):Int)=m by omega];exact i),yu o];have C:=q.bd n;subst l k;unfold val at *;omega
 grind [yu,val]
theorem bh.lookA {k:SBk}{gv:Vr}{na:Nat}{x:SS}(S:bh w N k lb r gv v nh na x){c:Int}(a:(Lit.int .i64 c).wf=Q):(Instr.lookup 144 (.map (Z k.ab)) (J c) Q).run Vyj w=.ok (.tuple #[J ((x.A c).getD 0),.bool (x.A c).isSome]) w:=by
 cases h:x.A c with
 |none=>exact S.am.u6 aV Tryz.Vxf (mX w) a (EJ h) Q
 |some m=>exact S.am.Ui aV Tryz.Vxf (mX w) a (EI h) Q
theorem JF (w:M)(n:Nat):G' (E w (VP #[J (n:Int)] 3)) (G w.heap) 3 1 (.slice (Z (O (G w.heap) 0)) 1 1) (K ([n]:Ln)) (aH [n]) :=
 ⟨rfl,SP ⟨G w.heap,1,#[J (n:Int)],rfl,aa,heap_alloc_new w _,aa,by unfold Vyf;omega,rfl,rfl⟩⟩
theorem zQ {k:SBk}{L:Ln}{Y:LSt}{gv:Vr}{x:SS}(w:M)(C:fN L Y)(S:bh w N k lb r gv v nh (ca x.A) x)(o:SI L Y r g src P x)(hn:x.F (n:Int)=Z (s,d)) :
  Zq 245 #[Pq k.sb,J (n:Int)] w λ e I=>∃v t,e=VJ v/\Bk x.A (n::t)/\G' I (G w.heap) 3 1 v (K (n::t)) (aH (n::t))/\K (n::t)<=256/\Bq w I:=by
 have WK:n∈L:=by have h:=(o.lab hn).2.1;rw[Ta]at h;exact h
 obtain⟨i0,hi,VZ,Wa,Wc⟩:=info_parts Tryz.Vxg;have R:Bq w (E w (VP #[J (n:Int)] 3)):=ae.alloc aa _;have V:=S.below R;have Wb:=JF w n;have H:=V.lookA (c:=(n:Int)) (aE U (Oq (C.small _ WK)));have m1:=V.c4;have I1:BkI x L n [n] n:=BkI.start WK;go_enter func245,ntmps245;go_wp2_with fail;clear H m1;go_loopg [5,6,7] (vl x n).toNat (λ gk cv bv mv wr=>∃l c,gk=(vl x c).toNat/\BkI x L n l c/\G' wr (G w.heap) 3 1 cv (K l) (aH l)/\bv=J ((x.A (c:Int)).getD 0)/\mv=.bool (x.A (c:Int)).isSome/\Bq w wr)
 case atStart=>exact⟨[n],n,rfl,I1,Wb,rfl,rfl,R⟩
 case round =>
  clear Wb I1 V R;obtain⟨l,c,WV,y,b,rfl,rfl,B⟩:=hrel;have HG:=qH WV;clear WV;have Yn:=y.len C.small;cases p:x.A (c:Int) with
  |none =>
   obtain⟨t,ht,Xy⟩:=y.done p;subst ht;have W:=qH Xy;clear Xy y p;go_wp2;go_ret;exact⟨_,t,rfl,W.out,b,Yn,B⟩
  |some m =>
   obtain⟨a,rfl,i,T,f⟩:=o.ahead C p;have I':=y.step p T i;have HI:=qH I';have HM:Vy (vl x a<vl x c/\0<=vl x a):=⟨T,f⟩;have ZH:=B.size;have ac:=C.small _ i;clear y I' p T f;go_wp2_with (at_builtin;refine Vxk _ rfl _ _ 60 rfl (G w.heap) 3 i0 (J 0) 1 8 Vyg hi VZ Wa Wc rfl dQ _ _ _ rfl (b.alloc _) (O (G wr.heap) 0) 1 1 [J (a:Int)] rfl rfl ?c1 ?c2 ?c3 ?c4 ?c5 ?_)
   case c1 =>
    intro j u z
    match j,z with
    |0,z =>
     simp at z;subst z;simp only[Addr.add];exact SR (w:=wr) #[J (a:Int)] 3 (G wr.heap) 0 rfl
   case c2=>intro u hu;simp at hu;subst hu;rfl
   case c3=>unfold Vyf;omega
   case c4=>omega
   case c5=>simp;omega
   intro v' X VR VQ _;have VV:=λ q hq=>(b.lt q hq).1;have B6:Bq w X:=(B.alloc ZH _).grown VQ sU VV;have O6:G' X (G w.heap) 3 1 v' (K (l++[a])) (aH (l++[a])):=by
    rw[p6]
    simpa [aH]using VR
   have S6:=S.below B6;have ab:=S6.lookA (c:=(a:Int)) (aE U U);have m6:=S6.c4;clear VR VQ b VV B;go_wp2;go_roundg (vl x a).toNat
   case measure=>have:=HG.out;have:=HM.out;omega
   case rel=>exact⟨l++[a],a,rfl,HI.out,O6,rfl,rfl,B6⟩
end Go.Proofs.YtikdmenjibkgiaaGreatDoor
