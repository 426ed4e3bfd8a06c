/- Texts laid together. -/
import Derived.Test.YtikdmenjibkgiaaGreatDoorP17
import Derived.Test.YtikdmenjibkgiaaGreatDoorRows
import Derived.ProofKit
import Derived.LaidMore
import Derived.OpenShut
import Derived.Stop.Joined
import Derived.Stop.LaidErr
import Derived.Lib.LaidTab
import Derived.Test.YtikdmenjibkgiaaGreatDoorTie
import Derived.Test.YtikdmenjibkgiaaGreatDoorCards
import Derived.ChangeMaps5
import Derived.SevenTiedAt
import Derived.Lib.SmallJoins
import Derived.Deep.Slices
import Derived.Lib.Split
import Derived.Lib.SplitLaws
import Derived.Lib.Replace
import Derived.Lib.Join
import Derived.Shelf.Strings.Split
import Derived.Shelf.Strings.Replace
import Derived.Shelf.Strings.OnBuilder
import Derived.Laws.Concat
namespace Go.Proofs.YtikdmenjibkgiaaGreatDoor
open Go.Proofs.Tryz renaming underlying9->Vyh,underlying22->Vyi,prog->Vyj
open _root_.Array renaming size->G
open Go.World renaming cell?_alloc_new->Tb,block_lt_of_cell?->SZ,cell?_alloc_at->SR,cell?_setCell_other->SY,cell?->U2,ownsRow_nil->To,cell?->D,alloc->E,setCell->C',ownsRow->G'
open _root_.List renaming length_cons->Tk,getElem?_eq_getElem->SU,getElem?_map->Tz,flatMap_cons->Vt,getElem?_append_right->TG,length_eq_zero_iff->TF,mem_cons_of_mem->Tj,mem_cons_self->Tp,filter_cons_of_neg->TZ,filter_cons_of_pos->T6,any_eq_true->Uv,length_filter_le->TH,take_add_one->Ty,length_append->Td,length_map->TA,map_cons->UK,map_append->UE,mem_of_getElem?->Ti,take_length->Tl,getElem?_eq_some_iff->Th,length_singleton->UG,mem_cons->TD,drop_drop->Vj,drop_left'->Vp,take_left'->VL,map_map->U7,map_congr_left->VC,append_assoc->TC,take_succ_eq_append_getElem->Tx,length_nil->Ut,length->K
open _root_.Nat renaming zero_le->Te,lt_of_lt_of_le->Tc,not_lt_zero->TW,zero_add->Tm,eq_zero_or_pos->UT,ne_of_lt->Uz,le_of_lt->UQ,le_trans->Tg,le_refl->Vz
open _root_.Or renaming inl->SQ,inr->SP
open _root_.Int renaming toNat_of_nonneg->TE,toNat_natCast->Ta,tdiv_eq_ediv_of_nonneg->UB
open Go.Value renaming string->UJ,ownBlock->M'
open Go.Value renaming int->VN
open Go.IntKind renaming i64->VO
open Go.Proofs.Tryz
open _root_.Option renaming some->Z,none->UP
open _root_.Bool renaming true->Q,false->Vl
open Go renaming World->M,Value->Vr,below_drewN->Vxj,wpList_append_own->Vxk
open Go.RowKit renaming Hid->Vy
open Go.Ending renaming returned->VJ
open Go.Obj renaming cells->VP
variable {b lo hi sb rb pb mb n N lb xb base i k:Nat}{w I:M}{cs:Nat->Int}{F:Nat->Prop}{c:UInt8}{v:Vr}{a t:Int}{h:Nat->Nat}{ns:List Int}{more:Bool}
set_option maxHeartbeats 8000000
set_option maxRecDepth 1000000
open Go.RowKit
section
open Go.RowKit Go.Lib
theorem Fp {W H V N':Int}{Y:Bn}(w:M)(g:aq w b W H V Y)(s:az w)(f:N'<1\/6<N') :
  Rq 46 #[Pq b,J N'] w (.tuple #[.pointer UP,.iface 42 (J 1)]):=by
 have i:=aB g.c0;have c:=Ja w g s i;go_enter func46,ntmps46;go_wp2_with fail;refine c.mono ?_;rintro e d ⟨rb,pb,mb,rfl,j,_,_,_,a⟩;have h:=Nl (rb:=rb) d f;clear c;go_wp2_with fail;refine Q0 h ?_;go_wp2;go_ret2;exact⟨rfl,a⟩
theorem Fq {N':Nat}{W H V:Int}{Y:Bn}(w:M)(g:aq w b W H V Y)(s:az w)(u:1<=N')(r:N'<=6) :
  Zq 46 #[Pq b,J (N':Int)] w λ e I=>∃sb,e=VJ (.tuple #[Pq sb,.nilIface])/\Sv I (G w.heap) (G I.heap) sb W H V Y N'/\G w.heap<=sb/\Bq w I:=by
 have z:=aB g.c0;have X:=g.w1;have YN:=s.pos;have y:=rh w g s z;go_enter func46,ntmps46;go_wp2_with fail;refine y.mono ?_;rintro e d ⟨rb,pb,mb,rfl,m,S,R,P,i⟩;have n:=m.graph;have x:=tZ d n (iF X) u r;obtain⟨l1,l2,l3⟩:rb<G d.heap/\pb<G d.heap/\mb<G d.heap:=by
  obtain⟨f,G9,_⟩:=n;exact G9.lts
 clear y;go_wp2_with fail;refine x.mono ?_;rintro e q ⟨lb,rfl,C,c⟩;have p:=aj i c;have L:=m.lt.below c;have v:=Kv q (g.below p z) (s.below p U);have z2:=c.size;clear x n m;go_wp2_with fail;refine v.mono ?_;rintro e a ⟨tb,gb,rfl,l,t1,t2,hb3⟩;have B3:=aj p hb3;have N:=i.size;obtain⟨t3,t4⟩:tb<G a.heap/\gb<G a.heap:=by
  obtain⟨T,t,_⟩:=l.ok;exact t.blocks
 have j:Bq a (E a (VP #[J (N':Int),Pq rb,Pq lb,Pq tb] 158)):=ae.alloc aa _;have F:=((L.below hb3).below j).mono (Q':=λ g=>g≠tb/\g≠gb/\g≠G a.heap) (λ g h=>⟨U,U,by have:=hb3.size;omega⟩);have B:=(C.below hb3).below j;have A:=l.below j;have k:∀o,D (E a (VP #[J (N':Int),Pq rb,Pq lb,Pq tb] 158)) (O (G a.heap) o)=#[J (N':Int),Pq rb,Pq lb,Pq tb][o]? := λ o=>Tb ..;have f:=bC a #[J (N':Int),Pq rb,Pq lb,Pq tb] 158 (G a.heap) aa;have SV:Sv (E a (VP #[J (N':Int),Pq rb,Pq lb,Pq tb] 158)) (G w.heap) (G a.heap+1) (G a.heap) W H V Y N' :=
  ⟨rb,pb,mb,lb,tb,gb,G d.heap,G q.heap,V,k 0,k 1,k 2,k 3,f 2,F,B,A,⟨S,R,P,N⟩,⟨U,U,U⟩,⟨t1,t2,t3,t4⟩,Nat.lt_succ_self _,u,r,rfl⟩
 clear v L C l F B A k f;go_wp2;go_ret2;exact⟨G a.heap,rfl,by simpa using SV,U,aj B3 j⟩
theorem Kx {W H:Int}{N':Nat}(w:M)(s:az w)(d:aT W=Q)(f:aT H=Q)(j:1<=N')(i:N'<=6) :
  Zq 21 #[J W,J H,J (N':Int)] w λ e I=>∃sb,e=VJ (.tuple #[Pq sb,.nilIface])/\Sv I (G w.heap) (G I.heap) sb W H 0 (λ _=>Vl) N'/\Bq w I:=by
 have c:=CA W H w d f;have g:=ph W H w d f;have h:Bq w (E w (.cells (fF W H) 149)):=ae.alloc aa _;have m:=Fq _ g (s.below h (Oq s.pos)) j i;go_enter func21,ntmps21;go_wp2_with fail;refine Q0 c ?_;clear c g;go_wp2_with fail;refine m.mono ?_;rintro e n ⟨sb,rfl,a,l,b⟩;go_wp2;go_ret2;obtain⟨rb,pb,mb,lb,tb,gb,N,x,V2,a⟩:=a;have k:=a.l1;simp only[World.size_alloc]at k;exact⟨sb,rfl,⟨rb,pb,mb,lb,tb,gb,N,x,V2,a.c0,a.c1,a.c2,a.c3,a.fz,a.gi,a.lv,a.ta,⟨U,U,U,U⟩,a.l2,a.l3,a.l4,a.m1,a.m6,a.vv⟩,aj h b⟩
theorem Sv.low {a N':Nat}{W H V:Int}{Y:Bn}(S:Sv w lo hi sb W H V Y N')(h:a<=lo):Sv w a hi sb W H V Y N':=by
 obtain⟨rb,pb,mb,lb,tb,gb,N,x,V2,S⟩:=S;have b:=S.l1;exact⟨rb,pb,mb,lb,tb,gb,N,x,V2,S.c0,S.c1,S.c2,S.c3,S.fz,S.gi,S.lv,S.ta,⟨U,U,U,U⟩,S.l2,S.l3,S.l4,S.m1,S.m6,S.vv⟩
theorem He {W H N':Nat}{t:Lu}{cs:List Bool}(w:M)(E9:Env w)(s:az w)(j:cH t=.good W H cs)(h:1<=N')(g:N'<=6) :
  Zq 23 #[.string (str t),J (N':Int)] w λ e I=>∃sb,e=VJ (.tuple #[Pq sb,.nilIface])/\Sv I (G w.heap) (G I.heap) sb W H (blocks cs) (dZ cs) N'/\Bq w I:=by
 have d:=ur j w E9;have p:=s.pos;go_enter func23,ntmps23;go_wp2_with fail;refine d.mono ?_;rintro e f ⟨B,o,n,rfl,l,a⟩;have c:=Fq f l.1 (s.below a U) h g;clear d;go_wp2_with fail;refine c.mono ?_;rintro e m ⟨sb,rfl,k,i,b⟩;clear c;go_wp2;go_ret2;exact⟨sb,rfl,k.low a.size,aj a b⟩
theorem Hg {W H:Nat}{N':Int}{t:Lu}{cs:List Bool}(w:M)(E9:Env w)(s:az w)(g:cH t=.good W H cs)(h:N'<1\/6<N') :
  Rq 23 #[.string (str t),J N'] w (.tuple #[.pointer UP,.iface 42 (J 1)]):=by
 have d:=ur g w E9;have m:=s.pos;go_enter func23,ntmps23;go_wp2_with fail;refine d.mono ?_;rintro e f ⟨B,l,k,rfl,i,a⟩;have c:=Fp f i.1 (s.below a U) h;clear d;go_wp2_with fail;refine Q9 c λ j b=>?_;clear c;go_wp2;go_ret2;exact⟨rfl,aj a b⟩
end
section
variable {W H W' H' : Int} {Y WM : Nat → Bool} {a t c a' t' : Int} {Vq axS axT : List Nat} {s d err s' d' axU p q e2 : Int}
theorem Rt.ok (h:Rt W H Y a t Vq s d err)(b:err=0):ff2 W H Y a t=0/\Wk (aF W H Y) a t s d:=by grind [ff2,Wk,aF,Cp,Rt.path,Cp.walk,Rt.bad]
theorem Rt.err_no (h:Rt W H Y a t Vq s d err)(i:err≠0):s=0/\d=0/\Vq=[]:=by
 by_cases c:ff2 W H Y a t=0;by_cases b:∃p q,Wk (aF W H Y) a t p q;obtain⟨p,q,b⟩:=b;exact Q8 (h.yes c b).1 i;obtain⟨_,g,f,e⟩:=h.no c (λ p q k=>b ⟨p,q,k⟩);exact⟨f,e,g⟩;obtain⟨_,g,f,e⟩:=h.bad c;exact⟨f,e,g⟩
theorem Rt.bd (h:Rt W H Y a t Vq s d err):0<=s/\0<=d/\s<=400/\d<=256:=by
 by_cases b:err=0;obtain⟨l,_,_,c⟩:=h.path (h.ok b).1 b;exact c;obtain⟨c,e,_⟩:=h.err_no b;omega
theorem Rt.len (h:Rt W H Y a t Vq s d err):K Vq<=700:=by
 by_cases b:err=0;obtain⟨l,e,c,f⟩:=h.path (h.ok b).1 b;have:=c.len;rw[e,Tk];omega;obtain⟨_,_,e⟩:=h.err_no b;rw[e];exact Te _
theorem Ky (f:0<=d)(e:d<=256)(c:0<=d')(b:d'<=256)(a:val s d<=val s' d')(e2:val s' d'<=val s d):s=s'/\d=d' :=
 iS s d s' d' U U (Int.le_antisymm a e2)
end
section
open Go.RowKit Go.Lib
section
variable {W H : Int} {Y WM : Nat → Bool}
end
end
section
open Go.RowKit Go.Lib
structure Hf (w:M) (lo hi sb rb pb mb tb gb x:Nat) (W H V:Int) (Y:Bn) (N':Nat):Prop where
 c0:D w (O sb 0)=Z (J (N':Int))
 c1:D w (O sb 1)=Z (Pq rb)
 c2:∃u,D w (O sb 2)=Z u
 c3:D w (O sb 3)=Z (Pq tb)
 fz:w.frozen? (O sb 2)=Vl
 gi:dt w rb pb mb W H V Y (λ g=>g≠tb/\g≠gb/\g≠sb)
 ta:iQ w tb gb W H V Y
 l1:lo<=rb/\lo<=pb/\lo<=mb
 l2:rb<x/\pb<x/\mb<x
 l3:x<=tb/\x<=gb/\tb<sb/\gb<sb
 l4:sb<hi
def Wr (pb mb tb gb:Nat) (k:Nat):Prop:=k=pb\/k=mb\/k=tb\/k=gb
section
variable {w I : M} {lo hi sb rb pb mb lb tb gb N x N' : Nat} {W H V V2 : Int} {Y : Nat → Bool}
theorem gG.hf (S:gG w lo hi sb rb pb mb lb tb gb N x W H V V2 Y N'):Hf w lo hi sb rb pb mb tb gb x W H V Y N':=by
 have a:=S.ta;rw[S.vv]at a;exact⟨S.c0,S.c1,⟨_,S.c2⟩,S.c3,S.fz,S.gi,a,⟨S.l1.1,S.l1.2.1,S.l1.2.2.1⟩,S.l2,S.l3,S.l4⟩
theorem Hf.lt (S:Hf w lo hi sb rb pb mb tb gb x W H V Y N'):sb<G w.heap:=aB S.c0
theorem Hf.below (S:Hf w lo hi sb rb pb mb tb gb x W H V Y N')(b:Bq w I):Hf I lo hi sb rb pb mb tb gb x W H V Y N':=by
 have k:∀{a:Addr}{v:Vr},D w a=Z v->D I a=Z v:=λ {a v} h=>(b.cell (SZ w a h)).trans h;obtain⟨u,c⟩:=S.c2;exact⟨k S.c0,k S.c1,⟨u,k c⟩,k S.c3,(b.frozen (p:=O sb 2) S.lt).trans S.fz,S.gi.below b,S.ta.below b,S.l1,S.l2,S.l3,S.l4⟩
theorem Hf.side (S:Hf w lo hi sb rb pb mb tb gb x W H V Y N'):1<=W/\W<=16/\1<=H/\H<=16:=by
 obtain⟨f,a,_⟩:=S.gi;exact⟨a.ga.w1,a.ga.w2,a.ga.h1,a.ga.h2⟩
theorem dt.X' {Q9:Nat->Prop}(G9:dt w rb pb mb W H V Y Q9)(b:ai F w I)(k:¬F rb)(j:¬F pb)(i:¬F mb)(h:∀g,Q9 g->¬F g):dt I rb pb mb W H V Y Q9:=by
 obtain⟨f,S,m,d⟩:=G9;exact⟨f,S.X' b k j i,λ c=>(m c).kept b (λ v l g a n e _=>h g (d c v g a e)) rfl,d⟩
end
theorem uJ {Y:Bn}{c:Nat}{v:Bool}(h:Y c=v):upd Y c v=Y:=by grind [upd]
def Sk (w I:M) (e:Ending) (lo hi sb rb pb mb tb gb x:Nat) (W H V:Int) (Y:Bn) (N' c:Nat) (v:Bool):Prop :=
 (Y c=v/\e=VJ (.bool Vl)/\Below (G w.heap) w I)\/(Y c=!v/\e=VJ (.bool Q)/\Hf I lo hi sb rb pb mb tb gb x W H (V+1) (upd Y c v) N'/\ai (Wr pb mb tb gb) w I)
theorem Kz {tb gb x N' c:Nat}{W H V:Int}{Y:Bn}(v:Bool)(w:M)(S:Hf w lo hi sb rb pb mb tb gb x W H V Y N')(hc:inB W H c=Q)(v1:0<=V)(v2:V<=1000000)(an:6<=lo) :
  Zq 89 #[Pq sb,.agg #[J c,.bool v]] w λ e I=>Sk w I e lo hi sb rb pb mb tb gb x W H V Y N' c v:=by
 obtain⟨a1,a2,a3⟩:=S.l1;obtain⟨a4,a5,a6⟩:=S.l2;obtain⟨a7,a8,a9,ao⟩:=S.l3;have am:=S.lt;have b0:Bq w (E w (VP #[J c,.bool v] 84)):=ae.alloc aa _;have f:D (E w (VP #[J c,.bool v] 84)) (O (G w.heap) 0)=Z (J c):=SR #[J c,.bool v] 84 (G w.heap) 0 rfl;have d:D (E w (VP #[J c,.bool v] 84)) (O (G w.heap) 1)=Z (.bool v):=SR #[J c,.bool v] 84 (G w.heap) 1 rfl;have S0:=S.below b0;go_enter func89,ntmps89;go_wp2_with fail;have VZ:G w.heap<G (E w (VP #[J c,.bool v] 84)).heap:=by simp
 generalize E w (VP #[VN VO c,.bool v] 84)=l at *;have e0:Bq l l.drew:=ae.drew;have i:=S0.below e0;have ag:G w.heap<G l.drew.heap:=VZ;have R:iQ l.drew tb gb W H V Y:=i.ta;have o:=i.c3;have f:Cq l.drew (G w.heap) 0 (J c):=f;have d:Cq l.drew (G w.heap) 1 (.bool v):=d;have B1:Bq w l.drew:=aj b0 e0;by_cases hv:Y c=v
 ·have C:=GS c v l.drew R hc hv;have P:=qH hv;clear hv R;go_region_held3 (λ I=>D I (O sb 3)=Z (Pq tb)/\Cq I (G w.heap) 0 (J c)/\Cq I (G w.heap) 1 (.bool v)) (first|with_reducible exact⟨o,f,d⟩)
   (first|(go_at_call 138;refine C.mono ?_;rintro r a ⟨rfl,m5,Z6⟩;have z:Bq l.drew a:=(by rw[Z6];exact Vxj ae _);clear Z6;have o:=al z o;have f:=al z f;have d:=al z d))
  go_wp2_with fail;have F:Bq a a.drew:=ae.drew;have S5:=(i.below z).below F;have q:=S5.c1;have f:Cq a.drew (G w.heap) 0 (J c):=f;have d:Cq a.drew (G w.heap) 1 (.bool v):=d;have B5:=(aj B1 z).trans (F.mono (aj B1 z).size);have y:=Jc v a.drew S5.gi.graph hc P.out;clear C o S0 i S;go_region_held3 (λ I=>D I (O sb 1)=Z (Pq rb)/\Cq I (G w.heap) 0 (J c)/\Cq I (G w.heap) 1 (.bool v)) (first|with_reducible exact⟨q,f,d⟩)
   (first|(go_at_call 139;refine Q9 y λ w6 h6=>?_;have q:=al h6 q;have f:=al h6 f;have d:=al h6 d))
  go_wp2;go_ret;exact SQ ⟨P.out,rfl,aj B5 h6⟩
 ·have s:Y c=!v:=by cases hb:Y c<;>cases v<;>simp_all
  have C:=Ki c v l.drew R hc s v1 v2;have P:=qH s;have j:sb≠tb/\sb≠gb:=⟨U,U⟩;have n2:G w.heap≠tb/\G w.heap≠gb:=⟨U,U⟩;have X:G w.heap≠pb/\G w.heap≠mb:=⟨U,U⟩;clear hv s R;go_region_held3 (λ I=>D I (O sb 3)=Z (Pq tb)/\Cq I (G w.heap) 0 (J c)/\Cq I (G w.heap) 1 (.bool v)) (first|with_reducible exact⟨o,f,d⟩)
   (first|(go_at_call 138;refine C.mono ?_;rintro r a ⟨rfl,T5,N⟩;have o:=N.cellOf o (λ h=>h.elim j.1 j.2);have f:=N.cellOf f (λ h=>h.elim n2.1 n2.2);have d:=N.cellOf d (λ h=>h.elim n2.1 n2.2)))
  go_wp2_with fail;have F:Bq a a.drew:=ae.drew;have b:=N.drew;have Ws:=b.size;have B:az a.drew:=by
   obtain⟨T,t,_⟩:=(T5.below F).ok;exact t.st
  have q:=b.cellOf i.c1 (λ h=>h.elim j.1 j.2);have f:Cq a.drew (G w.heap) 0 (J c):=f;have d:Cq a.drew (G w.heap) 1 (.bool v):=d;have G5:=i.gi.X' b (λ h=>h.elim U U) (λ h=>h.elim U U) (λ h=>h.elim U U) (λ g y h=>h.elim y.1 y.2.1);have y:=MW v a.drew G5 (λ g y=>⟨U,U,U⟩) B hc P.out v1 v2 U U;have L:=T5.below F;have d0:=b.cellOf i.c0 (λ h=>h.elim j.1 j.2);have d2:∃u,Cq a.drew sb 2 u:=by
   obtain⟨u,hu⟩:=i.c2;exact⟨u,b.cellOf hu (λ h=>h.elim j.1 j.2)⟩
  have d3:=b.cellOf i.c3 (λ h=>h.elim j.1 j.2);have d4:=(b.frozen (p:=O sb 2) i.lt (λ h=>h.elim j.1 j.2)).trans i.fz;have ad:Vy (ai (Wr pb mb tb gb) w a.drew):=(ai.Y' B1).trans b (λ k _ h=>h.elim (λ h=>SP (SP (SQ h))) (λ h=>SP (SP (SP h))));have HD:Vy (Cq a.drew sb 0 (J (N':Int))/\(∃u,Cq a.drew sb 2 u)/\Cq a.drew sb 3 (Pq tb)/\a.drew.frozen? (O sb 2)=Vl):=⟨d0,d2,d3,d4⟩;have HL:Vy ((lo<=rb/\lo<=pb/\lo<=mb)/\(rb<x/\pb<x/\mb<x)/\(x<=tb/\x<=gb/\tb<sb/\gb<sb)/\sb<hi):=⟨S.l1,S.l2,S.l3,S.l4⟩;have m:sb≠pb/\sb≠mb:=⟨U,U⟩;have A:tb≠pb/\tb≠mb/\gb≠pb/\gb≠mb/\3≠pb/\3≠mb:=⟨U,U,U,U,U,U⟩;have ab:sb<G a.drew.heap:=Tc i.lt Ws;clear C o S0 i S N b G5 B T5 d0 d2 d3 d4;go_region_held3 (λ I=>D I (O sb 1)=Z (Pq rb)/\Cq I (G w.heap) 0 (J c)/\Cq I (G w.heap) 1 (.bool v)) (first|with_reducible exact⟨q,f,d⟩)
   (first|(go_at_call 139;refine y.mono ?_;rintro r w6 ⟨rfl,G6,n⟩;have q:=n.cellOf q (λ h=>h.elim m.1 m.2);have f:=n.cellOf f (λ h=>h.elim X.1 X.2);have d:=n.cellOf d (λ h=>h.elim X.1 X.2)))
  obtain⟨d0,⟨u,d2⟩,d3,d4⟩:=HD.out;obtain⟨k1,k2,k3,k4⟩:=HL.out;have HF:Vy (Hf w6 lo hi sb rb pb mb tb gb x W H (V+1) (upd Y c v) N'):=⟨n.cellOf d0 (λ h=>h.elim m.1 m.2),q,⟨u,n.cellOf d2 (λ h=>h.elim m.1 m.2)⟩,n.cellOf d3 (λ h=>h.elim m.1 m.2),(n.frozen (p:=O sb 2) ab (λ h=>h.elim m.1 m.2)).trans d4,G6,L.X' n (λ h=>h.elim A.1 A.2.1) (λ h=>h.elim A.2.2.1 A.2.2.2.1) (λ h=>h.elim A.2.2.2.2.1 A.2.2.2.2.2),k1,k2,k3,k4⟩;have ac:=qH (ad.out.trans n (λ k _ h=>h.elim SQ (λ h=>SP (SQ h))));clear d0 d2 d3 d4 L G6 n;go_wp2;go_ret;exact SP ⟨P.out,rfl,HF.out,ac.out⟩
end
section
open Go.ChangeShapes Go.WideShapes Go.ChangeAt Go.RowKit
theorem Rc : prog.globalNamed "strconv.ErrSyntax" = Z 6 := kQ
theorem Re:(prog.globals[6]?).map (·.type)=Z 25:=kQ
theorem Rf : prog.globalNamed "strconv.ErrRange" = Z 7 := kQ
theorem Rg:(prog.globals[7]?).map (·.type)=Z 25:=kQ
theorem Rh:(prog.globals[4]?).map (·.type)=Z 314:=kQ
theorem Sm : prog.globalNamed "math/bits.deBruijn64tab" = Z 9 := kQ
theorem Ri : "*" ++ "errors.errorString" = "*errors.errorString" := dQ
theorem KC (u : TypeId) (h : prog.typeName? 3 u = Z "*errors.errorString") : u = 361 :=
 typeName_ptr_named (nm := "errors.errorString") (by rw [Ri]; kernel_rfl) kQ dQ u (by rw [Ri]; exact h)
theorem AG:prog.cellsOf 363=1:=kQ
theorem Fs:prog.cellsOf 9=1:=kQ
theorem KD:prog.cellsOf 314=20:=kQ
theorem NS:(Rows.laid_internal_strconv_uint64pow10:DataW Unit)=Lib.tabData .u64 Lib.pow10Tab:=kQ
theorem Hi {W:M}{n:String}{g:Nat}{cs:Array Vr}(b:prog.globalNamed n=Z g)(a:W.var? Vyj n=Z cs):g<G W.heap:=by
 rcases Nat.lt_or_ge g (G W.heap) with h|h
 exact h;exfalso;unfold World.var? at a;simp[b,Array.getElem?_eq_none h]at a
theorem PO {W:M}{r:List (String × DataW Unit)} (h : laidMet Vyj (("math/bits.deBruijn32tab", Rows.laid_math_bits_deBruijn32tab) :: ("math/bits.deBruijn64tab", Rows.laid_math_bits_deBruijn64tab) :: ("internal/strconv.uint64pow10", Rows.laid_internal_strconv_uint64pow10) :: ("unicode/utf8.acceptRanges", Rows.laid_unicode_utf8_acceptRanges) :: ("strconv.ErrRange", Rows.laid_strconv_ErrRange) :: ("strconv.ErrSyntax", Rows.laid_strconv_ErrSyntax) :: r) W) : Env W := by
 have f:=h.tail;have c:=f.tail;have e:=c.tail.tail;have l:=e.tail;have g:9<G W.heap:=by
  obtain⟨q,⟨t,t0,m,f0,s,p,w,i,a,k,_,_⟩,_,_⟩:=f;exact Hi Sm a
 rw[NS]at c;have j:=Lib.tabIs_of_head QR Rh underlying314 underlying273 kQ KD c;obtain⟨v,o,a,-,-,-⟩:=laid_sentinel (ti:=25) (tp:=361) (te:=363) (ts:=9) e Rf Rg underlying25 KC underlying361 underlying363 rfl rfl Vyh AG Fs;obtain⟨u,n,b,-,-,-⟩:=laid_sentinel (ti:=25) (tp:=361) (te:=363) (ts:=9) l Rc Re underlying25 KC underlying361 underlying363 rfl rfl Vyh AG Fs;exact⟨⟨_,_,by have d:=World.var?_cell Rc b 0;simpa using d⟩,⟨_,_,by have d:=World.var?_cell Rf a 0;simpa using d⟩,j,g⟩
end
section
open Go.ChangeShapes Go.WideShapes Go.ChangeAt Go.RowKit Go.Joins
theorem Tryz.own:ownKnob prog.godebug=none:=kQ
theorem Tryz.laidOut:laidOutB Vyj=true:=kQ
theorem PQ : prog.globalNamed "fellrunner/grid.steps" = Z 3 := kQ
theorem PR:(prog.globals[3]?).map (·.type)=Z 303:=kQ
theorem Rj:prog.cellsOf 302=2:=kQ
theorem c3':prog.cellsOf 3=1:=kQ
theorem Rl : prog.globalNamed "fellrunner/reach.diagonalFirst" = Z 5 := kQ
theorem Rm:(prog.globals[5]?).map (·.type)=Z 210:=kQ
theorem Sn:prog.cellsOf 210=8:=kQ
theorem Dt {o:Nat}(h:Cq w b o v):b<G w.heap:=SZ w _ h
theorem KG {W:M}{r:List (String × DataW Unit)} (h : laidMet Vyj (("fellrunner/grid.steps", Rows.laid_fellrunner_grid_steps) :: r) W) : az W := by
 obtain⟨A,⟨F,t0,a,f0,B,z,t,g,f,l,_,_⟩,_,_⟩:=h;obtain rfl:=Option.some.inj (PQ.symm.trans t);obtain rfl:=Option.some.inj (PR.symm.trans g);obtain⟨c,m,_,u,o,C,k⟩:=DataW.trod_array underlying303 l;simp only[Prod.mk.injEq]at u;have e:=u.1;have d:∀i,i<8->a.toList[2*i]? = Z (J (ah i))/\a.toList[2*i+1]? = Z (J (af i)):=by
  intro i hi;have n:=k i hi;rw[Rj]at n;have y:∃p,c[i]? = Z (Lib.tabData .i64 [ah i,af i],p):=by
   have v:i<K c:=U;refine⟨c[i].2,?_⟩;rw[SU v];have e2:(c.map (·.1))[i]? = Z c[i].1:=(by rw[Tz,SU v];rfl);simp only[Rows.laid_fellrunner_grid_steps,DataW.agg.injEq]at e;rw[<- e]at e2;have j:i=0\/i=1\/i=2\/i=3\/i=4\/i=5\/i=6\/i=7:=U;rcases j with rfl|rfl|rfl|rfl|rfl|rfl|rfl|rfl <;>
    (simp at e2;exact Q7 Z (Prod.ext e2.symm rfl))
  obtain⟨p,w⟩:=y;rw[w]at n;have x:=Lib.cells_of_tab underlying302 underlying3 c3' Rj n;have s:((a.toList.drop (i*2)).take 2)[0]? = a.toList[2*i]? := by grind
  have q:((a.toList.drop (i*2)).take 2)[1]? = a.toList[2*i+1]? := by grind
  rw[x]at s q;exact⟨s.symm,q.symm⟩
 have b:∀i,D W (O 3 i)=a.toList[i]? := λ i=>by
  have:=World.var?_cell t f i;rw[this];simp
 exact λ i hi=>⟨by rw[b];exact(d i hi).1,by rw[b];exact(d i hi).2⟩
theorem NT {W:M}{r:List (String × DataW Unit)} (h : laidMet Vyj (("fellrunner/reach.diagonalFirst", Rows.laid_fellrunner_reach_diagonalFirst) :: r) W) : ch W := by
 obtain⟨n,⟨o,t0,a,f0,k,m,j,c,b,g,_,_⟩,_,_⟩:=h;obtain rfl:=Option.some.inj (Rl.symm.trans j);obtain rfl:=Option.some.inj (Rm.symm.trans c);have f:DataW.trod (λ _=>()) Vyj W 0 (λ _=>Q) Vl f0 210 a.toList=Z (Lib.tabData .i64 [1,3,5,7,0,2,4,6],k):=g;have l:=Lib.cells_of_tab underlying210 underlying3 c3' Sn f;intro i hi;have:=World.var?_cell j b i;rw[this];have e:a[i]? = a.toList[i]? := by simp
 rw[e,l];have d:i=0\/i=1\/i=2\/i=3\/i=4\/i=5\/i=6\/i=7:=U;rcases d with rfl|rfl|rfl|rfl|rfl|rfl|rfl|rfl<;>rfl
abbrev jT : List (String × DataW Unit) := [("math/bits.deBruijn32tab", Rows.laid_math_bits_deBruijn32tab), ("math/bits.deBruijn64tab", Rows.laid_math_bits_deBruijn64tab), ("internal/strconv.uint64pow10", Rows.laid_internal_strconv_uint64pow10), ("unicode/utf8.acceptRanges", Rows.laid_unicode_utf8_acceptRanges), ("strconv.ErrRange", Rows.laid_strconv_ErrRange), ("strconv.ErrSyntax", Rows.laid_strconv_ErrSyntax), ("fellrunner/grid.steps", Rows.laid_fellrunner_grid_steps), ("fellrunner/reach.diagonalFirst", Rows.laid_fellrunner_reach_diagonalFirst), ("unicode/utf8.first", Rows.laid_unicode_utf8_first)]
theorem PS {W:M}(h:laidMetH Vyj jT W):Env W/\az W/\ch W:=by
 rw[MakeChecks.laidMetH_plain _ _ _ kQ]at h;have a:=h.tail.tail.tail.tail.tail.tail;exact⟨PO h,KG a,NT a.tail⟩
def uK (w:M) (A:Oa) (n:Nat) (fs ts:Nat->Int):Prop:=∀i,i<n->∃b o,A=Z (O b o)/\b<G w.heap/\D w (O b (o+i*2))=Z (J (fs i))/\D w (O b (o+i*2+1))=Z (J (ts i))
theorem uK.below {A:Oa}{d ts:Nat->Int}(h:uK w A n d ts)(a:Bq w I):uK I A n d ts:=λ i hi=>by
 obtain⟨b,o,g,c,f,e⟩:=h i hi;exact⟨b,o,g,Tc c a.size,(a.cell (p:=O b (o+i*2)) c).trans f,(a.cell (p:=O b (o+i*2+1)) c).trans e⟩
def sJ (w:M) (A:Oa) (n:Nat) (cs:Nat->Int) (bs:Bn):Prop:=∀i,i<n->∃b o,A=Z (O b o)/\b<G w.heap/\D w (O b (o+i*2))=Z (J (cs i))/\D w (O b (o+i*2+1))=Z (.bool (bs i))
theorem sJ.below {A:Oa}{d:Bn}(h:sJ w A n cs d)(a:Bq w I):sJ I A n cs d:=λ i hi=>by
 obtain⟨b,o,g,c,f,e⟩:=h i hi;exact⟨b,o,g,Tc c a.size,(a.cell (p:=O b (o+i*2)) c).trans f,(a.cell (p:=O b (o+i*2+1)) c).trans e⟩
end
section
open Go.RowKit Go.Lib
def edF (Y:Bn) (cs:Nat->Int) (bs:Bn):Nat->Nat->Bool
 |0=>Y
 |k+1=>upd (edF Y cs bs k) (cs k).toNat (bs k)
def edC (Y:Bn) (cs:Nat->Int) (bs:Bn):Nat->Nat
 |0=>0
 |k+1=>edC Y cs bs k+if edF Y cs bs k (cs k).toNat=bs k then 0 else 1
theorem yQ (Y:Bn)(cs:Nat->Int)(a:Bn):∀k,edC Y cs a k<=k
 |0=>aa
 |k+1=>by
  have:=yQ Y cs a k;unfold edC;split<;>omega
theorem AH {Y:Bn}{a:Bn}:∀{k},edC Y cs a k=0->edF Y cs a k=Y
 |0,_=>rfl
 |k+1,h=>by
  unfold edC at h;split at h
  next e =>
   have:=AH (k:=k) U;unfold edF;rw[uJ e,this]
  omega
def edE (W H:Int) (cs:Nat->Int) (n:Nat):Int:=if 60<n then 2 else if (List.range n).all (λ i=>inB W H (cs i)) then 0 else 1
theorem ot (W H:Int)(cs:Nat->Int)(n:Nat):(60<n/\edE W H cs n=2)\/(n<=60/\edE W H cs n=0/\∀i,i<n->inB W H (cs i)=Q)\/(n<=60/\edE W H cs n=1/\∃i,i<n/\inB W H (cs i)=Vl/\∀j,j<i->inB W H (cs j)=Q):=by
 unfold edE;by_cases h:60<n
 grind
 rw[Q6 h];cases g:(List.range n).all (λ i=>inB W H (cs i)) with
 |true=>exact SP (SQ ⟨U,rfl,λ i hi=>List.all_eq_true.1 g i (List.mem_range.2 hi)⟩)
 |false =>
  refine SP (SP ⟨U,rfl,?_⟩);have e:∃i,i<n/\inB W H (cs i)=false:=by grind
  have a:∀m,(∃i,i<m/\i<n/\inB W H (cs i)=Vl)->∃i,i<n/\inB W H (cs i)=Vl/\∀j,j<i->inB W H (cs j)=true:=by
   intro m
   induction m with
   |zero=>rintro⟨i,h,_⟩;omega
   |succ m d =>
    rintro⟨i,b,c,k⟩;by_cases f:∃i,i<m/\i<n/\inB W H (cs i)=Vl;exact d f
    grind
  obtain⟨i,b,c⟩:=e;exact a n ⟨i,b,b,c⟩
def edV (e:Int):Value:=if e=0 then .nilIface else .iface 42 (J e)
theorem Du {cap:Nat}{W H V:Int}{Y:Bn}{A:Oa}{bs:Bn}(w:M)(c1:Cq w sb 1 (Pq rb))(G9:eh w rb pb mb W H V Y)(T:sJ w A n cs bs) :
  Rq 88 #[Pq sb,.slice A n cap] w (edV (edE W H cs n)):=by
 rcases ot W H cs n with⟨z,f⟩|x
 ·rw[f];have ab:(60:Int)<(n:Int):=U;unfold edV;go_enter func88,ntmps88;go_wp2;go_ret;exact⟨rfl,ae⟩
 ·have z:¬(60:Int)<(n:Int):=by
   rcases x with h|h
   ·have:=h.1;omega
   ·have:=h.1;omega
  have HH:=qH (x.elim (λ h=>SQ h.2) (λ h=>SP h.2));have Zz:=oq w G9;have HQ:=qH T;obtain⟨t,k⟩:∃t,edV (edE W H cs n)=t:=⟨_,rfl⟩;rw[k];have q:=qH k;clear x G9 T k;go_enter func88,ntmps88;go_wp2_with fail;refine Zz.mono ?_;rintro e u ⟨rfl,g,Wa,g1,_⟩;have I:=qH (HQ.out.below g);clear Zz c1;go_wp2;go_loopw [21] (λ iv wr=>∃i:Nat,i<=n/\iv=J i/\(∀j,j<i->inB W H (cs j)=Q)/\Bq u wr)
   (λ i _=>n-(intOf i).toNat)
  case atStart=>exact⟨0,Te _,rfl,λ j X=>Q8 X (TW j),ae⟩
  case round =>
   obtain⟨i,hi,rfl,Wi,y⟩:=hrel;have r:=qH Wi;have BW:=aj g y;clear Wi;by_cases VS:i<n
   ·obtain⟨bA,oA,rfl,ZV,f0,t0⟩:=(I.out.below y) i VS;have i1:(i:Int)<(n:Int):=U;have l:Vy (∀b,inB W H (cs i)=b->b=Q->∀j,j<i+1->inB W H (cs j)=Q):=λ b B d j X=>by
     by_cases e:j=i
     ·rw[e,B,d]
     ·exact r.out j U
    have F:Vy (inB W H (cs i)=Vl->edE W H cs n=1):=λ h=>by
     rcases HH.out with⟨_,d⟩|⟨d,_⟩
     ·rw[d i VS]at h;cases h
     ·exact d
    generalize cs i=a at *;generalize bs i=C at *;have b3:Bq wr (E wr (VP #[J a,.bool C] 84)):=ae.alloc aa _;have R:=aj y b3;have s:=g1.below R Wa;have S:D (E wr (VP #[J a,.bool C] 84)) (O (G wr.heap) 0)=Z (J a):=SR #[J a,.bool C] 84 (G wr.heap) 0 rfl;cases p:inB W H a with
    |true =>
     obtain⟨c,rfl⟩:∃c:Nat,a=(c:Int):=⟨a.toNat,by have h:0<=a/\a<W*H:=Q1 p;omega⟩;have o:=lh c _ s p;have N:=qH (l.out _ p rfl);clear F l;go_wp2_with fail;refine o.mono ?_;rintro e v ⟨rfl,m5,m⟩;have P:Bq u v:=(by rw[m];exact Vxj R _);clear m o s S;go_wp2;go_roundw
     case rel=>exact⟨i+1,U,gQ,N.out,P⟩
     case measure=>simp[intOf];omega
    |false =>
     have o:=tV a _ s p;have f:=F.out p;clear F l;go_wp2_with fail;refine o.mono ?_;rintro e v ⟨rfl,m5,m⟩;have P:Bq u v:=(by rw[m];exact Vxj R _);clear m o s S;have L:Vy (.iface 42 (J 1)=t):=(by rw[<- q.out,f];rfl);clear f;go_wp2;go_ret;exact⟨by rw[<- L.out];rfl,aj g P⟩
   ·have e:i=n:=U;subst e;have f:edE W H cs i=0:=by
     rcases HH.out with⟨h,_⟩|⟨_,j,B,d,_⟩
     ·exact h
     ·rw[r.out j B]at d;cases d
    have L:Vy (.nilIface=t):=(by rw[<- q.out,f];rfl);clear f;go_wp2;go_ret;exact⟨by rw[<- L.out];rfl,BW⟩
theorem Lvd.X' {N':Nat}{W H:Int}{Y:Bn}{es:Nat->List LE}(h:Lvd w N lb N' W H Y es)(r:ai F w I)(o:∀g,N<=g->¬F g):Lvd I N lb N' W H Y es:=by
 obtain⟨b,q,k,c,f,m,n,V⟩:=h;refine⟨b,q,k,c,f,m,n,V.X' r (λ g l=>o g ?_)⟩;rcases l with h|h|h|⟨i,v,a,p⟩
 rw[h];exact V.nb.1;rw[h];exact V.nb.2.1;rw[h];exact V.nb.2.2;obtain⟨d,hi⟩:=V.no i v a;obtain⟨s,e,j⟩:=V.row _ hi;rw[TE d,a]at e;cases e;exact(j.lt g p).1
def EdP (w I:M) (e:Ending) (lo hi sb:Nat) (W H V:Int) (Y:Bn) (N' n:Nat) (cs:Nat->Int) (bs:Bn):Prop :=
 (edE W H cs n≠0/\e=VJ (.tuple #[J 0,.iface 42 (J (edE W H cs n))])/\Below (G w.heap) w I) \/
 (edE W H cs n=0/\n<=60/\(∀i,i<n->inB W H (cs i)=Q)/\e=VJ (.tuple #[J (edC Y cs bs n:Nat),.nilIface])/\Sv I lo hi sb W H (V+(edC Y cs bs n:Nat)) (edF Y cs bs n) N'/\ai (λ k=>lo<=k/\k<hi) w I)
end
section
open Go.RowKit Go.Lib
theorem KH {n:Int}(h:0<=n)(w:M) :
  Eq9 6 #[edV n,J n] w (.bool Q):=by
 unfold edV;by_cases a:n=0
 ·subst a;rw[Q5 rfl];go_enter func6,ntmps6;go_wp2;go_ret;exact⟨rfl,rfl⟩
 ·rw[Q6 a];have b:0<n:=U;clear h a;have g:=QK;go_enter func6,ntmps6;go_wp2;go_ret;exact⟨rfl,rfl⟩
structure RSv (w:M) (xb mb:Nat) (W H V:Int) (Y:Bn) (N':Nat):Prop where
 c0:D w (O xb 0)=Z (Pq mb)
 c1:D w (O xb 1)=Z (J (N':Int))
 ra:bo w mb W H V Y
 fr:Fz w mb
theorem RSv.ne {N':Nat}{W H V:Int}{Y:Bn}(R:RSv w xb mb W H V Y N'):xb≠mb:=λ h=>by
 have a:=R.c0;rw[h,R.ra.c0]at a;cases a
theorem RSv.lts {N':Nat}{W H V:Int}{Y:Bn}(R:RSv w xb mb W H V Y N'):xb<G w.heap/\mb<G w.heap:=⟨aB R.c0,aB R.ra.c0⟩
theorem RSv.X' {N':Nat}{W H V:Int}{Y:Bn}(R:RSv w xb mb W H V Y N')(a:ai F w I)(c:¬F xb)(b:¬F mb):RSv I xb mb W H V Y N' :=
 ⟨a.cellOf R.c0 c,a.cellOf R.c1 c,⟨R.ra.w1,R.ra.w2,R.ra.h1,R.ra.h2,a.cellOf R.ra.c0 b,a.cellOf R.ra.c1 b,a.cellOf R.ra.c2 b,λ i hi=>a.cellOf (R.ra.cs i hi) b⟩,R.fr.X' a R.lts.2 b⟩
theorem RSv.below {N':Nat}{W H V:Int}{Y:Bn}(R:RSv w xb mb W H V Y N')(a:Bq w I):RSv I xb mb W H V Y N':=R.X' (F:=λ _=>False) (ai.Y' a) id id
def nwE (W H N':Int):Int:=if aT W=Q/\aT H=Q/\1<=N'/\N'<=6 then 0 else 1
theorem OY (w:M)(m:Nat)(N':Int):Cq (E w (VP #[Pq m,J N'] 40)) (G w.heap) 0 (Pq m)/\Cq (E w (VP #[Pq m,J N'] 40)) (G w.heap) 1 (J N'):=by grind [Go.World.cell?_alloc_at]
theorem KI (W H N':Int)(w:M) :
  Zq 17 #[J W,J H,J N'] w λ e I=>Bq w I/\((nwE W H N'=1/\e=VJ (.tuple #[.pointer UP,J 1]))\/(nwE W H N'=0/\∃xb mb k:Nat,N'=(k:Int)/\1<=k/\k<=6/\G w.heap<=xb/\G w.heap<=mb/\e=VJ (.tuple #[Pq xb,J 0])/\RSv I xb mb W H 0 (λ _=>Vl) k)):=by
 by_cases j:aT W=Q/\aT H=Q
 ·obtain⟨m,n⟩:=j;have a:1<=W/\W<=16:=Q1 m;have b:1<=H/\H<=16:=Q1 n;have g:=EA W H w a.1 a.2 b.1 b.2;have l:=wD W H w m n;have i:=QU W H w;have d:Bq w (E w (.cells (pW W H) 37)):=ae.alloc aa _;have y:G (E w (.cells (pW W H) 37)).heap=G w.heap+1:=by simp
  by_cases t:N'<1
  ·have f:Vy (nwE W H N'=1):=Q6 (λ h=>U);clear a b l i;go_enter func17,ntmps17;go_wp2_with (go_at_call 36;refine Q0 g ?_);go_ret2;exact⟨d,SQ ⟨f.out,rfl⟩⟩
  by_cases s:6<N'
  ·have f:Vy (nwE W H N'=1):=Q6 (λ h=>U);clear a b l i;go_enter func17,ntmps17;go_wp2_with (go_at_call 36;refine Q0 g ?_);go_ret2;exact⟨d,SQ ⟨f.out,rfl⟩⟩
  ·have f:Vy (nwE W H N'=0):=Q5 ⟨m,n,U,U⟩;obtain⟨k,u⟩:∃k:Nat,N'=(k:Int):=⟨N'.toNat,U⟩;have r:Vy (1<=k/\k<=6):=⟨U,U⟩;subst u;have A:=qH l;have z:=qH i;clear a b l i m n;go_enter func17,ntmps17;go_wp2_with (go_at_call 36;refine Q0 g ?_);generalize E w (.cells (pW W H) 37)=o at *;have c:Bq o (E o (VP #[Pq (G w.heap),J (k:Int)] 40)):=ae.alloc aa _;have B:=aj d c;obtain⟨q,p⟩:=OY o (G w.heap) (k:Int);rw[y]at q p;go_ret2;exact⟨B,SP ⟨f.out,G w.heap+1,G w.heap,k,rfl,r.out.1,r.out.2,U,aa,rfl,⟨q,p,A.out.below c U,z.out.below c U⟩⟩⟩
 ·have f:Vy (nwE W H N'=1):=Q6 (λ h=>j ⟨h.1,h.2.1⟩);have g:=zG W H w (by
   cases x:aT W with
   |false=>exact SQ rfl
   |true=>cases v:aT H with
    |false=>exact SP ⟨rfl,rfl⟩
    |true=>exact Q8 ⟨x,v⟩ j)
  clear j;go_enter func17,ntmps17;go_wp2_with (go_at_call 36;refine Q0 g ?_);go_ret2;exact⟨ae,SQ ⟨f.out,rfl⟩⟩
end
section
open Go.RowKit Go.Lib
def ldE (t:Lu) (N':Int):Int:=match cH t with|.bad n=>(n:Int)|.good _ _ _=>if 1<=N'/\N'<=6 then 0 else 1
theorem Fu {t:Lu}{N':Int}(h:cH t=.bad n):ldE t N'=(n:Int):=by unfold ldE;rw[h]
theorem AI {t:Lu}{W H:Nat}{cs:List Bool}{N':Int}(h:cH t=.good W H cs):ldE t N'=if 1<=N'/\N'<=6 then 0 else 1:=by unfold ldE;rw[h]
theorem KJ (t:List UInt8)(N':Int)(w:M)(l:∀n,cH t=.bad n->0<n) :
  Calls Vyj 14 #[.string (str t),VN VO N'] w λ e I=>Below (G w.heap) w I/\((ldE t N'≠0/\e=VJ (.tuple #[.pointer UP,VN VO (ldE t N')]))\/(ldE t N'=0/\∃(xb mb k W H:Nat) (cs:List Bool),cH t=.good W H cs/\N'=(k:Int)/\1<=k/\k<=6/\G w.heap<=xb/\G w.heap<=mb/\e=VJ (.tuple #[.pointer (Z ⟨xb,0,UP⟩),VN VO 0])/\RSv I xb mb W H (blocks cs) (dZ cs) k)):=by
 cases c:cH t with
 |bad n =>
  have v:=l n c;have a:=Dj c w;have u:(0:Int)<(n:Int):=U;have f:Vy (ldE t N'=(n:Int)):=Fu c;have o:Vy ((n:Int)≠0):=by unfold Vy;omega
  clear c l v;go_enter func14,ntmps14;go_wp2_with (go_at_call 35;refine a.mono ?_;rintro e I ⟨rfl,d⟩);go_ret2;rw[f.out];exact⟨d,SQ ⟨o.out,rfl⟩⟩
 |good W H cs =>
  have a:=Av c w;have f:=AI (N':=N') c;by_cases y:N'<1
  ·have b:=qH (f.trans (if_neg (λ h=>U)));clear f c l;go_enter func14,ntmps14;go_wp2_with (go_at_call 35;refine a.mono ?_;rintro e I ⟨B,m,j,rfl,i,d⟩;clear m j i);go_ret2;rw[b.out];exact⟨d,SQ ⟨dQ,rfl⟩⟩
  by_cases x:6<N'
  ·have b:=qH (f.trans (if_neg (λ h=>U)));clear f c l;go_enter func14,ntmps14;go_wp2_with (go_at_call 35;refine a.mono ?_;rintro e I ⟨B,m,j,rfl,i,d⟩;clear m j i);go_ret2;rw[b.out];exact⟨d,SQ ⟨dQ,rfl⟩⟩
  ·have b:=qH (f.trans (if_pos ⟨U,U⟩));obtain⟨k,z⟩:∃k:Nat,N'=(k:Int):=⟨N'.toNat,U⟩;have p:Vy (1<=k/\k<=6):=⟨U,U⟩;subst z;clear f c l;go_enter func14,ntmps14;go_wp2_with (go_at_call 35;refine a.mono ?_;rintro e I ⟨B,m,j,rfl,i,d⟩);have q:=qH i;have g:=mB I (VP #[.pointer (Z ⟨B,0,UP⟩),VN VO (k:Int)] 40);have A:=aj d g;obtain⟨s,r⟩:=OY I B (k:Int);clear i;go_ret2;exact⟨A,SP ⟨b.out,G I.heap,B,k,W,H,cs,rfl,rfl,p.out.1,p.out.2,d.size,m,rfl,⟨s,r,q.out.1.below g j,q.out.2.below g j⟩⟩⟩
theorem Rn {W H:Int}(a:¬(aT W=Q/\aT H=Q)):aT W=Vl\/(aT W=Q/\aT H=Vl):=by grind
theorem PT (W H N':Int)(w:M)(s:az w) :
  Zq 21 #[J W,J H,J N'] w λ e I=>Bq w I/\((nwE W H N'=1/\e=VJ (.tuple #[.pointer UP,.iface 42 (J 1)]))\/(nwE W H N'=0/\∃sb k:Nat,N'=(k:Int)/\e=VJ (.tuple #[Pq sb,.nilIface])/\Sv I (G w.heap) (G I.heap) sb W H 0 (λ _=>Vl) k)):=by
 by_cases c:aT W=Q/\aT H=Q
 ·obtain⟨d,f⟩:=c;by_cases i:1<=N'/\N'<=6
  ·have b:nwE W H N'=0:=Q5 ⟨d,f,i⟩;obtain⟨k,n⟩:∃k:Nat,N'=(k:Int):=⟨N'.toNat,U⟩;subst n;exact(Kx w s d f U U).mono λ e I ⟨sb,q,p,o⟩=>⟨o,SP ⟨b,sb,k,rfl,q,p⟩⟩
  ·have b:Vy (nwE W H N'=1):=Q6 (λ h=>i h.2.2);have g:=CA W H w d f;have l:=ph W H w d f;have a:Bq w (E w (.cells (fF W H) 149)):=ae.alloc aa _;have m:=Fp (N':=N') _ l (s.below a (Oq s.pos)) U;clear l i;go_enter func21,ntmps21;go_wp2_with (go_at_call 45;refine Q0 g ?_);refine Q9 m λ r j=>?_;go_wp2;go_ret2;exact⟨aj a j,SQ ⟨b.out,rfl⟩⟩
 ·have b:Vy (nwE W H N'=1):=Q6 (λ h=>c ⟨h.1,h.2.1⟩);have g:=Ex W H w (Rn c);clear c;go_enter func21,ntmps21;go_wp2_with (go_at_call 45;refine Q0 g ?_);go_ret2;exact⟨ae,SQ ⟨b.out,rfl⟩⟩
theorem NU (t:Lu)(N':Int)(w:M)(E9:Env w)(s:az w)(i:∀n,cH t=.bad n->0<n) :
  Zq 23 #[.string (str t),J N'] w λ e I=>Bq w I/\((ldE t N'≠0/\e=VJ (.tuple #[.pointer UP,.iface 42 (J (ldE t N'))]))\/(ldE t N'=0/\∃(sb k W H:Nat) (cs:List Bool),cH t=.good W H cs/\N'=(k:Int)/\e=VJ (.tuple #[Pq sb,.nilIface])/\Sv I (G w.heap) (G I.heap) sb W H (blocks cs) (dZ cs) k)):=by
 cases a:cH t with
 |bad n =>
  have l:=i n a;have c:=GF a w E9;have b:Vy (ldE t N'=(n:Int)):=Fu a;have g:Vy ((n:Int)≠0):=by unfold Vy;omega
  clear a i l;go_enter func23,ntmps23;go_wp2_with (go_at_call 47;refine Q9 c λ I o=>?_);go_ret2;rw[b.out];exact⟨o,SQ ⟨g.out,rfl⟩⟩
 |good W H cs =>
  have b:=AI (N':=N') a;by_cases j:1<=N'/\N'<=6
  ·obtain⟨k,m⟩:∃k:Nat,N'=(k:Int):=⟨N'.toNat,U⟩;subst m;exact(He w E9 s a U U).mono λ e I ⟨sb,f,d,p⟩=>⟨p,SP ⟨b.trans (Q5 j),sb,k,W,H,cs,rfl,rfl,f,d⟩⟩
  ·have h:ldE t N'=1:=b.trans (Q6 j);rw[h];exact(Hg w E9 s a U).mono λ e I ⟨f,d⟩=>⟨d,SQ ⟨dQ,f⟩⟩
end
section
open Go.RowKit Go.Lib
theorem xw (w:M)(B o:Nat)(v:Vr):ai (λ k=>k=B) w (C' w (O B o) v):=by grind [ai.setCell,ai.refl]
theorem Hf.full {tb gb x N':Nat}{W H V:Int}{Y:Bn}(S:Hf w lo hi sb rb pb mb tb gb x W H V Y N')(L:Lvd w N lb N' W H Y (esF W H Y))(o:sb<N)(f:6<=lo)(e:1<=N')(d:N'<=6):Sv (C' w (O sb 2) (Pq lb)) lo hi sb W H V Y N':=by
 have b:=xw w sb 2 (Pq lb);obtain⟨n,l,k⟩:=S.l1;obtain⟨y,v,t⟩:=S.l2;obtain⟨s,r,p,m⟩:=S.l3;obtain⟨u,j⟩:=S.c2;have a:∀{i:Nat},i≠2->(O sb 2:Addr)≠O sb i:=λ h q=>h (Addr.mk.inj q).2.1.symm;refine⟨rb,pb,mb,lb,tb,gb,N,x,V,?_,?_,World.cell?_setCell_same _ _ _ j,?_,by simpa using S.fz,S.gi.X' b (λ h=>U) (λ h=>U) (λ h=>U) (λ g c h=>c.2.2 h),L.X' b (λ g c h=>U),S.ta.X' b (λ h=>U) (λ h=>U) (λ h=>U),⟨n,l,k,by have:=S.l4;omega⟩,S.l2,S.l3,S.l4,e,d,rfl⟩;rw[SY _ _ _ _ (a dQ)];exact S.c0;rw[SY _ _ _ _ (a dQ)];exact S.c1;rw[SY _ _ _ _ (a dQ)];exact S.c3
theorem Hj {N' cap:Nat}{W H V:Int}{Y:Bn}{A:Oa}{d:Bn}(w:M)(S:Sv w lo hi sb W H V Y N')(hq:sJ w A n cs d)(hA:0<n->∀b o,A=Z (O b o)->¬(lo<=b/\b<hi))(ac:6<=lo)(v1:0<=V)(v2:V<=900000) :
  Zq 51 #[Pq sb,.slice A n cap] w λ e I=>EdP w I e lo hi sb W H V Y N' n cs d:=by
 obtain⟨rb,pb,mb,lb,tb,gb,N,x,V2,S⟩:=S;have z:=Du (cap:=cap) w S.c1 S.gr hq;by_cases P:edE W H cs n=0
 ·have f:edV (edE W H cs n)=.nilIface:=Q5 P;obtain⟨X,Wi⟩:n<=60/\∀i,i<n->inB W H (cs i)=true:=by
   rcases ot W H cs n with⟨_,h⟩|⟨h1,_,h2⟩|⟨_,h,_⟩
   ·omega
   ·exact⟨h1,h2⟩
   ·omega
  have m:Vy (edE W H cs n=0/\∀i,i<n->inB W H (cs i)=Q):=⟨P,Wi⟩;rw[f]at z;clear f P Wi;have HA:=qH hA;have HQ:=qH hq;have am:=S.hf;obtain⟨a1,a2,a3⟩:=S.l1;obtain⟨a4,a5,a6⟩:=S.l2;obtain⟨a7,a8,a9,be⟩:=S.l3;have au:=S.l4;have m1:=S.m1;have m6:=S.m6;have bd:=S.lt;have HW:Vy (∀k,Wr pb mb tb gb k->lo<=k/\k<hi):=λ k h=>by
   rcases h with h|h|h|h<;>omega
  have ay:=qH S;clear S hA hq;go_enter func51,ntmps51;go_wp2_with fail;refine Q9 z λ R j=>?_;have s:=am.below j;have aL:=qH (HQ.out.below j);clear z am;go_wp2;go_loopw [7,18] (λ cv iv wr=>∃(i g:Nat) (WM:Bn),i<=n/\iv=J i/\cv=J (g:Int)/\g<=i/\Vy (edC Y cs d i=g/\edF Y cs d i=WM)/\Hf wr lo hi sb rb pb mb tb gb x W H (V+(g:Int)) WM N'/\Vy (g=0->Bq R wr)/\ai (Wr pb mb tb gb) R wr)
   (λ _ i _=>n-(intOf i).toNat)
  case atStart=>exact⟨0,0,Y,Te _,rfl,rfl,aa,⟨rfl,rfl⟩,by simpa using s,λ _=>ae,ai.refl _ _⟩
  case round =>
   obtain⟨i,g,WM,X7,rfl,rfl,XO,f,F,hZ,B⟩:=hrel;by_cases VS:i<n
   ·obtain⟨bA,oA,eA,ZV,ad,T⟩:=aL.out i VS;have y:¬Wr pb mb tb gb bA:=λ h=>HA.out U bA oA eA (HW.out _ h);have f0:=B.cellOf ad y;have t0:=B.cellOf T y;subst eA;have i1:(i:Int)<(n:Int):=U;have Xx:=m.out.2 i VS;have Zy:0<=cs i:=by
     have h:0<=cs i/\cs i<W*H:=Q1 Xx;exact h.1
    obtain⟨c,hc⟩:∃c:Nat,cs i=(c:Int):=⟨(cs i).toNat,U⟩;obtain⟨v,l⟩:∃v,d i=v:=⟨_,rfl⟩;have C:Vy (WM c=v->edC Y cs d (i+1)=g/\edF Y cs d (i+1)=WM):=λ h=>by
     have e:edF Y cs d i (cs i).toNat=d i:=(by rw[f.out.2,hc,Ta,l];exact h);refine⟨?_,?_⟩
     ·show edC Y cs d i+(if _ then 0 else 1)=g;rw[Q5 e,f.out.1];rfl
     ·show upd (edF Y cs d i) (cs i).toNat (d i)=WM;rw[uJ e,f.out.2]
    have Yb:Vy (WM c=!v->edC Y cs d (i+1)=g+1/\edF Y cs d (i+1)=upd WM c v):=λ h=>by
     have e:¬edF Y cs d i (cs i).toNat=d i:=(by rw[f.out.2,hc,Ta,l,h];cases v<;>simp);refine⟨?_,?_⟩
     ·show edC Y cs d i+(if _ then 0 else 1)=g+1;rw[Q6 e,f.out.1]
     ·show upd (edF Y cs d i) (cs i).toNat (d i)=_;rw[f.out.2,hc,Ta,l]
    rw[hc]at f0 Xx;rw[l]at t0;clear hc l Zy ad T f;have b3:Bq wr (E wr (VP #[J (c:Int),.bool v] 84)):=ae.alloc aa _;have q0:D (E wr (VP #[J (c:Int),.bool v] 84)) (O (G wr.heap) 0)=Z (J (c:Int)):=SR #[J (c:Int),.bool v] 84 (G wr.heap) 0 rfl;have q1:D (E wr (VP #[J (c:Int),.bool v] 84)) (O (G wr.heap) 1)=Z (.bool v):=SR #[J (c:Int),.bool v] 84 (G wr.heap) 1 rfl;have Wq:=Kz v _ (F.below b3) Xx U U ac;have K3:=B.below b3;have ag:Vy (g=0->Bq R (E wr (VP #[J (c:Int),.bool v] 84))):=λ h=>(hZ.out h).trans (b3.mono (hZ.out h).size);have F3:=F.below b3;clear F B hZ b3 y;go_wp2_with fail;refine Wq.mono ?_;rintro e w5 Wx;clear Wq q0 q1 f0 t0;generalize E wr (VP #[VN VO (c:Int),.bool v] 84)=wa at *;rcases Wx with⟨l,rfl,VW⟩|⟨l,rfl,F5,K5⟩
    ·have HN:=qH (C.out l);have F5:=F3.below VW;have K5:=K3.below VW;have ax:Vy (g=0->Bq R w5):=λ h=>(ag.out h).trans (VW.mono (ag.out h).size);clear C Yb l F3 K3;go_wp2;go_roundw
     case rel=>exact⟨i+1,g,WM,U,gQ,rfl,U,HN.out,F5,ax.out,K5⟩
     case measure=>simp[intOf];omega
    ·have HN:=qH (Yb.out l);have aw:=K3.trans K5 (λ _ _ h=>h);have e1:V+(g:Int)+1=V+((g+1:Nat):Int):=U;rw[e1]at F5;have bb:=qH F5;clear C Yb l F3 K3 e1 F5;go_wp2;go_roundw
     case rel=>exact⟨i+1,g+1,upd WM c v,U,gQ,gQ,U,HN.out,bb.out,λ h=>Q8 h (Nat.succ_ne_zero g),aw⟩
     case measure=>simp[intOf];omega
   ·have e:i=n:=U;subst e;have HK:=qH ((ai.Y' j).trans B (λ k _ h=>HW.out k h));by_cases hz:g=0
    ·have HB:=qH (j.trans ((hZ.out hz).mono j.size));subst hz;clear F B;go_wp2;go_ret2;refine SP ⟨m.out.1,X,m.out.2,?_,?_,HK.out⟩
     ·rw[f.out.1];rfl
     ·rw[AH f.out.1,f.out.1];rw[show V+((0:Nat):Int)=V by omega];exact⟨rb,pb,mb,lb,tb,gb,N,x,V2,ay.out.below HB.out⟩
    ·have bc:(0:Int)<(g:Int):=U;have e0:Bq wr wr.drew:=ae.drew;have s:=F.below e0;have Wm:=s.side.1;have hl:=tZ wr.drew s.gi.graph (iF Wm) m1 m6;have c0:=s.c0;have c1:=s.c1;obtain⟨u,c2⟩:=s.c2;have z2:=s.fz;have ab:sb<G wr.drew.heap:=s.lt;have ba:=qH s;clear F B hZ s;go_wp2_with fail;go_region_held3 (λ I=>D I (O sb 1)=Z (Pq rb)/\Cq I sb 0 (J (N':Int))) (first|with_reducible exact⟨c1,c0⟩|with_reducible exact⟨an,ao⟩)
      (first|(go_at_call 77;refine hl.mono ?_;rintro r w6 ⟨t,rfl,L6,L⟩;have c0:=al L c0;have c1:=al L c1;have c2:=al L c2;have z2:=(L.frozen (p:=O sb 2) ab).trans z2;have an:Cq (C' w6 (O sb 2) (Pq t)) sb 1 (Pq rb):=((SY _ _ _ _ (λ q=>by cases q)).trans c1);have ao:Cq (C' w6 (O sb 2) (Pq t)) sb 0 (J (N':Int)):=((SY _ _ _ _ (λ q=>by cases q)).trans c0)))
     have SV:=(ba.out.below L).full L6 ab ac m1 m6;have a0:Vy (ai (λ k=>lo<=k/\k<hi) w (C' w6 (O sb 2) (Pq t))):=((HK.out.below e0).below L).trans (xw w6 sb 2 _) (λ k _ h=>by rw[h];exact⟨U,au⟩);have ap:=bX SV;clear SV L6;go_wp2;go_ret2;refine SP ⟨m.out.1,X,m.out.2,?_,?_,a0.out⟩
     ·rw[f.out.1];rfl
     ·rw[f.out.1,f.out.2];exact ap.out
 ·have f:edV (edE W H cs n)=.iface 42 (J (edE W H cs n)):=Q6 P;have aN:=bX P;rw[f]at z;clear f P S hq hA;have HP:Vy (∀I,Bq w I->EdP w I (VJ (.tuple #[J 0,.iface 42 (J (edE W H cs n))])) lo hi sb W H V Y N' n cs d):=λ I h=>SQ ⟨aN.out,rfl,h⟩;generalize edE W H cs n=ee at z HP;go_enter func51,ntmps51;go_wp2_with fail;refine Q9 z λ R j=>?_;clear z;go_wp2;go_ret2;exact HP.out _ j
end
section
open Go.RowKit Go.Lib
def NV (x:Int×Bool):List Value:=[J x.1,.bool x.2]
def jK (l:List (Int×Bool)):List Value:=l.flatMap NV
theorem AJ (l:List (Int×Bool))(x:Int×Bool):jK (l++[x])=jK l++NV x:=by grind [jK,NV]
theorem Fv:∀(l:List (Int×Bool)) (i:Nat),i<K l->(jK l)[i*2]? = Z (J (l.getD i (0,Vl)).1)/\(jK l)[i*2+1]? = Z (.bool (l.getD i (0,Vl)).2)
 |[],i,h=>Q8 h (TW i)
 |y::l,0,_=>⟨rfl,rfl⟩
 |y::l,i+1,h=>by
  obtain⟨a,b⟩:=Fv l i (Nat.lt_of_succ_lt_succ h);have e:∀j,(jK (y::l))[j+2]? = (jK l)[j]? := λ j=>by
   have:jK (y::l)=NV y++jK l:=(by unfold jK;rw[Vt]);rw[this,TG (by show 2<=_;omega)];show (jK l)[j+2-2]? = _;rw[Nat.add_sub_cancel]
  rw[show (i+1)*2=i*2+2 by omega];refine⟨?_,?_⟩;rw[e];exact a
  grind
theorem lM (w:M)(x y:Vr)(t:TypeId):∀j q,[x,y][j]? = Z q->D (E w (VP #[x,y] t)) ((O (G w.heap) 0:Addr).add j)=Z q:=by
 intro j q a
 match j,a with
 |0,a=>simp at a;subst a;simp[Addr.add]
 |1,a=>simp at a;subst a;simp[Addr.add]
def csL (l:List (Int×Bool)) (i:Nat):Int:=(l.getD i (0,Vl)).1
def bsL (l:List (Int×Bool)) (i:Nat):Bool:=(l.getD i (0,Vl)).2
theorem KM {l:List (Int×Bool)}(h:G' w base 84 2 v (K l) (jK l)):∃A c,v=.slice A (K l) c/\sJ w A (K l) (csL l) (bsL l)/\∀b o,A=Z (O b o)->base<=b:=by
 rcases h.2 with⟨rfl,e⟩|⟨g,c,p,rfl,n,f,s,r,q,m⟩
 rw[e];exact⟨UP,0,rfl,λ i hi=>Q8 hi (TW i),λ b o e=>by cases e⟩;refine⟨Z (O g 0),c,rfl,λ i hi=>⟨g,0,rfl,(Array.getElem?_eq_some_iff.1 f).1,?_⟩,λ b o e=>by cases e;exact n⟩;obtain⟨a,b⟩:=Fv l i hi;have k:∀j u,(jK l)[j]? = Z u->D w (O g (0+j))=Z u:=λ j u d=>by
  rw[Tm];rw[<- m]at d;rw[List.getElem?_take]at d;split at d;simp only[U2,f]
  simpa using d
  cases d
 exact⟨k _ _ a,k _ _ b⟩
end
section
open Go.RowKit Go.Lib
theorem kz {l:Ln}(h:G' w base 3 1 v (K l) (aH l)):∃A a,v=.slice A (K l) a/\bP w A (K l) (λ i=>((l.getD i 0:Nat):Int))/\(l=[]->True):=by
 rcases UT (K l) with b|b
 have e:l=[]:=TF.1 b;subst e;rcases h.2 with⟨rfl,_⟩|⟨g,a,_,rfl,_⟩
 exact⟨UP,0,rfl,λ i hi=>Q8 hi (TW i),λ _=>trivial⟩;exact⟨_,a,rfl,λ i hi=>Q8 hi (TW i),λ _=>trivial⟩;obtain⟨g,a,rfl,c,_,d,_⟩:=fS h b;refine⟨_,a,rfl,λ i hi=>⟨g,0,rfl,d,?_⟩,λ _=>trivial⟩;have e:l[i]? = Z (l.getD i 0):=by grind
 have:=c i _ (tk e)
 rwa [Addr.add_lit]at this
theorem Rt.reads {W H:Int}{Y:Bn}{s d err:Int}{Vq:Ln}{F:Int->Oi}(R:Rt W H Y a t Vq s d err)(n:1<=W)(b:ff2 W H Y a t=0)(B:cL (aF W H Y) a F):(F t=UP/\err=5/\Vq=[]/\s=0/\d=0) \/
  (F t=Z (s,d)/\err=0/\0<K Vq/\wkV W H Y (λ i=>((Vq.getD i 0:Nat):Int)) (K Vq)=((s,d),0)/\((Vq.getD 0 0:Nat):Int)=a/\((Vq.getD (K Vq-1) 0:Nat):Int)=t):=by
 cases f:F t with
 |none =>
  left;refine⟨rfl,R.no b (λ p q C=>?_)⟩;obtain⟨s',d',e,_⟩:=B.least C;rw[f]at e;cases e
 |some c =>
  right;obtain⟨s',d'⟩:=c;obtain⟨z,I⟩:=R.yes b (B.sound f);obtain⟨l,rfl,j,X,N,V,L⟩:=R.path b z;obtain⟨P,d2,k,e2⟩:=B.least j.walk;rw[f]at k;cases k;obtain⟨w,g,v⟩:=B.small f;obtain⟨S,u⟩:=cT w g v;obtain⟨r,o⟩:=Ky N L g u I e2;subst r o;obtain⟨⟨h,A⟩,_⟩:=pR b;have T:0<=a/\a<W*H:=Q1 h;obtain⟨m,rfl⟩:∃m:Nat,a=(m:Int):=⟨a.toNat,U⟩;rw[Ta]at *;obtain⟨y,x⟩:=j.wkV n h A;exact⟨rfl,z,Nat.succ_pos _,y,rfl,x⟩
theorem xx {W H V s d err:Int}{Y:Bn}{Vq:Ln}(w:M)(cx:Cq w xb 0 (Pq mb))(g:bo w mb W H V Y)(ag:G' w base 3 1 v (K Vq) (aH Vq))(R:Rt W H Y a t Vq s d err) :
  Rq 41 #[Pq xb,J a,J t,.agg #[v,J s,J d,J err]] w (.bool Q):=by
 obtain⟨A,m,rfl,o,_⟩:=kz ag;have Yp:=aB cx;have x:=aB g.c0;have b0:Bq w (E w (VP #[.slice A (K Vq) m,J s,J d,J err] 92)):=ae.alloc aa _;have a8:=An.new w (.slice A (K Vq) m) s d err;have bk:=(b0.cell Yp).trans cx;have YK:=Eh a _ (g.below b0 x);have bp:=R.len;go_enter func41,ntmps41;go_wp2_with fail;generalize E w (VP #[.slice A (K Vq) m,VN VO s,VN VO d,VN VO err] 92)=wa at *;refine Q9 YK λ wb au=>?_;have B1:=aj b0 au;have X:=a8.below au;have a7:=(B1.cell Yp).trans cx;clear YK a8 bk au b0;have aw:∀c,¬ffv W H Y c=0->0<ffv W H Y c:=λ c h=>by unfold ffv at h ⊢;split<;>(try split)<;>simp_all
 by_cases i:ffv W H Y a=0
 ·have a4:=Eh t wb (g.below B1 x);rw[i];go_wp2_with fail;refine Q9 a4 λ z ap=>?_;have B2:=aj B1 ap;have Yl:=X.below ap;have bi:=(B2.cell Yp).trans cx;clear a4 X a7 ap;by_cases L:ffv W H Y t=0
  ·have hf:ff2 W H Y a t=0:=(by unfold ff2;rw[Q5 i];exact L);obtain⟨⟨Ys,XP⟩,⟨hit,bq⟩⟩:=pR hf;have ja:0<=a/\a<W*H:=Q1 Ys;have jt:0<=t/\t<W*H:=Q1 hit;obtain⟨aN,rfl⟩:∃aN:Nat,a=(aN:Int):=⟨a.toNat,U⟩;obtain⟨tN,rfl⟩:∃tN:Nat,t=(tN:Int):=⟨t.toNat,U⟩;have bc:=g.w1;have WS:=bG g.w1 g.w2 g.h1 g.h2;rw[L];have X4:=bz.new z 0 0;have N:Bq z (E z (VP #[J 0,J 0] 90)):=ae.alloc aa _;have B3:=aj B2 N;have y:=Yl.below N;have bf:=(B3.cell Yp).trans cx;have XY:=lZ aN _ (g.below B3 x) (Tc x B3.size) Ys;have u:G w.heap<G z.heap:=aB Yl.c0;clear Yl bi N;go_wp2_with fail;generalize E z (VP #[VN VO 0,VN VO 0] 90)=we at *;generalize G z.heap=C at *;refine XY.mono ?_;rintro e b ⟨F,rfl,BF,aL⟩;obtain⟨t54,t55,LA,a5⟩:=MK b F;have o1:=oS F;have o2:=tM F;have WH:=dK F;have XC:=oQ F;have ad:=aj aL a5;have a0:=aj B3 ad;have ax:=y.below ad;have l:=X4.below ad;have be:=(a0.cell Yp).trans cx;have x0:=l.c0;have x1:=l.c1;have x2:=l.z0;have x3:=l.z1;have am:tN<256:=U;have y0:=LA.i0 tN am;have y1:=LA.c0 tN am;have y2:=LA.c1 tN am;have i1:(0:Int)<=(tN:Int):=U;have i2:(tN:Int)<256:=U;have ay:∀{q:Nat},q=G b.heap\/q=G b.heap+1->q≠C:=λ {q} h e=>by
    have l1:C<G we.heap:=aB X4.c0;have l2:=aL.size;omega
   have bd:=R.reads bc hf BF;clear XY aL a5 ad BF y X4 bf;generalize dm F=cs at *;generalize isL F=ao at *;have a3:=run_storeCells_cells (P:=Vyj) (G b.heap+1) 0 ao 0 (((E b (.cells zC 130)).alloc (.cells zB 35)).setCells (G b.heap) 0 cs) (λ j hj=>by simpa using (t55 j U).1) (λ j hj=>by simpa using (t55 j U).2) o2;simp only[Nat.add_zero]at a3;go_upto_region 7 with (first|(refine nJ rfl rfl ?_)|(refine nK rfl rfl ?_)|(refine wpList_store_mid rfl 130 _ _ rfl _ _ cs.toArray rfl rfl (Pm WH t54) (Pn WH Ef) (all_oneCell_toArray o1) ?_)|(refine wpList_store_mid rfl 35 _ _ rfl _ _ ao.toArray rfl rfl (Pm XC t55) (Pn XC Eg) (all_oneCell_toArray o2) ?_))
   clear a3 o1 o2 WH XC t54 t55;generalize (((E b (.cells zC 130)).alloc (.cells zB 35)).setCells (G b.heap) 0 cs).setCells (G b.heap+1) 0 ao=B at *;generalize G b.heap+1=IB at *;generalize G b.heap=CB at *;have a6:=ay (SP rfl);have bs:=ay (SQ rfl);clear ay;rcases bd with⟨hF,rfl,rfl,rfl,rfl⟩|⟨hF,rfl,XN,a2,ba,a9⟩
   ·obtain⟨e1,e2⟩:=BP hF;rw[e1]at y1;rw[e2]at y2;rw[hF]at y0;simp only[Option.isSome_none]at y0;have S5:=l.set 0 0;have K5:=fq B C 0 0;have a1:=K5.cellOf y0 a6;have f:=ax.X' K5 (Uz u);have u0:=f.c0;have u1:=f.c1;have u2:=f.c2;have u3:=f.c3;have B5:Bq w ((C' B (O C 0) (J 0)).setCell (O C 1) (J 0)):=(a0.setCell (p:=O C 0) (UQ u) _).setCell (p:=O C 1) (UQ u) _;clear K5 S5;go_wp2;go_ret;exact⟨rfl,B5⟩
   ·obtain⟨e1,e2⟩:=dC hF;rw[e1]at y1;rw[e2]at y2;rw[hF]at y0;simp only[Option.isSome_some]at y0;have S5:=l.set s d;have K5:=fq B C s d;have a1:=K5.cellOf y0 a6;have f:=ax.X' K5 (Uz u);have B5:Bq w ((C' B (O C 0) (J s)).setCell (O C 1) (J d)):=(a0.setCell (p:=O C 0) (UQ u) _).setCell (p:=O C 1) (UQ u) _;have ac:=(B5.cell Yp).trans cx;obtain⟨n,hn⟩:∃n,K Vq=n+1:=⟨K Vq-1,U⟩;obtain⟨bA,oA,rfl,ZV,r0⟩:=o 0 XN;obtain⟨bw,bn,eA,_,rn⟩:=o (K Vq-1) U;cases eA;have q0:Cq w bA oA (J (aN:Int)):=(by rw[<- ba];exact r0);have qn:Cq w bA (oA+n) (J (tN:Int)):=by
     rw[<- a9,show n=K Vq-1 by omega];exact rn
    have HW:Vy (∀I,Bq w I->Zq 71 #[Pq mb,.slice (Z (O bA oA)) (n+1) m] I λ e WX=>e=VJ (.tuple #[.agg #[J s,J d],J 0])/\Bq I WX):=λ I hb=>by
     have h:=IT (cap:=m) I (g.below hb x) (Tc x hb.size) (o.below hb) (show K Vq<=1000 by omega);rw[a2,hn]at h;exact h
    rw[hn]at f ⊢;clear K5 ax be r0 rn a2 ba a9 o ag l LA y0 i L aw;go_upto_region 12 with fail
    clear a1 y1 y2 x0 x1 x2 x3;generalize (C' B (O C 0) (VN VO s)).setCell (O C 1) (VN VO d)=k at *;have z5:=B5.size;go_cut [13,14] from 66 to 75 (λ pv fv z=>∃T,pv=Pq T/\fv=J 0/\bz z T s d/\Bq k z)
    case first =>
     have c0:=f.c0;have e0:Bq k k.drew:=ae.drew;have eA:Bq k (E k.drew (VP #[J 0,J 0] 90)):=e0.alloc e0.size _;have sA:bz (E k.drew (VP #[J 0,J 0] 90)) (G k.heap) 0 0:=bz.new k.drew 0 0;have CC:Vy (∀I,Bq k I->Cq I xb 0 (Pq mb)/\Cq I (G w.heap) 0 (.slice (Z (O bA oA)) (n+1) m)):=λ I h=>⟨(h.cell (SZ k _ ac)).trans ac,(h.cell (SZ k _ c0)).trans c0⟩;have bb:Vy (∀I,Bq k I->_):=λ I hb=>HW.out I (B5.trans (hb.mono z5));clear c0 ac f S5;go_region_held3 (λ I=>D I (O xb 0)=Z (Pq mb)/\Cq I (G w.heap) 0 (.slice (Z (O bA oA)) (n+1) m)) (first|exact CC.out _ e0|exact CC.out _ eA|exact CC.out _ e6|exact CC.out _ (e6.alloc e6.size _)|exact CC.out _ ((e6.setCell (p:=O (G k.heap) 0) aa _).setCell (p:=O (G k.heap) 1) aa _))
      (first|(go_at_call 71;first|(refine Q9 (bb.out _ e0) λ w6 WR=>?_;have e6:=aj e0 WR)|(refine Q9 (bb.out _ eA) λ w6 WR=>?_;have e6:=aj eA WR;have s6:=sA.below WR;have g0:=s6.c0;have g1:=s6.c1;have g2:=s6.z0;have g3:=s6.z1)))
     all_goals
      go_wp2_with fail;go_meet
      first
       |exact⟨_,rfl,rfl,bz.new w6 _ _,e6.alloc e6.size _⟩
       |exact⟨_,rfl,rfl,s6.set _ _,(e6.setCell (p:=O (G k.heap) 0) aa _).setCell (p:=O (G k.heap) 1) aa _⟩
    case rest =>
     obtain⟨T,rfl,rfl,an,ab⟩:=hcut;have B7:=B5.trans (ab.mono z5);have S:=f.below ab;have s7:=S5.below ab;have u0:=S.c0;have u1:=S.c1;have u2:=S.c2;have u3:=S.c3;have v0:=s7.c0;have v1:=s7.c1;have t0:=an.c0;have t1:=an.c1;have bm:=al B7 q0;have bl:=al B7 qn;clear f S5 ac HW ab q0 qn an s7 S;go_wp2;go_ret;exact⟨rfl,B7⟩
  ·have Yu:ff2 W H Y a t≠0:=(by unfold ff2;rw[Q5 i];exact L);obtain⟨e1,e2,e3,e4⟩:=R.bad Yu;have e5:err=ffv W H Y t:=(by rw[e1];unfold ff2;rw[Q5 i]);have hp:=aw t L;clear e1 Yu;subst e2 e3 e4;rw[e5]at Yl;generalize ffv W H Y t=n at *;have N:Bq z (E z (VP #[J 0,J 0] 90)):=ae.alloc aa _;have B3:=aj B2 N;have y:=Yl.below N;have x0:=y.c0;have x1:=y.c1;have x2:=y.c2;have x3:=y.c3;clear N Yl e5;go_wp2;go_ret;exact⟨rfl,B3⟩
 ·have Yu:ff2 W H Y a t≠0:=by unfold ff2;rw[Q6 i];exact i
  obtain⟨e1,e2,e3,e4⟩:=R.bad Yu;have e5:err=ffv W H Y a:=by rw[e1];unfold ff2;rw[Q6 i]
  have hp:=aw a i;clear e1 Yu;subst e2 e3 e4;rw[e5]at X;generalize ffv W H Y a=n at *;have N:Bq wb (E wb (VP #[J 0,J 0] 90)):=ae.alloc aa _;have B3:=aj B1 N;have y:=X.below N;have x0:=y.c0;have x1:=y.c1;have x2:=y.c2;have x3:=y.c3;clear N X e5 a7;go_wp2;go_ret;exact⟨rfl,B3⟩
end
section
open Go.RowKit Go.Lib
section
variable {W H : Int} {Y WM : Nat → Bool}
end
end
section
open Go.RowKit Go.Lib
end
section
open Go.RowKit Go.Lib
end
section
open Go.RowKit Go.Lib
def edK (W H:Int) (Y:Bn) (cs:Nat->Int) (bs:Bn) (n:Nat):Nat:=if edE W H cs n=0 then edC Y cs bs n else 0
def edG (W H:Int) (Y:Bn) (cs:Nat->Int) (bs:Bn) (n:Nat):Bn:=if edE W H cs n=0 then edF Y cs bs n else Y
theorem NW {W H:Int}(h:edE W H cs n=0):n<=60/\∀i,i<n->inB W H (cs i)=true:=by grind [ot]
theorem Sv.keepLow {N':Nat}{W H V:Int}{Y:Bn}(S:Sv w lo hi sb W H V Y N')(b:ai F w I)(e:∀k,F k->k<lo/\k≠3):Sv I lo hi sb W H V Y N':=by
 obtain⟨rb,pb,mb,lb,tb,gb,N,x,V2,S⟩:=S;obtain⟨r,o,n,m⟩:=S.l1;obtain⟨T,R,P⟩:=S.l2;obtain⟨L,C,B,q⟩:=S.l3;have d:∀k,lo<=k->¬F k:=λ k A h=>by have:=(e k h).1;omega
 have a:=d sb U;refine⟨rb,pb,mb,lb,tb,gb,N,x,V2,b.cellOf S.c0 a,b.cellOf S.c1 a,b.cellOf S.c2 a,b.cellOf S.c3 a,(b.frozen (p:=O sb 2) S.lt a).trans S.fz,?_,S.lv.X' b (λ g i=>d g U),S.ta.X' b (d tb U) (d gb U) (λ h=>(e 3 h).2 rfl),S.l1,S.l2,S.l3,S.l4,S.m1,S.m6,S.vv⟩;obtain⟨f,t,u,s⟩:=S.gi;exact⟨f,t.X' b (d rb r) (d pb o) (d mb n),λ c=>(u c).kept b (λ v l g j z i y=>d g U) rfl,s⟩
end
section
open Go.RowKit Go.Lib
theorem KO {N':Nat}{W H V:Int}{Y:Bn}(a t:Int)(w:M)(S:Sv w lo hi sb W H V Y N')(d:ch w) :
  Zq 55 #[Pq sb,J a,J t] w λ e I=>∃A b Vq s d err,e=VJ (.agg #[.slice A (K Vq) b,J s,J d,J err])/\G' I (G w.heap) 3 1 (.slice A (K Vq) b) (K Vq) (aH Vq)/\bP I A (K Vq) (λ i=>((Vq.getD i 0:Nat):Int))/\zU W H Y N' a t Vq s d err/\Rt W H Y a t Vq s d err/\Bq w I:=by
 obtain⟨j,h,o,n⟩:=S.side;obtain⟨l,k⟩:=S.mst;refine(NR a t w S d).mono ?_;rintro e I ⟨v,Vq,s,p,err,rfl,f,g,m⟩;obtain⟨A,b,rfl,c,_⟩:=kz f;exact⟨A,b,Vq,s,p,err,rfl,f,c,g,g.right w j h o n l k,m⟩
end
def eV (h:Nat->Nat) (S:Int->Bool):Nat->Nat
 |0=>0
 |N+1=>eV h S N+if S (N:Int) then h N else 0
theorem Hk (h:Nat->Nat)(S:Int->Bool)(a:Int)(N:Nat)(c:(N:Int)<=a):eV h (eD S a) N=eV h S N:=by
 induction N with
 |zero=>rfl
 |succ N b =>
  have e:eD S a (N:Int)=S (N:Int):=by grind [eD,Q3]
  show eV h (eD S a) N+(if eD S a (N:Int) then h N else 0)=_;rw[e,b U];rfl
theorem KP (h:Nat->Nat)(S:Int->Bool)(a:Nat)(N:Nat)(f:a<N)(b:S (a:Int)=Vl):eV h (eD S (a:Int)) N=eV h S N+h a:=by
 induction N with
 |zero=>omega
 |succ N d =>
  show eV h (eD S (a:Int)) N+(if eD S (a:Int) (N:Int) then h N else 0)=eV h S N+(if S (N:Int) then h N else 0)+h a;by_cases e:a=N;subst e;have c:eD S (a:Int) (a:Int)=true:=by unfold eD;rw[Q2 rfl,Bool.true_or]
  rw[Hk h S (a:Int) a (Int.le_refl _),c,b];simp
  grind [eD,Q3]
theorem xy (h:Nat->Nat)(N:Nat):eV h (λ _=>Vl) N=0:=by
 induction N with
 |zero=>rfl
 |succ N a =>
  show eV h (λ _=>Vl) N+(if Vl then h N else 0)=0;rw[a];rfl
theorem Fw (h:Nat->Nat)(S:Int->Bool)(a:Nat)(b:∀n,h n<=a)(N:Nat):eV h S N<=N*a:=by
 induction N with
 |zero=>exact Te _
 |succ N c =>
  show eV h S N+(if S (N:Int) then h N else 0)<=(N+1)*a;rw[Nat.succ_mul];have d:=b N;split<;>omega
def jB (p:Bn):Nat->Nat
 |0=>0
 |N+1=>jB p N+if p N then 1 else 0
def iI (h:Nat->Nat):Nat->Nat
 |0=>0
 |N+1=>iI h N+h N
theorem AK (h g:Nat->Nat)(N:Nat):iI (λ n=>h n+g n) N=iI h N+iI g N:=by
 induction N with
 |zero=>rfl
 |succ N a =>
  show iI (λ n=>h n+g n) N+(h N+g N)=iI h N+h N+(iI g N+g N);rw[a];omega
theorem jC {g:Nat->Nat}:∀{N:Nat},(∀n,n<N->h n=g n)->iI h N=iI g N
 |0,_=>rfl
 |N+1,e=>by
  show iI h N+h N=iI g N+g N;rw[jC (λ n a=>e n U),e N U]
theorem Hl (N:Nat):iI (λ _=>0) N=0:=by
 induction N with
 |zero=>rfl
 |succ N a=>show iI (λ _=>0) N+0=0;rw[a]
theorem KQ (p:Bn)(N:Nat):iI (λ n=>if p n then 1 else 0) N=jB p N:=by
 induction N with
 |zero=>rfl
 |succ N a=>show iI _ N+_=jB p N+_;rw[a]
theorem xz (R:Nat->Nat->Bool)(a:Nat):∀N,iI (λ m=>jB (λ n=>R m n) a) N=iI (λ n=>jB (λ m=>R m n) N) a
 |0=>(Hl a).symm
 |N+1=>by
  show iI (λ m=>jB (λ n=>R m n) a) N+jB (λ n=>R N n) a=iI (λ n=>jB (λ m=>R m n) N+if R N n then 1 else 0) a;rw[xz R a N,AK,KQ]
theorem uL {S:Int->Bool}:∀{N:Nat},(∀n,n<N->S (n:Int)=Vl->h n=0)->eV h S N=iI h N
 |0,_=>rfl
 |N+1,e=>by
  show eV h S N+(if S (N:Int) then h N else 0)=iI h N+h N;rw[uL (λ n c a=>e n U a)];cases b:S (N:Int) with
  |true=>rfl
  |false=>rw[e N U b];rfl
theorem Hm {p:Bn}(h:∀n,p n=Vl)(N:Nat):jB p N=0:=by
 induction N with
 |zero=>rfl
 |succ N a=>show jB p N+_=0;rw[a,h N];rfl
theorem uM {p q:Bn}(h:∀n,p n=q n)(N:Nat):jB p N=jB q N:=by rw[show p=q from funext h]
theorem AN {p q:Bn}{a:Nat}(c:∀n,q n=(p n || n==a))(f:p a=Vl):∀{N:Nat},a<N->jB q N=jB p N+1
 |0,h=>Q8 h (TW a)
 |N+1,h=>by
  show jB q N+(if q N then 1 else 0)=jB p N+(if p N then 1 else 0)+1;by_cases e:a=N;subst e;have d:∀b,b<=a->jB q b=jB p b:=λ b=>by
   induction b with
   |zero=>intro _;rfl
   |succ b i =>
    intro j;show jB q b+(if q b then 1 else 0)=jB p b+(if p b then 1 else 0);have g:q b=p b:=by
     rw[c b,Q4.2 (show b≠a by omega),Bool.or_false]
    rw[i U,g]
  rw[d a aa,f,c a,f];simp;have g:q N=p N:=by rw[c N,Q4.2 (show N≠a by omega),Bool.or_false]
  rw[AN c f (show a<N by omega),g];omega
theorem pC {P:LE->Bool}:∀{l:List LE},Rsg l->(∀e∈l,e.to<256)->K (l.filter P)=jB (λ k=>l.any (λ e=>e.to==k&&P e)) 256
 |[],_,_=>(Hm (λ _=>rfl) 256).symm
 |y::l,h,f=>by
  have d:=pC (P:=P) h.tail (λ e c=>f e (Tj _ c));have g:=f y (Tp ..);cases b:P y with
  |false =>
   rw[TZ (by rw[b];decide),d];exact uM (λ k=>by rw[List.any_cons,b,Bool.and_false,Bool.false_or]) 256
  |true =>
   rw[T6 b,Tk,d];refine(AN (a:=y.to) (λ k=>?_) ?_ g).symm
   grind
   rw[List.any_eq_false];intro e c;have:=h.head e c;rw[Q4.2 (show e.to≠y.to by omega)];simp
def oX (es:Nat->List LE) (n:Nat):Nat:=K ((es n).filter (λ e=>decide (0<=e.U6)))
def lN (es:Nat->List LE) (n:Nat):Nat:=K ((es n).filter (λ e=>decide (0<=e.U6)&&decide (n<e.to)))
theorem Hn {L:Ln}{es:Nat->List LE}(m:Esy es)(p:∀{a e},e∈es a->a∈L/\e.to∈L)(B:∀n∈L,n<256)(S:∀{a e},e∈es a->e.to≠a):eV (oX es) (dI L) 256=2*eV (lN es) (dI L) 256:=by
 have s:∀n,∀e∈es n,e.to<256:=λ n e f=>B _ (p f).2;have i:∀n:Nat,dI L (n:Int)=Vl->es n=[]:=λ n g=>by
  cases h:es n with
  |nil=>rfl
  |cons y l =>
   have A:y∈es n:=(by rw[h];exact Tp ..);have:=tg.2 (p A).1;rw[g]at this;cases this
 have F:eV (oX es) (dI L) 256=iI (oX es) 256:=uL (λ n _ g=>by unfold oX;rw[i n g];rfl);have C:eV (lN es) (dI L) 256=iI (lN es) 256:=uL (λ n _ g=>by unfold lN;rw[i n g];rfl);have t:∀n,lN es n=jB (λ k=>(es n).any (λ e=>e.to==k&&(decide (0<=e.U6)&&decide (n<e.to)))) 256:=λ n=>pC (m.ord n) (s n);have H:∀n,K ((es n).filter (λ e=>decide (0<=e.U6)&&decide (e.to<n)))=jB (λ k=>(es n).any (λ e=>e.to==k&&(decide (0<=e.U6)&&decide (e.to<n)))) 256:=λ n=>pC (m.ord n) (s n);have v:∀n,oX es n=lN es n+K ((es n).filter (λ e=>decide (0<=e.U6)&&decide (e.to<n))):=λ n=>by
  unfold oX lN;have c:∀l:List LE,(∀e∈l,e.to≠n)->K (l.filter (λ e=>decide (0<=e.U6)))=K (l.filter (λ e=>decide (0<=e.U6)&&decide (n<e.to)))+K (l.filter (λ e=>decide (0<=e.U6)&&decide (e.to<n))):=λ l=>by
   induction l with
   |nil=>intro _;rfl
   |cons y l z =>
    intro o;have d:=z (λ e f=>o e (Tj _ f));have j:=o y (Tp ..);by_cases R:0<=y.U6;by_cases N:n<y.to
    grind
    have I:y.to<n:=U;simp only[List.filter_cons,Q2 R,Q3 N,Q2 I,Bool.and_true,Bool.and_false,if_true,Tk,Bool.false_eq_true,if_false];omega
    grind
  exact c (es n) (λ e f=>S f)
 have u:iI (lN es) 256=iI (λ n=>K ((es n).filter (λ e=>decide (0<=e.U6)&&decide (e.to<n)))) 256:=by
  rw[jC (λ n _=>t n),jC (λ n _=>H n),xz];refine jC (λ n _=>uM (λ k=>?_) 256);have c:∀a b:Nat,∀P:Nat->Nat->Bool,(es a).any (λ e=>e.to==b&&(decide (0<=e.U6)&&P a e.to))=Q->(es b).any (λ e=>e.to==a&&(decide (0<=e.U6)&&P e.to b))=true:=λ a b P h=>by
   obtain⟨e,f,d⟩:=Uv.1 h;rw[Bool.and_eq_true,Bool.and_eq_true,beq_iff_eq]at d;obtain⟨d,j,q⟩:=d;have r:=m.back f;rw[d]at r q;refine Uv.2 ⟨_,r,?_⟩;show (a==a&&(decide (0<=e.U6)&&P a b))=Q;rw[beq_self_eq_true,j,q];rfl
  have x:=c k n (λ a b=>decide (a<b));have w:=c n k (λ a b=>decide (b<a));cases d:(es k).any (λ e=>e.to==n&&(decide (0<=e.U6)&&decide (k<e.to))) with
  |true=>exact(x d).symm
  |false =>
   cases j:(es n).any (λ e=>e.to==k&&(decide (0<=e.U6)&&decide (e.to<n))) with
   |false=>rfl
   |true=>rw[w j]at d;cases d
 rw[F,C,jC (λ n _=>v n),AK,<- u];omega
section
open Go.RowKit Go.Maps
theorem AO {L:Ln}{left:Int->Bool}(a:n<256)(c:n∈L)(b:left (n:Int)=Q) :
  eV h (λ z=>dI L z&&!(left z&&!decide (z=(n:Int)))) 256=eV h (λ z=>dI L z&&!left z) 256+h n:=by
 have e:(λ z=>dI L z&&!(left z&&!decide (z=(n:Int))))=eD (λ z=>dI L z&&!left z) (n:Int):=by
  funext z
  unfold eD;by_cases q:z=(n:Int);subst q;rw[tg.2 c,Q2 rfl];simp
  grind
 rw[e,KP h _ n 256 a (by rw[b];simp)]
theorem Ho {vb l u:Nat}{L:Ln}{st:LSt}{f:Int->Option Vr}(w:M)(V:cR w N lb vb l u L st f)(g:∀n,K (st.es n)<=256) :
  Rq 101 #[Pq lb] w (J ((eV (oX st.es) (dI L) 256:Nat)/2:Int)):=by
 have c2:=V.c2;have am:=V.lts.2.2;have em:=V.em;have HV:=qH V;have XE:=qH V.bd;have c:=qH g;have T:Vy (∀(x:Int) (v:Vr),f x=Z v->∃n:Nat,x=(n:Int)/\n∈L):=λ x v h=>by
  obtain⟨h1,h2⟩:=V.no x v h;exact⟨x.toNat,U,h2⟩
 have Xm:Vy (eV (oX st.es) (λ z=>dI L z&&!(λ i=>(f i).isSome) z) 256=0):=by
  have e:(λ z=>dI L z&&!(λ i=>(f i).isSome) z)=λ _=>false:=by
   funext z
   cases hm:dI L z with
   |false=>rfl
   |true =>
    have Y:0<=z/\z.toNat∈L:=Q1 hm;obtain⟨v,j,_⟩:=V.row z.toNat Y.2;rw[TE Y.1]at j;show (Q&&!(f z).isSome)=Vl;rw[j];rfl
  unfold Vy;rw[e];exact xy _ _
 clear V g;go_enter func101,ntmps101;go_wp2_with (first|(at_range;refine cO rfl _ 137 rfl 3 140 aV Tryz.Vxa l _ _ rfl em ?_;intro w3 Xf Yo ab)|go_in);have B3:Bq w w3:=ae.grown Yo aa sQ;clear Yo em c2;go_loopg [3] (K L) (λ gj sv s=>∃(left:Int->Bool) (cnt:Nat),gj=cnt/\iM Vyj 3 s l (G w.heap) f (K L) left cnt/\sv=J ((eV (oX st.es) (λ z=>dI L z&&!left z) 256:Nat):Int)/\Bq w s/\G w.heap<G s.heap)
 case atStart=>exact⟨_,_,rfl,Xf,by rw[Xm.out];rfl,B3,U⟩
 case round =>
  clear Xf B3 Xm;obtain⟨left,cnt,ad,P,rfl,m,ac⟩:=hrel;have d:=Fw (oX st.es) (λ z=>dI L z&&!left z) 256 (λ n=>Tg (TH _ _) (c.out n)) 256;go_wp2_with (first|(at_next;refine di rfl _ rfl 3 aV l (G w.heap) _ _ _ _ rfl P ?_ ?_)|go_in)
  ·intro ag XN;have e:(λ z=>dI L z&&!left z)=dI L:=by
    funext z
    rw[XN z];simp
   rw[e]at d ⊢;clear P XN e;obtain⟨a,b⟩:∃a:Int,a=((eV (oX st.es) (dI L) 256:Nat):Int):=⟨_,rfl⟩;have hz:(0:Int)<=a:=U;have Wc:a<=65536:=U;rw[<- b];have R:Vy _:=b;clear b;have t1:Int.tdiv a 2=a/2:=UB hz;have t2:IntKind.i64.wrap (a/2)=a/2:=jX U U;have t3:IntKind.i64.wrap (Int.tdiv a 2)=a/2:=(by rw[t1];exact t2);clear d;go_wp2;go_ret;exact⟨by rw[<- R.out];rfl,m⟩
  ·intro x v t Wt Zd Yp H WU VS W9 Yy ZG;obtain⟨n,y,o⟩:=T.out x v H;subst y;have X:Bq w t:=m.grown W9 m.size (λ k e=>by cases e;omega);have B:G w.heap<G t.heap:=U;have V4:=HV.out.below X;obtain⟨v',j,e2⟩:=V4.row n o;rw[H]at j;cases j;obtain⟨A4,XH,rfl,Yz,_⟩:=eJ e2;have WL:=En (cap:=XH) (p:=λ e=>decide (0<=e.U6)) t Yz (c.out n) (λ I e _ _=>sf I _ _ _ _);have S:Vy (eV (oX st.es) (λ z=>dI L z&&!(left z&&!decide (z=(n:Int)))) 256=eV (oX st.es) (λ z=>dI L z&&!left z) 256+oX st.es n):=AO (XE.out n o) o Yp;have W:Vy (oX st.es n=K ((st.es n).filter (λ e=>decide (0<=e.U6)))):=rfl;have XY:K ((st.es n).filter (λ e=>decide (0<=e.U6)))<=256:=Tg (TH _ _) (c.out n);clear P m W9 Yy V4 e2 Yz H Yp o;go_wp2_with fail;refine WL.mono ?_;rintro r w5 ⟨v5,rfl,WA,q⟩;obtain⟨A5,Xo,rfl,_⟩:=eJ WA;have C:=WU.X' (F:=λ _=>False) (ai.Y' q) id id;have B5:=aj X q;have A:=Tc B q.size;clear WL WA q WU X ZG;go_wp2;go_roundg Wt
   case measure=>omega
   case rel=>exact⟨_,Wt,rfl,C,by rw[S.out,W.out];push_cast;rfl,B5,A⟩
theorem KT {es:Nat->List LE}{e:LE}(a:(es n)[i]? = Z e)(h:0<=e.U6/\n<e.to):K (((es n).take (i+1)).filter (λ e=>decide (0<=e.U6)&&decide (n<e.to)))=K (((es n).take i).filter (λ e=>decide (0<=e.U6)&&decide (n<e.to)))+1:=by grind [Ty,Td,T6,Q2]
theorem NX {es:Nat->List LE}{e:LE}(a:(es n)[i]? = Z e)(h:¬(0<=e.U6/\n<e.to)):K (((es n).take (i+1)).filter (λ e=>decide (0<=e.U6)&&decide (n<e.to)))=K (((es n).take i).filter (λ e=>decide (0<=e.U6)&&decide (n<e.to))):=by grind [Ty,Td,TZ]
end
section
open Go.RowKit Go.Lib
def frN (Y:Bn):Nat->Nat
 |0=>0
 |k+1=>frN Y k+if Y k then 0 else 1
theorem uN (Y:Bn):∀k,frN Y k<=k
 |0=>aa
 |k+1=>by
  have:=uN Y k;unfold frN;split<;>omega
theorem wi {W H V:Int}{Y:Bn}(w:M)(g:aq w b W H V Y) :
  Rq 98 #[Pq b] w (J (frN Y (W*H).toNat:Nat)):=by
 have s:=bG g.w1 g.w2 g.h1 g.h2;obtain⟨a,n⟩:∃a:Nat,W*H=(a:Int):=⟨(W*H).toNat,U⟩;have l:=iX w g;have t:=qH n;rw[n]at l s ⊢;rw[Ta];clear n;go_enter func98,ntmps98;go_wp2_with fail;refine QQ l λ m=>?_;clear l;go_wp2;go_loopw [3,9] (λ q iv wr=>∃j:Nat,j<=a/\iv=J j/\q=J (frN Y j:Nat)/\∃m,wr=w.drewN m)
  (λ _ i _=>a-(intOf i).toNat)
 case atStart=>exact⟨0,Te _,rfl,rfl,m,rfl⟩
 case round =>
  obtain⟨j,v,rfl,rfl,m,rfl⟩:=hrel;by_cases x:j<a
  ·have u:(j:Int)<(a:Int):=U;have r:inB W H j=true:=Q2 (by rw[t.out];omega);have h:=lh j (w.drewN m) (g.drewN m) r;have p:=uN Y j;have k:Vy (frN Y (j+1)=frN Y j+if Y j then 0 else 1):=rfl;generalize frN Y j=c at *;cases f:Y j with
   |true =>
    rw[f]at h;have d:Vy (frN Y (j+1)=c):=(by have:=k.out;rw[f]at this;exact this);clear k f;go_wp2_with fail;refine QQ h λ o=>?_;go_wp2;go_roundw
    case rel=>exact⟨j+1,U,gQ,by rw[d.out],_,rfl⟩
    case measure=>simp[intOf];omega
   |false =>
    rw[f]at h;have d:Vy (frN Y (j+1)=c+1):=(by have:=k.out;rw[f]at this;exact this);clear k f;go_wp2_with fail;refine QQ h λ o=>?_;go_wp2;go_roundw
    case rel=>exact⟨j+1,U,gQ,by rw[d.out];go_num,_,rfl⟩
    case measure=>simp[intOf];omega
  ·have e:j=a:=U;subst e;go_wp2;go_ret;exact⟨rfl,Vxj ae _⟩
noncomputable def edN (W H:Int) (Y:Bn) (l:Ln):Nat:=(l.map λ n=>K (esF W H Y n)).sum
theorem GEs.len {W H:Int}{Y:Bn}{es:Nat->List LE}(G9:GEs W H Y es)(a:1<=W)(c:W<=16)(g:1<=H)(f:H<=16)(n:Nat):K (es n)<=256:=by
 have h:=bG a c g f;cases b:aY W H Y n with
 |true =>
  obtain⟨l,e,d⟩:=G9.1 n b;rw[d,TA];exact e.len a h.2
 |false =>
  rw[G9.2 n b];exact Te _
theorem uO {W H:Int}{Y:Bn}(a:1<=W)(b:W<=16)(d:1<=H)(c:H<=16):∀l:Ln,edN W H Y l<=256*K l
 |[]=>aa
 |n::l=>by
  have:=uO a b d c l (Y:=Y);have e:=(iF (W:=W) (H:=H) (Y:=Y) a).len a b d c n;unfold edN at this ⊢;rw[UK,List.sum_cons,Tk];omega
theorem AQ {W H:Int}{Y:Bn}{l:Ln}(h:l[k]? = Z n):edN W H Y (l.take (k+1))=edN W H Y (l.take k)+K (esF W H Y n):=by
 unfold edN;rw[xp h,UE,List.sum_append];simp
theorem uP {W H V:Int}{Y:Bn}(w:M)(G9:eh w rb pb mb W H V Y)(r:1<=W)(z:W<=16)(F:1<=H)(C:H<=16) :
  Rq 100 #[Pq rb] w (J (edN W H Y (crs W H Y (W*H).toNat)/2:Nat)):=by
 have o:=r9 w G9;have WS:=bG r z F C;have HC:Vy (∀n∈crs W H Y (W*H).toNat,aY W H Y n=Q/\n<256):=λ n hn=>by
  have:=cU.1 hn;exact⟨this.2,U⟩
 have ZU:K (crs W H Y (W*H).toNat)<=256:=by have:=fx W H Y (W*H).toNat;omega
 have HG:=qH G9;have HE:Vy (GEs W H Y (esF W H Y)):=iF r;have h:Vy (∀l,edN W H Y l<=256*K l):=uO r z F C;clear G9;generalize crs W H Y (W*H).toNat=L at *;go_enter func100,ntmps100;go_wp2_with fail;refine o.mono ?_;rintro e X ⟨vL,rfl,I,k⟩;obtain⟨AL,ag,rfl,d,_⟩:=kz I;have HO:=qH d;clear o I d;go_wp2;go_loopw [3,11] (λ cv iv wr=>∃j:Nat,j<=K L/\iv=J j/\cv=J (edN W H Y (L.take j):Nat)/\Bq X wr)
  (λ _ i _=>K L-(intOf i).toNat)
 case atStart=>exact⟨0,Te _,rfl,rfl,ae⟩
 case round =>
  obtain⟨j,hj,rfl,rfl,p⟩:=hrel;by_cases S:j<K L
  ·have j1:(j:Int)<(K L:Int):=U;obtain⟨bA,oA,rfl,_,B⟩:=(HO.out.below p) j S;obtain⟨a,q⟩:∃a,L[j]? = Z a:=⟨L[j],SU S⟩;have q1:Cq wr bA (oA+j) (J (a:Int)):=by
    have e:L.getD j 0=a:=(by rw[List.getD_eq_getElem?_getD,q];rfl);rw[<- e];exact B
   obtain⟨R,YL⟩:=HC.out a (Ti q);have y:=aj k p;have N:=xZ wr (HG.out.below y) R (aE U U);have T:Vy (edN W H Y (L.take (j+1))=edN W H Y (L.take j)+K (esF W H Y a)):=AQ q;have g:=h.out (L.take j);have u:=h.out (L.take (j+1));rw[List.length_take]at g u;clear B q;go_wp2_with fail;refine N.mono ?_;rintro e w3 ⟨v,l,rfl,b,m,hb3⟩;have f:K (esF W H Y a)=K l:=by
    obtain⟨l',k1,k2⟩:=HE.out.1 a R;rw[k2,TA,k1.one m]
   have P:Vy (edN W H Y (L.take (j+1))=edN W H Y (L.take j)+K l):=(by rw[<- f];exact T.out);have ac:edN W H Y (L.take j)+K l<=65536:=(by have:=P.out;omega);obtain⟨A3,XZ,rfl⟩:∃(A:Oa) (t:Nat),v=.slice A (K l) t:=by
    rcases b.2 with⟨rfl,h0⟩|⟨g9,ad,_,rfl,_⟩
    ·exact⟨UP,0,by rw[h0]⟩
    ·exact⟨_,_,rfl⟩
   have B3:=aj p hb3;clear N b m f T q1;generalize edN W H Y (L.take j)=c at *;go_wp2;go_roundw
   case rel=>exact⟨j+1,U,gQ,by rw[P.out];go_num,B3⟩
   case measure=>simp[intOf];omega
  ·have e:j=K L:=U;subst e;have g:=h.out L;rw[Tl];obtain⟨c,s⟩:∃c,edN W H Y L=c:=⟨_,rfl⟩;have x:=qH s;rw[s]at g ⊢;clear s;have hq:Int.tdiv (c:Int) 2=((c/2:Nat):Int):=(by rw[UB U];omega);have ab:IntKind.i64.wrap ((c/2:Nat):Int)=((c/2:Nat):Int):=jX U U;have y:=aj k p;go_wp2;go_ret;exact⟨by rw[x.out];simp,y⟩
end
section
open Go.RowKit Go.Lib
noncomputable def lvK (W H:Int) (Y:Bn) (N':Nat):Nat×LSt:=@dite _ (∃p:Nat×LSt,Rds N' (crs W H Y (W*H).toNat) ⟨λ _=>0,esF W H Y⟩ p.1 p.2/\mz N' (crs W H Y (W*H).toNat) p.1 p.2) (Classical.propDecidable _) (λ h=>Classical.choose h) (λ _=>(0,⟨λ _=>0,λ _=>[]⟩))
theorem pD {W H:Int}{Y:Bn}{N':Nat}{st:LSt}(h:Rds N' (crs W H Y (W*H).toNat) ⟨λ _=>0,esF W H Y⟩ k st)(b:mz N' (crs W H Y (W*H).toNat) k st):lvK W H Y N'=(k,st):=by
 have a:∃p:Nat×LSt,Rds N' (crs W H Y (W*H).toNat) ⟨λ _=>0,esF W H Y⟩ p.1 p.2/\mz N' (crs W H Y (W*H).toNat) p.1 p.2:=⟨(k,st),h,b⟩;unfold lvK;rw[dif_pos a];obtain⟨d,c⟩:=Classical.choose_spec a;obtain⟨e,e2⟩:=DV d c h b;exact Prod.ext e e2
noncomputable def mr (W H:Int) (Y:Bn) (N':Nat):Nat:=eV (oX (lvK W H Y N').2.es) (dI (crs W H Y (W*H).toNat)) 256
noncomputable def stV (W H V:Int) (Y:Bn) (N':Nat):Array Value:=#[J (W*H),J (frN Y (W*H).toNat:Nat),J (K (crs W H Y (W*H).toNat):Nat),J (edN W H Y (crs W H Y (W*H).toNat)/2:Nat),J ((mr W H Y N':Nat)/2:Int),J ((lvK W H Y N').1+1:Nat),J V]
section
variable {w : M} {lo hi sb rb pb mb lb tb gb N x N' : Nat} {W H V V2 : Int} {Y : Nat → Bool}
theorem gG.added (w:M)(S:gG w lo hi sb rb pb mb lb tb gb N x W H V V2 Y N'):Rq 101 #[Pq lb] w (J ((mr W H Y N':Nat)/2:Int)):=by
 obtain⟨b,c,i,g⟩:=S.side;obtain⟨q,r,k,j,f,d,p,V⟩:=S.lv;have s:=bG b c i g;have B:=Btw.rds (show (0:Int)<=16 by omega) ((iF (W:=W) (H:=H) (Y:=Y) b).btw b c i g) d;have m:∀n,K (j.es n)<=256:=λ n=>gF.len (L:=crs W H Y (W*H).toNat) (λ a=>⟨B.lrd.esy.ord a,λ e o=>(B.cor.ends o).2⟩) (λ n l=>by have:=(cU.1 l).1;omega) n;have h:=Ho w V m;unfold mr;rw[pD d p];exact h
theorem gG.topl (w:M)(S:gG w lo hi sb rb pb mb lb tb gb N x W H V V2 Y N'):Rq 102 #[Pq lb] w (J ((lvK W H Y N').1+1:Nat)):=by
 obtain⟨g,i,k,h,f,a,b,V⟩:=S.lv;rw[pD a b];exact(Nn w V).mono λ e I ⟨d,c⟩=>⟨d,by rw[c];exact ae⟩
theorem gG.nodes (w:M)(S:gG w lo hi sb rb pb mb lb tb gb N x W H V V2 Y N'):Zq 99 #[Pq rb] w λ e I=>∃A a,e=VJ (.slice A (K (crs W H Y (W*H).toNat)) a)/\Bq w I:=by
 refine(r9 w S.gr).mono ?_;rintro e I ⟨v,rfl,b,c⟩;obtain⟨A,a,rfl,_⟩:=kz b;exact⟨A,a,rfl,c⟩
end
def st7 (w:M) (B:Nat) (a0 a1 a2 a3 a4 a5 a6:Vr):World:=((((((C' w (O B 0) a0).setCell (O B 1) a1).setCell (O B 2) a2).setCell (O B 3) a3).setCell (O B 4) a4).setCell (O B 5) a5).setCell (O B 6) a6
theorem AS (w:M)(B:Nat)(g f e d c b a:Vr):ai (λ k=>k=B) w (st7 w B g f e d c b a):=by
 unfold st7;exact((((((((ai.refl (λ k=>k=B) w).setCell (p:=O B 0) (λ _=>rfl) _).setCell (p:=O B 1) (λ _=>rfl) _).setCell (p:=O B 2) (λ _=>rfl) _).setCell (p:=O B 3) (λ _=>rfl) _).setCell (p:=O B 4) (λ _=>rfl) _).setCell (p:=O B 5) (λ _=>rfl) _).setCell (p:=O B 6) (λ _=>rfl) _)
theorem KU {B:Nat}{u:Vr}(h:∀o,o<7->D w (O B o)=Z u)(g f e d c b a:Vr):D (st7 w B g f e d c b a) (O B 0)=Z g/\D (st7 w B g f e d c b a) (O B 1)=Z f/\D (st7 w B g f e d c b a) (O B 2)=Z e/\D (st7 w B g f e d c b a) (O B 3)=Z d/\D (st7 w B g f e d c b a) (O B 4)=Z c/\D (st7 w B g f e d c b a) (O B 5)=Z b/\D (st7 w B g f e d c b a) (O B 6)=Z a:=by grind [st7,Go.Addr.mk.inj,Go.World.cell?_setCell_other,Go.World.cell?_setCell_same]
theorem Hp {N':Nat}{W H V:Int}{Y:Bn}(w:M)(S:Sv w lo hi sb W H V Y N') :
  Rq 58 #[Pq sb] w (.agg (stV W H V Y N')):=by
 obtain⟨rb,pb,mb,lb,tb,gb,N,x,V2,S⟩:=S;obtain⟨w1,w2,q,n⟩:=S.side;have b0:Bq w (E w (VP #[J 0,J 0,J 0,J 0,J 0,J 0,J 0] 97)):=ae.alloc aa _;have k7:∀o,D (E w (VP #[J 0,J 0,J 0,J 0,J 0,J 0,J 0] 97)) (O (G w.heap) o)=#[J 0,J 0,J 0,J 0,J 0,J 0,J 0][o]? := λ o=>Tb ..;have f7:=bC w #[J 0,J 0,J 0,J 0,J 0,J 0,J 0] 97 (G w.heap) aa;have R:=S.below b0;have q1:=R.c1;have Zz:=oq _ R.gr;unfold stV;have au:Vy (∀(I:M) (i:Nat),aq I i W H V Y->Zq 97 #[Pq i] I λ e P=>e=VJ (J (W*H))/\Bq I P):=λ I i g=>(iX I g).mono λ e P ⟨q,m,n⟩=>⟨q,by rw[n];exact Vxj ae _⟩;have ap:Vy (∀(I:M) (i:Nat),aq I i W H V Y->_):=λ I i g=>wi I g;have ao:Vy (∀I,gG I lo hi sb rb pb mb lb tb gb N x W H V V2 Y N'->_):=λ I S=>gG.nodes I S;have an:Vy (∀I,gG I lo hi sb rb pb mb lb tb gb N x W H V V2 Y N'->_):=λ I S=>uP I S.gr w1 w2 q n;have am:Vy (∀I,gG I lo hi sb rb pb mb lb tb gb N x W H V V2 Y N'->_):=λ I S=>gG.added I S;have ag:Vy (∀I,gG I lo hi sb rb pb mb lb tb gb N x W H V V2 Y N'->_):=λ I S=>gG.topl I S;have ac:Vy (∀(I:M) (i:Nat),aq I i W H V Y->Zq 103 #[Pq i] I λ e P=>e=VJ (J V)/\Bq I P):=λ I i g=>(Cn I g).mono λ e P ⟨q,n⟩=>⟨q,by rw[n];exact ae⟩;generalize ((frN Y (W*H).toNat:Nat):Int)=z at *;generalize ((edN W H Y (crs W H Y (W*H).toNat)/2:Nat):Int)=A at *;generalize K (crs W H Y (W*H).toNat)=y at *;generalize ((mr W H Y N':Nat)/2:Int)=B at *;generalize (((lvK W H Y N').1+1:Nat):Int)=u at *;generalize W*H=t at *;go_enter func58,ntmps58;go_wp2_with fail;have VZ:G w.heap<G (E w (VP #[J 0,J 0,J 0,J 0,J 0,J 0,J 0] 97)).heap:=by simp
 generalize E w (VP #[VN VO 0,VN VO 0,VN VO 0,VN VO 0,VN VO 0,VN VO 0,VN VO 0] 97)=wa at *;refine Zz.mono ?_;rintro e f ⟨rfl,d,Wa,g1,_⟩;have C:=R.below d;have B1:=aj b0 d;have F:G w.heap<G f.heap:=Tc VZ d.size;have c7:∀o,D f (O (G w.heap) o)=#[J 0,J 0,J 0,J 0,J 0,J 0,J 0][o]? := λ o=>(d.cell (p:=O (G w.heap) o) VZ).trans (k7 o);have z7:∀o,f.frozen? (O (G w.heap) o)=false:=λ o=>(d.frozen (p:=O (G w.heap) o) VZ).trans (f7 o);generalize G wa.heap=i at *;have b:Vy (∀(I:M),Bq f I->∀o,o<7->D I (O (G w.heap) o)=Z (J 0)/\I.frozen? (O (G w.heap) o)=Vl):=λ I j o ho=>by
  have q:=(j.cell (p:=O (G w.heap) o) F).trans (c7 o);have n:=(j.frozen (p:=O (G w.heap) o) F).trans (z7 o);refine⟨?_,n⟩;rw[q];have T:o=0\/o=1\/o=2\/o=3\/o=4\/o=5\/o=6:=U;rcases T with rfl|rfl|rfl|rfl|rfl|rfl|rfl<;>rfl
 have L:sb<G w.heap:=S.lt;have CC:Vy (∀I,Bq f I->D I (O sb 1)=Z (Pq rb)/\D I (O sb 2)=Z (Pq lb)):=λ I h=>⟨(h.cell (SZ f _ C.c1)).trans C.c1,(h.cell (SZ f _ C.c2)).trans C.c2⟩;have s:Vy (∀I,Bq f I->aq I i W H V Y):=λ I j=>g1.below j Wa;have k:Vy (∀I,Bq f I->gG I lo hi sb rb pb mb lb tb gb N x W H V V2 Y N'):=λ I j=>C.below j;clear Zz R C k7 f7 g1 q1 d S c7 z7 Wa;have Xm:Vy (∀l,Bq f l->D (((((((C' l (O (G w.heap) 0) (J t)).setCell (O (G w.heap) 1) (J z)).setCell (O (G w.heap) 2) (J (y:Int))).setCell (O (G w.heap) 3) (J A)).setCell (O (G w.heap) 4) (J B)).setCell (O (G w.heap) 5) (J u)).setCell (O (G w.heap) 6) (J V)) (O sb 1)=Z (Pq rb)/\D (((((((C' l (O (G w.heap) 0) (J t)).setCell (O (G w.heap) 1) (J z)).setCell (O (G w.heap) 2) (J (y:Int))).setCell (O (G w.heap) 3) (J A)).setCell (O (G w.heap) 4) (J B)).setCell (O (G w.heap) 5) (J u)).setCell (O (G w.heap) 6) (J V)) (O sb 2)=Z (Pq lb)):=λ l j=>⟨(AS l (G w.heap) (J t) (J z) (J (y:Int)) (J A) (J B) (J u) (J V)).cellOf (CC.out _ j).1 (Uz L),(AS l (G w.heap) (J t) (J z) (J (y:Int)) (J A) (J B) (J u) (J V)).cellOf (CC.out _ j).2 (Uz L)⟩;go_wp2_with fail;have a:Bq f f.drew:=ae.drew;go_region_held3 (λ I=>D I (O sb 1)=Z (Pq rb)/\D I (O sb 2)=Z (Pq lb)) (first|with_reducible exact CC.out _ a|with_reducible exact Xm.out _ a)
  (first
   |(go_at_call 97;refine Q9 (au.out _ _ (s.out _ a)) λ w3 hb3=>?_;have a:=aj a hb3)
   |(go_at_call 98;refine Q9 (ap.out _ _ (s.out _ a)) λ w4 Ww=>?_;have a:=aj a Ww)
   |(go_at_call 99;refine(ao.out _ (k.out _ a)).mono ?_;rintro r w5 ⟨A5,Xo,rfl,VW⟩;have a:=aj a VW)
   |(go_at_call 100;refine Q9 (an.out _ (k.out _ a)) λ w6 WR=>?_;have a:=aj a WR)
   |(go_at_call 101;refine Q9 (am.out _ (k.out _ a)) λ w7 ab=>?_;have a:=aj a ab)
   |(go_at_call 102;refine Q9 (ag.out _ (k.out _ a)) λ w8 X0=>?_;have a:=aj a X0)
   |(go_at_call 103;refine Q9 (ac.out _ _ (s.out _ a)) λ l X=>?_;have a:=aj a X;have x0:=(b.out _ a 0 dQ).1;have y0:=(b.out _ a 0 dQ).2;have x1:=(b.out _ a 1 dQ).1;have y1:=(b.out _ a 1 dQ).2;have x2:=(b.out _ a 2 dQ).1;have y2:=(b.out _ a 2 dQ).2;have x3:=(b.out _ a 3 dQ).1;have y3:=(b.out _ a 3 dQ).2;have x4:=(b.out _ a 4 dQ).1;have y4:=(b.out _ a 4 dQ).2;have x5:=(b.out _ a 5 dQ).1;have y5:=(b.out _ a 5 dQ).2;have x6:=(b.out _ a 6 dQ).1;have y6:=(b.out _ a 6 dQ).2))
 go_wp2;have r:=KU (λ o ho=>(b.out _ a o ho).1) (J t) (J z) (J (y:Int)) (J A) (J B) (J u) (J V);obtain⟨r0,r1,r2,r3,r4,r5,r6⟩:=r;unfold st7 at r0 r1 r2 r3 r4 r5 r6;refine bodyPost_ret (v:=.agg #[J t,J z,J (y:Int),J A,J B,J u,J V]) (by simp[results,results58,go_sem,r0,r1,r2,r3,r4,r5,r6]) rfl ⟨rfl,?_⟩;have BF:=aj B1 a;exact((((((BF.setCell (p:=O (G w.heap) 0) aa _).setCell (p:=O (G w.heap) 1) aa _).setCell (p:=O (G w.heap) 2) aa _).setCell (p:=O (G w.heap) 3) aa _).setCell (p:=O (G w.heap) 4) aa _).setCell (p:=O (G w.heap) 5) aa _).setCell (p:=O (G w.heap) 6) aa _
end
section
open Go.RowKit Go.Lib
end
section
open Go.RowKit Go.Lib
theorem KV {N' W H:Nat}{V:Int}{Y:Bn}(w:M)(E9:Env w)(f:10<=G w.heap)(S:Sv w lo hi sb W H V Y N') :
  Rq 60 #[Pq sb] w (.string (str (eu Y W H))):=by
 obtain⟨rb,pb,mb,lb,tb,gb,N,x,V2,S⟩:=S;have k:=S.c1;have h:=oq _ S.gr;go_enter func60,ntmps60;go_wp2_with fail;refine h.mono ?_;rintro e c ⟨rfl,a,i,g,_⟩;have d:=Gu c (E9.below a f) g i;go_wp2_with fail;refine Q9 d λ j b=>?_;go_wp2;go_ret;exact⟨rfl,aj a b⟩
end
section
open Go.RowKit Go.Lib
def Ro (W H:Int) (Y:Bn) (N':Nat) (a t:Int) (Vq:Ln) (s d err:Int):Prop:=zU W H Y N' a t Vq s d err/\Rt W H Y a t Vq s d err
theorem Sv.top_le {N':Nat}{W H V:Int}{Y:Bn}(S:Sv w lo hi sb W H V Y N'):(lvK W H Y N').1+1<=N':=by
 obtain⟨rb,pb,mb,lb,tb,gb,N,x,V2,S⟩:=S;obtain⟨d,g,k,e,f,a,c,V⟩:=S.lv;rw[pD a c];have b:=S.m1;cases k with
 |zero=>exact b
 |succ k=>obtain⟨_,_,_,h,_⟩:=a;exact h
end
section
open Go.RowKit Go.Lib
structure pE where
 A:Oa
 cap:Nat
 Vq:Ln
 s:Int
 d:Int
 err:Int
def KW (x:pE):List Value:=[.slice x.A (K x.Vq) x.cap,J x.s,J x.d,J x.err]
def mw (l:List pE):List Value:=l.flatMap KW
theorem KY (l:List pE)(x:pE):mw (l++[x])=mw l++KW x:=by grind [mw,KW]
theorem Tryz.infoA:(Tryz.prog.info? 92).map (λ i=>(i.zero,i.size,i.bytes))=Z (Z (.agg #[.slice UP 0 0,J 0,J 0,J 0]),4,48):=kQ
theorem Tryz.underA:Tryz.prog.underlying 115=Z (.slice 92):=kQ
def xB (w:M) (base:Nat) (W H:Int) (Y:Bn) (N':Nat) (fs ts:Nat->Int) (l:List pE):Prop:=∀i x,l[i]? = Z x->Ro W H Y N' (fs i) (ts i) x.Vq x.s x.d x.err/\G' w base 3 1 (.slice x.A (K x.Vq) x.cap) (K x.Vq) (aH x.Vq)
theorem Dv {N' cap:Nat}{W H V:Int}{Y:Bn}{A:Oa}{g ts:Nat->Int}(w:M)(S:Sv w lo hi sb W H V Y N')(dg:ch w)(hq:uK w A n g ts)(hn:n<=40) :
  Zq 56 #[Pq sb,.slice A n cap] w λ e I=>∃v l,e=VJ (.tuple #[v,.nilIface])/\K l=n/\G' I (G w.heap) 92 4 v n (mw l)/\xB I (G w.heap) W H Y N' g ts l/\Bq w I:=by
 obtain⟨i0,X7,VZ,Wa,Wc⟩:=info_parts Tryz.infoA;have HQ:=qH hq;have HA:Vy (∀I,Bq w I->∀a t,_):=λ I hb a t=>KO a t I (S.below hb) (dg.below hb);have ad:¬(40:Int)<(n:Int):=U;clear S dg hq;go_enter func56,ntmps56;go_wp2;go_loopw [6,15] (λ v iv wr=>∃(k:Nat) (l:List pE),k<=n/\K l=k/\iv=J k/\G' wr (G w.heap) 92 4 v k (mw l)/\Vy (xB wr (G w.heap) W H Y N' g ts l)/\Bq w wr)
  (λ _ i _=>n-(intOf i).toNat)
 case atStart=>exact⟨0,[],Te _,rfl,rfl,To _ _ _ _,λ i x h=>by simp at h,ae⟩
 case round =>
  obtain⟨k,l,hk,hl,rfl,d,f,hB⟩:=hrel;have z:=qH hl;clear hl;by_cases VS:k<n
  ·obtain⟨bA,oA,rfl,ZV,f0,t0⟩:=(HQ.out.below hB) k VS;have i1:(k:Int)<(n:Int):=U;obtain⟨c,XP⟩:∃c,g k=c:=⟨_,rfl⟩;obtain⟨b,p⟩:∃b,ts k=b:=⟨_,rfl⟩;rw[XP]at f0;rw[p]at t0;have R:Vy (g k=c/\ts k=b):=⟨XP,p⟩;clear XP p;have b3:Bq wr (E wr (VP #[J c,J b] 114)):=ae.alloc aa _;have q0:D (E wr (VP #[J c,J b] 114)) (O (G wr.heap) 0)=Z (J c):=SR #[J c,J b] 114 (G wr.heap) 0 rfl;have q1:D (E wr (VP #[J c,J b] 114)) (O (G wr.heap) 1)=Z (J b):=SR #[J c,J b] 114 (G wr.heap) 1 rfl;have T:=aj hB b3;have Wy:=ak d b3;have ag:=T.size;have s:Vy (xB (E wr (VP #[J c,J b] 114)) (G w.heap) W H Y N' g ts l):=λ i x h=>⟨(f.out i x h).1,ak (f.out i x h).2 b3⟩;have P:=HA.out _ T c b;clear f d hB b3;go_wp2_with fail;refine P.mono ?_;rintro e w5 ⟨B,y,Vq,j,d5,o,rfl,C,_,L,F,VW⟩;generalize E wr (VP #[VN VO c,VN VO b] 114)=wa at *;have B5:=aj T VW;have WA:=ak Wy VW;have N:=cu C T.size;have r:Vy (xB w5 (G w.heap) W H Y N' g ts l):=λ i x h=>⟨(s.out i x h).1,ak (s.out i x h).2 VW⟩;have HP:Vy (Ro W H Y N' c b Vq j d5 o):=⟨L,F⟩;have ZH:=B5.size;clear P Wy C s VW T L F q0 q1;go_wp2_with (at_builtin;refine Vxk _ rfl _ _ 115 rfl (G w.heap) 92 i0 (.agg #[.slice UP 0 0,J 0,J 0,J 0]) 4 48 Tryz.underA X7 VZ Wa Wc rfl dQ _ _ _ rfl (WA.alloc _) (O (G w5.heap) 0) 1 1 [.slice B (K Vq) y,J j,J d5,J o] rfl rfl (bO _ _ _ _ _ _) (by intro u hu;simp at hu;rcases hu with rfl|rfl|rfl|rfl<;>rfl) ?c3 ?c4 ?c5 ?_)
   case c3=>unfold maxLen;omega
   case c4=>omega
   case c5=>simp;omega
   intro v' X VR VQ _;have VV:=λ q hq=>(WA.lt q hq).1;have B6:Bq w X:=(B5.alloc ZH _).grown VQ sU VV;have O6:G' X (G w.heap) 92 4 v' (k+1) (mw (l++[⟨B,y,Vq,j,d5,o⟩])):=by
    rw[KY]
    simpa [KW]using VR
   have gr:∀{v2:Vr}{m:Nat}{xs:List Vr},G' w5 (G w.heap) 3 1 v2 m xs->G' X (G w.heap) 3 1 v2 m xs:=λ {v2 m xs} h=>jh (h.alloc (VP #[.slice B (K Vq) y,J j,J d5,J o] 92)) VQ (oV h WA dQ);have ab:Vy (xB X (G w.heap) W H Y N' g ts (l++[⟨B,y,Vq,j,d5,o⟩])):=λ i x h=>by
    by_cases XC:i<K l
    ·rw[List.getElem?_append_left XC]at h;exact⟨(r.out i x h).1,gr (r.out i x h).2⟩
    ·have e:i=k:=by
      have h2:=(Th.1 h).1;rw[Td,UG,z.out]at h2;rw[z.out]at XC;omega
     subst e;rw[TG (by rw[z.out];exact aa),z.out,Nat.sub_self]at h;cases h;exact⟨by rw[R.out.1,R.out.2];exact HP.out,gr N⟩
   have ac:Vy (K (l++[(⟨B,y,Vq,j,d5,o⟩:pE)])=k+1):=by
    show K (l++[(⟨B,y,Vq,j,d5,o⟩:pE)])=k+1;rw[Td,UG,z.out]
   clear VR VQ gr WA N B5 r;go_wp2;go_roundw
   case rel=>exact⟨k+1,_,U,ac.out,gQ,O6,ab.out,B6⟩
   case measure=>simp[intOf];omega
  ·have e:k=n:=U;subst e;go_wp2;go_ret2;exact⟨_,l,rfl,z.out,d,f.out,hB⟩
end
section
open Go.RowKit Go.Lib
def pF (w:M) (A:Oa) (l:List pE):Prop:=∀i x,l[i]? = Z x->∃b o,A=Z (O b o)/\b<G w.heap/\D w (O b (o+i*4))=Z (.slice x.A (K x.Vq) x.cap)/\D w (O b (o+i*4+1))=Z (J x.s)/\D w (O b (o+i*4+2))=Z (J x.d)/\D w (O b (o+i*4+3))=Z (J x.err)
theorem pF.X' {A:Oa}{l:List pE}(h:pF w A l)(a:ai F w I)(m:∀b o,A=Z (O b o)->¬F b):pF I A l:=λ i x j=>by
 obtain⟨b,o,e,k,g,f,d,c⟩:=h i x j;have n:=m b o e;exact⟨b,o,e,Tc k a.size,a.cellOf g n,a.cellOf f n,a.cellOf d n,a.cellOf c n⟩
theorem pF.below {A:Oa}{l:List pE}(h:pF w A l)(a:Bq w I):pF I A l:=h.X' (F:=λ _=>False) (ai.Y' a) (λ _ _ _=>id)
theorem Fx:∀(l:List pE) (i:Nat) (x:pE),l[i]? = Z x->(mw l)[i*4]? = Z (.slice x.A (K x.Vq) x.cap)/\(mw l)[i*4+1]? = Z (J x.s)/\(mw l)[i*4+2]? = Z (J x.d)/\(mw l)[i*4+3]? = Z (J x.err)
 |[],i,x,h=>by simp at h
 |y::l,0,x,h=>by
  simp at h;subst h;exact⟨rfl,rfl,rfl,rfl⟩
 |y::l,i+1,x,h=>by
  have f:l[i]? = Z x:=by simpa using h
  obtain⟨a,b,c,d⟩:=Fx l i x f;have e:∀j,(mw (y::l))[j+4]? = (mw l)[j]? := λ j=>by
   have:mw (y::l)=KW y++mw l:=(by unfold mw;rw[Vt]);rw[this,TG (by show 4<=_;omega)];show (mw l)[j+4-4]? = _;rw[Nat.add_sub_cancel]
  rw[show (i+1)*4=i*4+4 by omega];refine⟨?_,?_,?_,?_⟩;rw[e];exact a
  grind
  grind
  grind
theorem Hq {l:List pE}(h:G' w base 92 4 v n (mw l))(t:K l=n):∃A f,v=.slice A n f/\pF w A l/\∀b o,A=Z (O b o)->M' v=Z b:=by
 rcases h.2 with⟨rfl,rfl⟩|⟨g,f,s,rfl,C,r,B,z,y,q⟩
 refine⟨UP,0,rfl,λ i x p=>?_,λ b o e=>by cases e⟩;have:=(Th.1 p).1;omega;refine⟨Z (O g 0),f,rfl,λ i x p=>⟨g,0,rfl,?_,?_⟩,λ b o e=>by cases e;rfl⟩
 grind
 obtain⟨a,b,c,d⟩:=Fx l i x p;have k:∀j u,(mw l)[j]? = Z u->D w (O g (0+j))=Z u:=λ j u m=>by
  rw[Tm];rw[<- q]at m;rw[List.getElem?_take]at m;split at m;simp only[U2,r]
  simpa using m
  cases m
 exact⟨k _ _ a,k _ _ b,k _ _ c,k _ _ d⟩
end
section
open Go.Lib
def pcs (c:UInt8):Lu->List Lu
 |[]=>[[]]
 |x::l=>if x=c then []::pcs c l else (x::(pcs c l).headD [])::(pcs c l).tail
theorem rO (c x:UInt8)(l:Lu):pcs c (x::l)=if x=c then []::pcs c l else (x::(pcs c l).headD [])::(pcs c l).tail:=rfl
theorem PU (c:UInt8):∀l,pcs c l≠[]
 |[]=>by simp[pcs]
 |x::l=>by rw[rO];split<;>simp
theorem AT (c:UInt8)(l:Lu):∃p r,pcs c l=p::r:=by
 cases h:pcs c l with
 |nil=>exact Q8 h (PU c l)
 |cons p r=>exact⟨p,r,rfl⟩
theorem lO {b:Lu}:∀{a:Lu},c∉a->pcs c (a++c::b)=a::pcs c b
 |[],_=>by show pcs c (c::b)=_;rw[rO,Q5 rfl]
 |x::a,h=>by
  have f:x≠c:=λ e=>h (by rw[e];exact Tp);have d:=lO (b:=b) (a:=a) (λ e=>h (Tj _ e));show pcs c (x::(a++c::b))=_;rw[rO,Q6 f,d];rfl
theorem lP :∀{a:Lu},c∉a->pcs c a=[a]
 |[],_=>rfl
 |x::a,h=>by
  have d:x≠c:=λ e=>h (by rw[e];exact Tp);have b:=lP (a:=a) (λ e=>h (Tj _ e));rw[rO,Q6 d,b];rfl
theorem ez (c:UInt8):∀s:Lu,(c∉s/\index s [c]=-1)\/∃a b,s=a++c::b/\c∉a/\index s [c]=(K a:Int)
 |[]=>SQ ⟨by simp,rfl⟩
 |x::l=>by
  by_cases d:x=c;subst d;refine SP ⟨[],l,rfl,by simp,?_⟩;rw[index_one];unfold indexByte;simp;have i:(x==c)=false:=Q4.2 d;rcases ez c l with⟨f,e⟩|⟨a,b,f,e,g⟩
  refine SQ ⟨λ h=>?_,?_⟩;rcases TD.1 h with h|h
  exact d h.symm;exact f h;rw[index_one]at e ⊢;unfold indexByte;rw[i,e];rfl;refine SP ⟨x::a,b,by rw[f];rfl,λ h=>?_,?_⟩;rcases TD.1 h with h|h
  exact d h.symm;exact e h;rw[index_one]at g ⊢;unfold indexByte;have:((K a:Int) == -1)=false:=by rw[Q4];omega
  rw[i,g,this,Tk];simp
theorem uQ {s:Lu}(h:c∉s):count s [c]=0:=by
 rw[count_one];exact List.count_eq_zero.2 h
theorem ou {a b:Lu}(h:c∉a):count (a++c::b) [c]=count b [c]+1:=by grind [Go.Lib.count_one,List.count_eq_zero,instLawfulBEq,EquivBEq.toReflBEq,Std.LawfulBEqOrd.equivBEq,Std.instLawfulBEqCmpOfLawfulEqCmpOfLawfulBEq,UInt8.instLawfulEqOrd,UInt8.instTransOrd]
theorem xC (c:UInt8):∀(k:Nat) (s:Lu),count s [c]=k->splitK [c] 0 k s=pcs c s
 |0,s,h=>by
  rcases ez c s with⟨e,_⟩|⟨a,b,rfl,d,_⟩
  rw[lP e];rfl;rw[ou d]at h;omega
 |k+1,s,h=>by
  rcases ez c s with⟨e,_⟩|⟨a,b,rfl,d,g⟩
  rw[uQ e]at h;omega;rw[ou d]at h;have f:((K a:Int) == -1)=false:=by rw[Q4];omega
  unfold splitK;rw[g,f,lO d,Q6 sQ];have i:((K a:Int)).toNat=K a:=Ta _;have e2:(a++c::b).drop (K a+[c].length)=b:=by
   rw[UG,<- Vj,Vp rfl];rfl
  rw[i,e2,xC c k b U,Nat.add_zero,VL rfl]
theorem uR (c:UInt8)(s:ByteArray):splitB ⟨#[c]⟩ 0 (countB s ⟨#[c]⟩) s=(pcs c s.data.toList).map (λ l=>⟨l.toArray⟩):=by grind [pcs,Go.Lib.splitB_data,xC,U7,VC,List.map_id']
theorem Dw (c:UInt8)(s:ByteArray):countB s ⟨#[c]⟩+1=K (pcs c s.data.toList):=by
 have h:=splitB_all ⟨#[c]⟩ (Vz 1) 0 _ s rfl;rw[uR,TA]at h;exact h.symm
def cuA (c:UInt8) (s:Lu):Lu:=(cut s [c]).1
def cuZ (c:UInt8) (s:Lu):Lu:=(cut s [c]).2.1
def cuB (c:UInt8) (s:Lu):Bool:=(cut s [c]).2.2
theorem uS {s:Lu}(h:c∉s):cut s [c]=(s,[],Vl):=by
 rcases ez c s with⟨_,d⟩|⟨a,b,rfl,_,_⟩
 unfold cut;rw[d,Q6 dQ];exact Q8 sQ h
theorem ow {a b:Lu}(h:c∉a):cut (a++c::b) [c]=(a,b,Q):=by
 have e2:(a++c::b).drop (K a+[c].length)=b:=by
  rw[UG,<- Vj,Vp rfl];rfl
 have d:index (a++c::b) [c]=(K a:Int):=by
  rcases ez c (a++c::b) with⟨e,_⟩|⟨a',k,e,i,d⟩
  exact Q8 sQ e;have p:=lO (b:=b) h;rw[e,lO i]at p;injection p with f j
  rw[d,f]
 have g:0<=(K a:Int):=U;unfold cut;rw[d,Q5 g,Ta,e2,VL rfl]
theorem Fy (c:UInt8)(s:Lu):pcs c s=cuA c s::(if cuB c s=Q then pcs c (cuZ c s) else []):=by grind [pcs,cuA,cuB,cuZ,ez,uS,lP,ow,lO]
theorem KZ (c:UInt8)(s:Lu):c∉cuA c s:=by grind [cuA,ez,uS,ow]
def swp (a b:UInt8) (s:Lu):Lu:=s.map λ x=>if x=a then b else x
theorem La {a b:UInt8}{s:Lu}(h:a∉s):swp a b s=s:=by
 unfold swp;rw[VC (g:=id) (λ x c=>by rw[Q6 (λ e=>h (by rw[<- e];exact c))];rfl),List.map_id]
theorem OZ (a b:UInt8):∀(k:Nat) (s:Lu),count s [a]=k->replaceK [a] [b] k s=swp a b s
 |0,s,h=>by
  rcases ez a s with⟨d,_⟩|⟨x,y,rfl,c,_⟩
  rw[La d];rfl;rw[ou c]at h;omega
 |k+1,s,h=>by
  rcases ez a s with⟨d,_⟩|⟨x,y,rfl,c,e⟩
  rw[uQ d]at h;omega;rw[ou c]at h;rw[replaceK_hit _ _ _ _ _ e];have e2:(x++a::y).drop (K x+[a].length)=y:=by
   rw[UG,<- Vj,Vp rfl];rfl
  rw[e2,OZ a b k y U,VL rfl];unfold swp;rw[UE,UK,Q5 rfl];have:=La (b:=b) c;unfold swp at this;rw[this,TC];rfl
theorem Lb {a b:UInt8}(h:a≠b)(s:Lu):replaceAll s [a] [b]=swp a b s:=by
 unfold replaceAll replace;have c:([a] == [b])=false:=by rw[Q4];simpa using h
 rw[c,Q6 sQ];unfold replaceNum;rw[Q5 (SQ dQ)];exact OZ a b _ s rfl
def fk (s:Lu):Option Int:=match dM s [] with
 |some v=>if -1<=v/\v<=9999 then Z v else UP
 |none=>UP
theorem iz {s:Lu}{v:Int}:fk s=Z v↔s=itoa v/\-1<=v/\v<=9999:=by grind [fk,dM,ft]
theorem oF {s:Lu}(h:∀v:Int,-1<=v->v<=9999->s≠itoa v):fk s=none:=by grind [fk,iz]
theorem eO (n:Nat):itoa n=decDigits n:=by
 unfold itoa;rw[Q6 U,Ta]
theorem AU (h:n<=9999):K (decDigits n)<=4:=by grind [Go.Lib.decDigits_one,UInt8.ofNat_add,jP,Std.instReflLeOfIsPreorder]
theorem NY (h:9999<n):4<K (decDigits n):=by grind [jP,mH,List.length_pos_iff,UInt8.ofNat_add,TC,Td]
theorem tF:itoa (-1)=[45,49]:=by
 unfold itoa;rw[Q5 dQ];show 45::decDigits 1=_;rw[decDigits_one dQ];rfl
def qA (s:Lu):Option Int :=
 if s=[45,49] then Z (-1) else if 4<K s\/K s=0 then UP else if s.all iw=Q then (if decDigits (cE 0 s)=s then Z (cE 0 s:Nat) else UP) else UP
theorem kB (s:Lu):qA s=fk s:=by
 unfold qA;split
 next h=>rw[h];exact(iz.2 ⟨tF.symm,dQ,dQ⟩).symm
 next h =>
 split
 next f =>
  refine(oF λ v b a e=>?_).symm;subst e;by_cases d:v<0;obtain rfl:v=-1:=U;exact h tF;obtain⟨n,rfl⟩:∃n:Nat,v=n:=⟨v.toNat,U⟩;rw[eO]at f;have:=AU (n:=n) U;have:=List.length_pos_iff.2 (mH n);omega
 next f =>
 split
 next b =>
  split
  next a =>
   refine(iz.2 ⟨by rw[eO];exact a.symm,U,?_⟩).symm;by_cases c:9999<cE 0 s;have:=NY c;rw[a]at this;omega;omega
  next a =>
  refine(oF λ v c g e=>?_).symm;subst e;by_cases d:v<0;obtain rfl:v=-1:=U;exact h tF;obtain⟨n,rfl⟩:∃n:Nat,v=n:=⟨v.toNat,U⟩;rw[eO]at a;rw[mI]at a;exact a rfl
 next b =>
 refine(oF λ v c g e=>?_).symm;subst e;by_cases d:v<0;obtain rfl:v=-1:=U;exact h tF;obtain⟨n,rfl⟩:∃n:Nat,v=n:=⟨v.toNat,U⟩;rw[eO]at b;exact b (qp.2 (nT n))
theorem kC (h:n<=9999):fk (decDigits n)=Z (n:Int):=iz.2 ⟨(eO n).symm,U,U⟩
def cw:List Lu->Option (List Int)
 |[]=>Z []
 |w::r=>match fk w,cw r with
  |some v,Z l=>Z (v::l)
  |_,_=>UP
theorem oG:∀{l:List Lu}{ns:List Int},cw l=Z ns->K ns=K l
 |[],ns,h=>by cases h;rfl
 |w::r,ns,h=>by
  unfold cw at h;split at h
  rename_i v l b a
  cases h;rw[Tk,Tk,oG a];cases h
theorem uT:∀(l:List Lu) (w:Lu),cw (l++[w])=match cw l,fk w with
  |some ns,Z v=>Z (ns++[v])
  |_,_=>UP
 |[],w=>by
  show cw [w]=_;unfold cw;cases h:fk w with
  |none=>rfl
  |some v=>simp[cw]
 |x::l,w=>by
  show cw (x::(l++[w]))=_;unfold cw;rw[uT l w];cases c:fk x<;>cases b:cw l<;>cases a:fk w<;>rfl
theorem mP:∀{l r:List Lu},cw l=UP->cw (l++r)=UP
 |[],_,h=>by cases h
 |x::l,r,h=>by
  show cw (x::(l++r))=UP;unfold cw at h ⊢;cases b:fk x with
  |none=>rfl
  |some v =>
   cases a:cw l with
   |none=>rw[mP a]
   |some ns=>rw[b,a]at h;cases h
def cf (s:Lu):Option Nat :=
 if s=[110,101,119] then Z 0 else if s=[108,111,97,100] then Z 1 else if s=[98,108,111,99,107] then Z 2 else if s=[102,114,101,101] then Z 3 else if s=[108,111,111,107] then Z 4 else if s=[97,115,107] then Z 5 else if s=[98,97,116,99,104] then Z 6 else if s=[115,116,97,116,115] then Z 7 else if s=[115,97,118,101] then Z 8 else UP
def bg (k:Nat):Int:=if k=0 then 3 else if k=1 then 1 else if k=4\/k=5 then 2 else if k=7\/k=8 then 0 else -1
def dj (k:Nat) (rest:Lu) (more:Bool):Option (List Int×Lu) :=
 match cw (if more=Q then pcs 32 (if k=1 then cuA 32 rest else rest) else []) with
 |some ns=>if bg k=-1\/bg k=K ns then Z (ns,if k=1 then cuZ 32 rest else []) else UP
 |none=>UP
def cI (l:Lu):Option (Nat×List Int×Lu) :=
 if 1100<K l then UP else match cf (cuA 32 l) with
 |none=>UP
 |some k=>match dj k (cuZ 32 l) (cuB 32 l) with
  |none=>UP
  |some (ns,t)=>Z (k,ns,t)
def bU (f:Nat):Lu:=[101,114,114,111,114,32]++decDigits f
def dA (l:Ln):Lu:=join (l.map decDigits) [32]
def wj (Vq:Ln) (s d f:Nat):Lu:=if f=0 then dA [s,d]++[58,32]++dA Vq else bU f
end
section
open Go.Shelf
def Tryz.shC:Go.Shelf.Ren:=⟨λ|138=>82|143=>84|145=>61|146=>106|154=>48|155=>24|156=>57|165=>83|166=>85|169=>87|195=>131|197=>86|217=>182|218=>132|219=>135|220=>105|221=>156|224=>184|225=>183|240=>133|241=>134|260=>136|266=>224|267=>185|268=>209|276=>180|277=>181|314=>225|n=>n,λ|0=>0|3=>3|4=>4|5=>5|9=>9|20=>20|21=>21|31=>22|37=>80|46=>266|51=>310|59=>119|70=>166|72=>168|75=>25|76=>107|80=>100|105=>171|119=>267|127=>223|138=>269|139=>270|146=>311|164=>263|n=>n,λ|1=>0|3=>1|4=>2|n=>n⟩
theorem Tryz.lays155:Go.Proofs.Lays.n155 Vyj Tryz.shC:={ mixed:=kQ,f138:=func82.trans (Q7 Z kQ),f143:=func84.trans (Q7 Z kQ),f154:=func48.trans (Q7 Z kQ),f155:=func24.trans (Q7 Z kQ),f165:=func83.trans (Q7 Z kQ),f166:=func85.trans (Q7 Z kQ),f169:=func87.trans (Q7 Z kQ),f195:=func131.trans (Q7 Z kQ),f197:=func86.trans (Q7 Z kQ),f217:=func182.trans (Q7 Z kQ),f218:=func132.trans (Q7 Z kQ),f219:=func135.trans (Q7 Z kQ),f224:=func184.trans (Q7 Z kQ),f225:=func183.trans (Q7 Z kQ),f240:=func133.trans (Q7 Z kQ),f241:=func134.trans (Q7 Z kQ),f260:=func136.trans (Q7 Z kQ),f266:=func224.trans (Q7 Z kQ),f267:=func185.trans (Q7 Z kQ),f276:=func180.trans (Q7 Z kQ),f277:=func181.trans (Q7 Z kQ),f314:=func225.trans (Q7 Z kQ),t0:=underlying0,a0:=isAgg0,z0:=sizeOf0,v0:=zeroValue0,t3:=underlying3,a3:=isAgg3,z3:=sizeOf3,v3:=zeroValue3,t4:=underlying4,a4:=isAgg4,z4:=Tryz.sizeOf4,v4:=zeroValue4,t5:=underlying5,a5:=isAgg5,z5:=sizeOf5,v5:=zeroValue5,t9:=Vyh,a9:=isAgg9,z9:=sizeOf9,v9:=zeroValue9,t20:=underlying20,a20:=isAgg20,z20:=sizeOf20,v20:=zeroValue20,t21:=underlying21,a21:=isAgg21,z21:=sizeOf21,v21:=zeroValue21,t37:=underlying80,a37:=isAgg80,z37:=sizeOf80,v37:=zeroValue80,t46:=underlying266,a46:=isAgg266,z46:=sizeOf266,v46:=zeroValue266,t51:=underlying310,a51:=isAgg310,z51:=sizeOf310,v51:=zeroValue310,t70:=underlying166,a70:=isAgg166,z70:=sizeOf166,v70:=zeroValue166,t72:=underlying168,a72:=isAgg168,z72:=sizeOf168,v72:=zeroValue168,t75:=underlying25,a75:=isAgg25,z75:=sizeOf25,v75:=zeroValue25,t76:=underlying107,a76:=isAgg107,z76:=sizeOf107,v76:=zeroValue107,t105:=underlying171,a105:=isAgg171,z105:=sizeOf171,v105:=zeroValue171,t119:=underlying267,a119:=isAgg267,z119:=sizeOf267,t127:=underlying223,a127:=isAgg223,z127:=sizeOf223,v127:=zeroValue223,t138:=underlying269,a138:=isAgg269,z138:=sizeOf269,v138:=zeroValue269,t139:=underlying270,a139:=isAgg270,z139:=sizeOf270,v139:=zeroValue270,t146:=underlying311,a146:=isAgg311,z146:=sizeOf311,v146:=zeroValue311,t164:=underlying263,a164:=isAgg263,z164:=sizeOf263,v164:=zeroValue263,g1:=kQ,g3:=kQ,g4:=by kernel_rfl }
theorem Tryz.lays145:Go.Proofs.Lays.n145 Vyj Tryz.shC:={ Tryz.lays155 with f145:=func61.trans (Q7 Z kQ),f220:=func105.trans (Q7 Z kQ),t59:=underlying119,a59:=isAgg119,z59:=sizeOf119,v59:=zeroValue119 }
theorem Tryz.lays146:Go.Proofs.Lays.n146 Vyj Tryz.shC:={ Tryz.lays155 with f146:=func106.trans (Q7 Z kQ),f221:=func156.trans (Q7 Z kQ),f268:=func209.trans (Q7 Z kQ),t31:=Vyi,a31:=isAgg22,z31:=sizeOf22,v31:=zeroValue22 }
theorem Tryz.lays156:Go.Proofs.Lays.n156 Vyj Tryz.shC:={ Tryz.lays155 with f156:=func57.trans (Q7 Z kQ),t31:=Vyi,a31:=isAgg22,z31:=sizeOf22,v31:=zeroValue22 }
theorem Tryz.shX:Builder.Extra Vyj Tryz.shC:={ sizeBuilder:=kQ,liesBuilder:=kQ,t5:=underlying5,a5:=isAgg5,z5:=sizeOf5,v5:=zeroValue5,infoByte:=kQ,cellsByte:=kQ,sizeByte:=kQ,neB5:=by decide }
open Go.RowKit Go.Lib
def Mx (w:M):Prop:=∃m,D w (O 0 0)=Z (J m)
theorem Mx.below {B:Nat}(h:Mx w)(a:Below B w I)(b:1<=B):Mx I:=by grind [Mx,Go.RowKit.Below.cell]
theorem O0 (s:Lu)(w:M)(b:K s<=100000)(a:Mx w) :
  Zq 61 #[.string (str s),.string ⟨#[32]⟩] w λ e I=>e=VJ (.tuple #[.string (str (cuA 32 s)),.string (str (cuZ 32 s)),.bool (cuB 32 s)])/\∃n,I=w.drewN n:=by
 obtain⟨m,a⟩:=a;have e:(str s).data.toList=s:=rfl;have h:=Any.strings_Cut Tryz.lays145 (str s) ⟨#[32]⟩ m w (by rw[ar];omega) a;rw[e]at h;exact h
theorem FA (s:Lu)(w:M)(b:K s<=100000)(a:Mx w) :
  Zq 106 #[.string (str s),.string ⟨#[32]⟩] w λ e I=>e=VJ (.slice (Z (O (G w.heap) 0)) (K (pcs 32 s)) (K (pcs 32 s)))/\I=E w (.cells ((pcs 32 s).map (λ l=>UJ (str l))).toArray 9):=by
 obtain⟨m,a⟩:=a;have e:(str s).data.toList=s:=rfl;have h:=Any.strings_Split Tryz.lays146 kQ (str s) ⟨#[32]⟩ m w (by rw[ar];omega) a (Vz 1);rw[uR,Dw,e,U7]at h;exact h
theorem Hr {s:Lu}:count s [c]<=K s:=by grind [count_one,List.count_le_length]
theorem Lc {a b:UInt8}(d:a≠b)(s:Lu)(w:M)(f:K s<=100000)(c:Mx w) :
  Rq 24 #[.string (str s),.string ⟨#[a]⟩,.string ⟨#[b]⟩] w (.string (str (swp a b s))):=by
 obtain⟨m,c⟩:=c;have e:(str s).data.toList=s:=rfl;have g:countB (str s) ⟨#[a]⟩<=K s:=Hr;have h:=Any.strings_ReplaceAll Tryz.lays155 Tryz.shX (str s) ⟨#[a]⟩ ⟨#[b]⟩ m w (by rw[ar];omega) c (Vz 1) (by
  rw[ar];have:(⟨#[b]⟩:ByteArray).size=1:=rfl;rw[this];omega)
 rw[e]at h;have e2:replaceAll s (⟨#[a]⟩:ByteArray).data.toList (⟨#[b]⟩:ByteArray).data.toList=swp a b s:=Lb d s;rw[e2]at h;exact h
theorem Ld (b o c:Nat)(xs:List Lu)(sep:Lu)(w:M)(i:∀(j:Nat) x,xs[j]? = Z x->Cq w b (o+j) (.string (str x)))(g:b<G w.heap)(k:K xs<=100000)(f:K xs<=c)(d:K (join xs sep)<=100000000) :
  Rq 57 #[.slice (Z (O b o)) (K xs) c,.string (str sep)] w (.string (str (join xs sep))):=by
 have e:(xs.map str).map (λ y=>y.data.toList)=xs:=by
  rw[U7];exact(VC (λ x _=>(rfl:((λ y:ByteArray=>y.data.toList) ∘ str) x=id x))).trans (List.map_id xs)
 have e2:(str sep).data.toList=sep:=rfl;have h:=Any.strings_Join Tryz.lays156 Tryz.shX b o c (xs.map str) (str sep) w (λ j x a=>by
  rw[Tz]at a;cases h:xs[j]? with
  |none=>rw[h]at a;cases a
  |some y =>
   rw[h]at a;cases a;exact i j y h) g (by grind) (by grind) (by rw[e,e2];omega)
 rw[TA,e,e2]at h;exact h
theorem mR (a:Oa)(c:Nat)(sep:Lu)(w:M) :
  Eq9 57 #[.slice a 0 c,.string (str sep)] w (.string (str [])):=Any.strings_Join_none Tryz.lays156 Tryz.shX a c (str sep) w
end
section
open Go.RowKit Go.Lib
theorem Le {l:Lu}{v:Int}(h:Lib.atoiAll l=.ok v)(c:K l<=1100)(w:M) :
  Rq 126 #[.string (str l)] w (.tuple #[J v,.nilIface]) :=
 (Tryz.strconv_Atoi_ok (str l) (by rw[ar];omega) v h w).mono λ e I ⟨b,a⟩=>⟨b,by
  rcases a with rfl|⟨t,rfl⟩
  exact ae;exact Lib.bytesWorld_below w 5 t⟩
theorem Hs {l:Lu}(h:∀v,Lib.atoiAll l≠.ok v)(g:K l<=1100)(w:M)(E9:Env w) :
  Zq 126 #[.string (str l)] w λ e I=>∃v A,e=VJ (.tuple #[J v,.iface 307 (.pointer (Z A))])/\Bq w I:=by
 cases d:Lib.atoiAll l with
 |ok v=>exact Q8 d (h v)
 |«syntax» =>
  obtain⟨a,p,b⟩:=E9.es;exact(Tryz.strconv_Atoi_syntax (str l) (by rw[ar];omega) d _ w b (.inr ⟨a,p,rfl⟩)).mono λ e I ⟨N,c,_,_,f⟩=>⟨_,_,c,f⟩
 |range =>
  obtain⟨a,p,b⟩:=E9.er;exact(Tryz.strconv_Atoi_range (str l) (by rw[ar];omega) d _ w b (.inr ⟨a,p,rfl⟩)).mono λ e I ⟨N,c,_,_,f⟩=>⟨_,_,c,f⟩
theorem Ht {l:Lu}{v u:Int}(h:atoiAll l=.ok v)(a:fk l=Z u):u=v:=by grind [iz,kf]
theorem Lf {l:Lu}(h:∀v,atoiAll l≠.ok v):fk l=none:=by grind [fk,oF,kf]
theorem sK (l:Lu)(t:K l<=1100)(w:M)(E9:Env w) :
  Zq 157 #[.string (str l)] w λ e I=>(∃v,e=VJ (.tuple #[J v,.bool (fk l).isSome])/\∀u,fk l=Z u->u=v)/\Bq w I:=by
 by_cases c:∃v,Lib.atoiAll l=.ok v
 ·obtain⟨v,b⟩:=c;have o:=atoiAll_bounds b;have d:=Le b t w;have m:Vy (∀u,fk l=Z u->u=v):=λ u h=>Ht b h;by_cases n:-1<=v/\v<=9999
  ·obtain⟨f,k⟩:=n;have hi:=λ g (y:Bq w g)=>jw v o.1 o.2 g (E9.grown y);have j:Vy ((itoa v==(⟨l.toArray⟩:ByteArray).toList)=(fk l).isSome):=by
    unfold Vy;have q:(⟨l.toArray⟩:ByteArray).toList=l:=Lib.toList_data _;rw[q,Bool.eq_iff_iff,beq_iff_eq,Option.isSome_iff_exists];constructor
    ·intro e;exact⟨v,iz.2 ⟨e.symm,f,k⟩⟩
    ·rintro⟨u,h⟩;obtain rfl:=m.out u h;exact(iz.1 h).1.symm
   clear b E9 o;go_enter func157,ntmps157;go_wp2_with fail;refine Q9 d λ g a=>?_;have p:=hi g a;clear d hi;go_wp2_with (go_at_call 52;refine Q9 p λ C r=>?_);go_ret2;refine⟨⟨v,?_,m.out⟩,aj a r⟩;rw[<- j.out];rfl
  ·have j:Vy ((fk l).isSome=Vl):=by
    unfold Vy;cases i:fk l with
    |none=>rfl
    |some u =>
     exfalso;obtain rfl:=m.out u i;exact n (iz.1 i).2
   have x:(decide (-1<=v)=Vl)\/(decide (-1<=v)=Q/\decide (v<=9999)=Vl):=by
    by_cases f:-1<=v
    ·exact SP ⟨Q2 f,Q3 (λ k=>n ⟨f,k⟩)⟩
    ·exact SQ (Q3 f)
   clear b E9 o n;rcases x with f|⟨f,k⟩
   ·have s:=of_decide_eq_false f;go_enter func157,ntmps157;go_wp2_with fail;refine Q9 d λ g a=>?_;clear d;go_wp2;go_ret2;exact⟨⟨v,by rw[j.out];rfl,m.out⟩,a⟩
   ·have s:=Q1 f;have z:=of_decide_eq_false k;go_enter func157,ntmps157;go_wp2_with fail;refine Q9 d λ g a=>?_;clear d;go_wp2;go_ret2;exact⟨⟨v,by rw[j.out];rfl,m.out⟩,a⟩
 ·have i:=Lf (λ v b=>c ⟨v,b⟩);have j:Vy ((fk l).isSome=Vl):=by unfold Vy;rw[i];rfl
  have d:=Hs (λ v b=>c ⟨v,b⟩) t w E9;have B:Vy (∀v u,fk l=Z u->u=v):=λ v u h=>by rw[i]at h;cases h
  clear c i E9;go_enter func157,ntmps157;go_wp2_with fail;refine d.mono ?_;rintro e g ⟨v,A,rfl,a⟩;clear d;go_wp2;go_ret2;exact⟨⟨v,by rw[j.out];rfl,B.out v⟩,a⟩
end
section
open Go.RowKit Go.Lib
def eE (w:M) (A:Oa) (xs:List Lu):Prop:=∀i x,xs[i]? = Z x->∃b o,A=Z (O b o)/\b<G w.heap/\D w (O b (o+i))=Z (.string (str x))
theorem eE.below {A:Oa}{xs:List Lu}(h:eE w A xs)(a:Bq w I):eE I A xs:=λ i x hi=>by
 obtain⟨b,o,e,c,d⟩:=h i x hi;exact⟨b,o,e,Tc c a.size,(a.cell (p:=O b (o+i)) c).trans d⟩
theorem eE.new (w:M)(xs:List Lu)(t:TypeId):eE (E w (.cells (xs.map (λ l=>UJ (str l))).toArray t)) (Z (O (G w.heap) 0)) xs:=by grind [eE,str,Go.World.size_alloc,Go.World.cell?_alloc_new]
def gn (l:List Int):List Value:=l.map (Value.int .i64)
theorem yR {l:Lu}{u:Int}(h:fk l=Z u)(a:K l<=1100)(w:M)(E9:Env w) :
  Rq 157 #[.string (str l)] w (.tuple #[J u,.bool Q]) :=
 (sK l a w E9).mono λ e I ⟨⟨v,d,c⟩,b⟩=>⟨by rw[d,c u h,h];rfl,b⟩
theorem yS {l:Lu}(h:fk l=UP)(a:K l<=1100)(w:M)(E9:Env w) :
  Zq 157 #[.string (str l)] w λ e I=>(∃v,e=VJ (.tuple #[J v,.bool Vl]))/\Bq w I :=
 (sK l a w E9).mono λ e I ⟨⟨v,c,_⟩,b⟩=>⟨⟨v,by rw[c,h];rfl⟩,b⟩
theorem uU {a:List Lu}{x:Lu}(b:a[i]? = Z x)(h:cw (a.take i)=Z ns):cw (a.take (i+1))=(fk x).map λ v=>ns++[v]:=by grind [cw,fk,Th,Tx,uT]
theorem xD {a:List Lu}(h:cw (a.take i)=UP):cw a=none:=by grind [mP,List.take_append_drop]
theorem yT {A:Oa}{cap:Nat}{a:List Lu}(w:M)(E9:Env w)(f:eE w A a)(hl:K a<=2000)(B:∀x∈a,K x<=1100) :
  Zq 107 #[.slice A (K a) cap] w λ e I=>Bq w I/\((∃ns v,cw a=Z ns/\e=VJ (.tuple #[v,.bool Q])/\G' I (G w.heap) 3 1 v (K ns) (gn ns))\/(cw a=UP/\e=VJ (.tuple #[.slice UP 0 0,.bool Vl]))):=by
 obtain⟨P,hi,VZ,Y,X⟩:=info_parts Tryz.Vxg;have HX:=qH f;have HW:=qH B;have F:Vy (∀I,Bq w I->Env I):=λ I V=>E9.grown V;clear f B E9;go_enter func107,ntmps107;go_wp2;go_loopw [4,11] (λ v iv wr=>∃(i:Nat) (ns:List Int),i<=K a/\iv=J i/\Vy (cw (a.take i)=Z ns)/\K ns<=i/\G' wr (G w.heap) 3 1 v (K ns) (gn ns)/\Bq w wr)
  (λ _ i _=>K a-(intOf i).toNat)
 case atStart=>exact⟨0,[],Te _,rfl,rfl,aa,To _ _ _ _,ae⟩
 case round =>
  obtain⟨i,ns,XC,rfl,c,S,d,g⟩:=hrel;by_cases VS:i<K a
  ·obtain⟨x,f⟩:∃x,a[i]? = Z x:=⟨_,SU VS⟩;obtain⟨b,o,W,Wv,T⟩:=(HX.out.below g) i x f;subst W;have k:=HW.out x (Ti f);have i1:(i:Int)<(K a:Int):=U;have j:=uU f c.out;cases h:fk x with
   |none =>
    have m:=yS h k wr (F.out _ g);rw[h]at j;have r:=qH (xD j);clear h j f c d;go_wp2_with fail;refine m.mono ?_;rintro e t ⟨⟨v3,rfl⟩,l⟩;go_wp2;go_ret2;exact⟨aj g l,SP ⟨r.out,rfl⟩⟩
   |some u =>
    have m:=yR h k wr (F.out _ g);rw[h]at j;have r:=bX j;clear h j f c;go_wp2_with fail;refine Q9 m λ t l=>?_;have n:=ak d l;have H:=aj g l;have L:=H.size;clear d m l g T;go_wp2_with (at_builtin;refine Vxk _ rfl _ _ 60 rfl (G w.heap) 3 P (J 0) 1 8 underlying60 hi VZ Y X rfl dQ _ _ _ rfl (n.alloc _) (O (G t.heap) 0) 1 1 [J u] rfl rfl ?c1 ?c2 ?c3 ?c4 ?c5 ?_)
    case c1=>exact cell_one_new _ _ _
    case c2=>intro z y;simp at y;subst y;rfl
    case c3=>unfold maxLen;omega
    case c4=>omega
    case c5=>simp;omega
    intro N s p C _;have B6:Bq w s:=(H.alloc L _).grown C sU (λ q R=>(n.lt q R).1);have O6:G' s (G w.heap) 3 1 N (K (ns++[u])) (gn (ns++[u])):=by
     rw[Td,UG];unfold gn at p ⊢;rw[UE];exact p
    clear p C n;go_wp2;go_roundw
    case rel=>exact⟨i+1,ns++[u],U,gQ,r.out,by simp;omega,O6,B6⟩
    case measure=>simp[intOf];omega
  ·have e:i=K a:=U;subst e;rw[Tl]at c;go_wp2;go_ret2;exact⟨g,SQ ⟨ns,_,c.out,rfl,d⟩⟩
end
section
open Go.RowKit Go.Lib
theorem fu {e:TypeId}{xs:List Vr}(h:G' w base e 1 v n xs):∃A a,v=.slice A n a/\∀i u,xs[i]? = Z u->∃b,A=Z (O b 0)/\b<G w.heap/\n<=a/\D w (O b i)=Z u:=by
 obtain⟨k,h⟩:=h;rcases h with⟨rfl,g⟩|⟨b,a,j,rfl,_,c,f,_,l,d⟩
 refine⟨UP,0,by rw[g],λ i u hi=>?_⟩;have:xs=[]:=TF.1 U;rw[this]at hi;simp at hi;refine⟨Z (O b 0),a,rfl,λ i u hi=>⟨b,rfl,(Array.getElem?_eq_some_iff.1 c).1,f,?_⟩⟩;obtain⟨m,_⟩:=Th.1 hi;rw[<- d,List.getElem?_take_of_lt U]at hi;simp only[U2,c]
 simpa using hi
def de (w:M) (A:Oa) (ns:List Int):Prop:=∀i v,ns[i]? = Z v->∃b o,A=Z (O b o)/\b<G w.heap/\D w (O b (o+i))=Z (J v)
theorem de.below {A:Oa}(h:de w A ns)(a:Bq w I):de I A ns:=λ i x hi=>by
 obtain⟨b,o,e,c,d⟩:=h i x hi;exact⟨b,o,e,Tc c a.size,(a.cell (p:=O b (o+i)) c).trans d⟩
theorem uV (h:G' w base 3 1 v (K ns) (gn ns)):∃A a,v=.slice A (K ns) a/\de w A ns/\∀b o,A=Z (O b o)->base<=b:=by
 obtain⟨A,a,d,n⟩:=fu h;refine⟨A,a,d,λ i x hi=>?_,λ b o e=>?_⟩
 rotate_left
 ·subst d e;rcases h.2 with⟨c,_⟩|⟨g,f,p,c,j,_⟩
  ·cases c
  ·cases c;exact j
 obtain⟨b,m,l,_,k⟩:=n i (J x) (by grind [gn]);exact⟨b,0,m,l,by rw[Tm];exact k⟩
theorem Dx {A:Oa}{cap:Nat}{a:List Lu}(w:M)(E9:Env w)(c:eE w A a)(f:K a<=2000)(d:∀x∈a,K x<=1100) :
  Zq 107 #[.slice A (K a) cap] w λ e I=>Bq w I/\((∃ns A cap,cw a=Z ns/\e=VJ (.tuple #[.slice A (K ns) cap,.bool Q])/\de I A ns/\∀b o,A=Z (O b o)->G w.heap<=b)\/(cw a=UP/\e=VJ (.tuple #[.slice UP 0 0,.bool Vl]))) :=
 (yT w E9 c f d).mono λ e I ⟨g,h⟩=>⟨g,by
  rcases h with⟨ns,v,k,j,i⟩|h
  grind [uV]
  exact SP h⟩
theorem lQ :∀{s:Lu},∀x∈pcs c s,K x<=K s
 |[],x,a=>by simp[pcs]at a;subst a;simp
 |y::l,x,a=>by
  rw[rO]at a;obtain⟨p,r,e⟩:=AT c l;rw[e]at a;split at a;rcases TD.1 a with rfl|a
  simp;have:=lQ (s:=l) x (by rw[e];exact a);rw[Tk];omega;rcases TD.1 a with rfl|a
  have:=lQ (s:=l) p (by rw[e];exact Tp);simp only[List.headD_cons,Tk];omega;have:=lQ (s:=l) x (by rw[e];exact Tj _ a);rw[Tk];omega
theorem qC {c:UInt8}:∀{s:Lu},K (pcs c s)<=K s+1
 |[]=>by simp[pcs]
 |y::l=>by
  have a:=qC (c:=c) (s:=l);obtain⟨p,r,e⟩:=AT c l;rw[rO];rw[e]at a ⊢;split<;>simp at a ⊢ <;> omega
def fl (k:Nat) (rest:Lu) (more:Bool):List Lu:=if more=Q then pcs 32 (if k=1 then cuA 32 rest else rest) else []
theorem Dy {rest:Lu}(h:cw (fl k rest more)=Z ns):dj k rest more=if bg k=-1\/bg k=K ns then Z (ns,if k=1 then cuZ 32 rest else []) else none:=by grind [dj,fl]
theorem Dz {rest:Lu}(h:cw (fl k rest more)=UP):dj k rest more=none:=by grind [dj,fl]
theorem lS (c:UInt8)(s:Lu):K (cuA c s)<=K s:=lQ _ (by rw[Fy];exact Tp)
theorem Lg (w:M):eE w UP []:=λ i x h=>by simp at h
def O3 (w0 I:M) (k:Nat) (rest:Lu) (more:Bool) (e:Ending):Prop:=Below (G w0.heap) w0 I/\((∃ns t A cap,dj k rest more=Z (ns,t)/\e=VJ (.tuple #[.slice A (K ns) cap,.string (str t),.bool Q])/\de I A ns/\∀b o,A=Z (O b o)->G w0.heap<=b)\/(dj k rest more=UP/\∃v t,e=VJ (.tuple #[v,t,.bool Vl])))
theorem Lh {fn:Fn}{fi ca:Array Vr}{rest:Lu}(w:M)(E9:Env w)(M9:Mx w)(hl:K rest<=1100) :
  Zq 62 #[.agg #[J (bg k),.bool (k==1),.func fn fi ca],.string (str rest),.bool more] w λ e I=>O3 w I k rest more e:=by
 have hz:=E9.z;have b0:Bq w (E w (VP #[J (bg k),.bool (k==1),.func fn fi ca] 70)):=ae.alloc aa _;have C:D (E w (VP #[J (bg k),.bool (k==1),.func fn fi ca] 70)) (O (G w.heap) 0)=Z (J (bg k)):=by rw[Tb];rfl
 have q1:D (E w (VP #[J (bg k),.bool (k==1),.func fn fi ca] 70)) (O (G w.heap) 1)=Z (.bool (k==1)):=by rw[Tb];rfl
 have E1:=E9.grown b0;have M1:=M9.below b0 U;have Xs:K (fl k rest more)<=2000:=by
  unfold fl;split
  ·split
   ·have:=qC (c:=32) (s:=cuA 32 rest);have:=lS 32 rest;omega
   ·have:=qC (c:=32) (s:=rest);omega
  ·simp
 have L:∀x∈fl k rest more,K x<=1100:=by
  unfold fl;intro x hx;split at hx
  ·split at hx
   ·have:=lQ x hx;have:=lS 32 rest;omega
   ·have:=lQ x hx;omega
  ·simp at hx
 have T:Vy (∀ns,cw (fl k rest more)=Z ns->dj k rest more=if bg k=-1\/bg k=K ns then Z (ns,if k=1 then cuZ 32 rest else []) else UP):=λ ns h=>Dy h;have t:Vy (cw (fl k rest more)=UP->dj k rest more=UP):=λ h=>Dz h;have HC:K (cuA 32 rest)<=100000:=by have:=lS 32 rest;omega
 have ac:K rest<=100000:=U;have ag:Nat:=0;have HB:=bX b0;have HE:Vy (∀I,Bq w I->Env I):=λ I hb=>E9.grown hb;clear E9 b0;generalize ad:E w (VP #[VN VO (bg k),.bool (k==1),.func fn fi ca] 70)=B at *;have H:Vy (∀(w3:M) (A:Oa) (g:Nat),Bq w w3->eE w3 A (fl k rest more)->Zq 107 #[.slice A (K (fl k rest more)) g] w3 _):=λ w3 A g hb S=>Dx w3 (HE.out w3 hb) S Xs L;generalize XO:bg k=p at *;by_cases hk:k=1
 ·subst hk;have y:=O0 rest B ac M1;have k1:((1:Nat)==1)=true:=rfl;rw[k1]at q1 ad ⊢;have e1:(if (1:Nat)=1 then cuZ 32 rest else [])=cuZ 32 rest:=rfl;cases more with
  |true =>
   have u:fl 1 rest Q=pcs 32 (cuA 32 rest):=rfl;rw[u]at H Xs L T t;have X:=λ n=>FA (cuA 32 rest) (B.drewN n) HC M1;have S:=λ n=>eE.new (B.drewN n) (pcs 32 (cuA 32 rest)) 9;have W:∀n,Bq B (E (B.drewN n) (.cells ((pcs 32 (cuA 32 rest)).map (λ l=>UJ (str l))).toArray 9)):=λ n=>(Vxj ae n).alloc aa _;have ab:=λ n=>((W n).cell (aB C)).trans C;go_enter func62,ntmps62;go_wp2_with fail;refine QQ y λ n=>?_;have X:=X n;have S:=S n;have m:=qH (HB.out.trans ((W n).mono HB.out.size));have a:=ab n;have F:=H.out _ _ (K (pcs 32 (cuA 32 rest))) m.out S;clear C W S H ab y q1;go_wp2_with fail;refine Q9 X λ I Yt=>?_;rw[<- Yt]at F a m;clear Yt X;go_wp2_with fail;refine F.mono ?_;rintro e V ⟨v,Y⟩;have C:=(v.cell (aB a)).trans a;have r:=m.out.trans (v.mono m.out.size);clear F a v;rcases Y with⟨ns,A,g,j,rfl,N,P⟩|⟨j,rfl⟩
   ·have d:=T.out ns j;rw[e1]at d;have R:Vy (de V A ns/\∀b o,A=Z (O b o)->G w.heap<=b):=⟨N,λ b o e=>Tg m.out.size (P b o e)⟩;clear j N P;by_cases q:p=-1
    ·have f:Vy (dj 1 rest _=Z (ns,cuZ 32 rest)):=d.trans (Q5 (SQ q));subst q;clear d;go_wp2_with fail;go_quiet (fail);go_wp2;go_ret3;exact⟨Vxj r _,SQ ⟨ns,_,A,g,f.out,rfl,R.out⟩⟩
    ·have d1:(p == -1)=false:=Q4.2 q;by_cases i:p=(K ns:Int)
     ·have f:Vy (dj 1 rest _=Z (ns,cuZ 32 rest)):=d.trans (Q5 (SP i));have d2:(p==(K ns:Int))=true:=beq_iff_eq.2 i;clear d i;go_wp2_with fail;go_quiet (fail);go_wp2;go_ret3;exact⟨Vxj r _,SQ ⟨ns,_,A,g,f.out,rfl,R.out⟩⟩
     ·have f:Vy (dj 1 rest _=UP):=d.trans (Q6 (λ h=>h.elim q i));have d2:(p==(K ns:Int))=false:=Q4.2 i;clear d i;go_wp2_with fail;go_quiet (fail);go_wp2;go_ret3;exact⟨Vxj r _,SP ⟨f.out,_,_,rfl⟩⟩
   ·have f:Vy (dj 1 rest _=UP):=t.out j;clear j;go_wp2_with fail;go_quiet (fail);go_wp2;go_ret3;exact⟨Vxj r _,SP ⟨f.out,_,_,rfl⟩⟩
  |false =>
   have u:fl 1 rest Vl=[]:=rfl;rw[u]at H Xs L T t;go_enter func62,ntmps62;go_wp2_with fail;refine QQ y λ n=>?_;have m:=qH (Vxj HB.out n);have a:=QJ n C;have F:=H.out (B.drewN n) UP 0 m.out (Lg _);generalize B.drewN n=w2 at *;clear C H y q1;go_wp2_with fail;refine F.mono ?_;rintro e V ⟨v,Y⟩;have C:=(v.cell (aB a)).trans a;have r:=m.out.trans (v.mono m.out.size);clear F a v;rcases Y with⟨ns,A,g,j,rfl,N,P⟩|⟨j,rfl⟩
   ·have d:=T.out ns j;rw[e1]at d;have R:Vy (de V A ns/\∀b o,A=Z (O b o)->G w.heap<=b):=⟨N,λ b o e=>Tg m.out.size (P b o e)⟩;clear j N P;by_cases q:p=-1
    ·have f:Vy (dj 1 rest _=Z (ns,cuZ 32 rest)):=d.trans (Q5 (SQ q));subst q;clear d;go_wp2_with fail;go_quiet (fail);go_wp2;go_ret3;exact⟨Vxj r _,SQ ⟨ns,_,A,g,f.out,rfl,R.out⟩⟩
    ·have d1:(p == -1)=false:=Q4.2 q;by_cases i:p=(K ns:Int)
     ·have f:Vy (dj 1 rest _=Z (ns,cuZ 32 rest)):=d.trans (Q5 (SP i));have d2:(p==(K ns:Int))=true:=beq_iff_eq.2 i;clear d i;go_wp2_with fail;go_quiet (fail);go_wp2;go_ret3;exact⟨Vxj r _,SQ ⟨ns,_,A,g,f.out,rfl,R.out⟩⟩
     ·have f:Vy (dj 1 rest _=UP):=d.trans (Q6 (λ h=>h.elim q i));have d2:(p==(K ns:Int))=false:=Q4.2 i;clear d i;go_wp2_with fail;go_quiet (fail);go_wp2;go_ret3;exact⟨Vxj r _,SP ⟨f.out,_,_,rfl⟩⟩
   ·have f:Vy (dj 1 rest _=UP):=t.out j;clear j;go_wp2_with fail;go_quiet (fail);go_wp2;go_ret3;exact⟨Vxj r _,SP ⟨f.out,_,_,rfl⟩⟩
 ·have k1:(k==1)=false:=Q4.2 hk;rw[k1]at q1 ad ⊢;have e1:(if k=1 then cuZ 32 rest else [])=[]:=Q6 hk;cases more with
  |true =>
   have X:=FA rest B ac M1;have u:fl k rest Q=pcs 32 rest:=(by unfold fl;rw[Q5 rfl,Q6 hk]);rw[u]at H Xs L T t;have S:=eE.new B (pcs 32 rest) 9;have W:Bq B (E B (.cells ((pcs 32 rest).map (λ l=>UJ (str l))).toArray 9)):=ae.alloc aa _;have m:=qH (HB.out.trans (W.mono HB.out.size));have a:=al W C;have F:=H.out _ _ (K (pcs 32 rest)) m.out S;go_enter func62,ntmps62;go_wp2_with fail;clear C W S H q1;refine Q9 X λ I Yt=>?_;rw[<- Yt]at F a m;clear Yt X;go_wp2_with fail;refine F.mono ?_;rintro e V ⟨v,Y⟩;have C:=(v.cell (aB a)).trans a;have r:=m.out.trans (v.mono m.out.size);clear F a v;rcases Y with⟨ns,A,g,j,rfl,N,P⟩|⟨j,rfl⟩
   ·have d:=T.out ns j;rw[e1]at d;have R:Vy (de V A ns/\∀b o,A=Z (O b o)->G w.heap<=b):=⟨N,λ b o e=>Tg m.out.size (P b o e)⟩;clear j N P;by_cases q:p=-1
    ·have f:Vy (dj k rest _=Z (ns,[])):=d.trans (Q5 (SQ q));subst q;clear d;go_wp2_with fail;go_quiet (fail);go_wp2;go_ret3;exact⟨Vxj r _,SQ ⟨ns,_,A,g,f.out,rfl,R.out⟩⟩
    ·have d1:(p == -1)=false:=Q4.2 q;by_cases i:p=(K ns:Int)
     ·have f:Vy (dj k rest _=Z (ns,[])):=d.trans (Q5 (SP i));have d2:(p==(K ns:Int))=true:=beq_iff_eq.2 i;clear d i;go_wp2_with fail;go_quiet (fail);go_wp2;go_ret3;exact⟨Vxj r _,SQ ⟨ns,_,A,g,f.out,rfl,R.out⟩⟩
     ·have f:Vy (dj k rest _=UP):=d.trans (Q6 (λ h=>h.elim q i));have d2:(p==(K ns:Int))=false:=Q4.2 i;clear d i;go_wp2_with fail;go_quiet (fail);go_wp2;go_ret3;exact⟨Vxj r _,SP ⟨f.out,_,_,rfl⟩⟩
   ·have f:Vy (dj k rest _=UP):=t.out j;clear j;go_wp2_with fail;go_quiet (fail);go_wp2;go_ret3;exact⟨Vxj r _,SP ⟨f.out,_,_,rfl⟩⟩
  |false =>
   have u:fl k rest Vl=[]:=rfl;rw[u]at H Xs L T t;have m:Vy (Bq w B):=HB.out;have F:=H.out B UP 0 m.out (Lg _);go_enter func62,ntmps62;go_wp2_with fail;have a:=C;clear C H q1;go_wp2_with fail;refine F.mono ?_;rintro e V ⟨v,Y⟩;have C:=(v.cell (aB a)).trans a;have r:=m.out.trans (v.mono m.out.size);clear F a v;rcases Y with⟨ns,A,g,j,rfl,N,P⟩|⟨j,rfl⟩
   ·have d:=T.out ns j;rw[e1]at d;have R:Vy (de V A ns/\∀b o,A=Z (O b o)->G w.heap<=b):=⟨N,λ b o e=>Tg m.out.size (P b o e)⟩;clear j N P;by_cases q:p=-1
    ·have f:Vy (dj k rest _=Z (ns,[])):=d.trans (Q5 (SQ q));subst q;clear d;go_wp2_with fail;go_quiet (fail);go_wp2;go_ret3;exact⟨Vxj r _,SQ ⟨ns,_,A,g,f.out,rfl,R.out⟩⟩
    ·have d1:(p == -1)=false:=Q4.2 q;by_cases i:p=(K ns:Int)
     ·have f:Vy (dj k rest _=Z (ns,[])):=d.trans (Q5 (SP i));have d2:(p==(K ns:Int))=true:=beq_iff_eq.2 i;clear d i;go_wp2_with fail;go_quiet (fail);go_wp2;go_ret3;exact⟨Vxj r _,SQ ⟨ns,_,A,g,f.out,rfl,R.out⟩⟩
     ·have f:Vy (dj k rest _=UP):=d.trans (Q6 (λ h=>h.elim q i));have d2:(p==(K ns:Int))=false:=Q4.2 i;clear d i;go_wp2_with fail;go_quiet (fail);go_wp2;go_ret3;exact⟨Vxj r _,SP ⟨f.out,_,_,rfl⟩⟩
   ·have f:Vy (dj k rest _=UP):=t.out j;clear j;go_wp2_with fail;go_quiet (fail);go_wp2;go_ret3;exact⟨Vxj r _,SP ⟨f.out,_,_,rfl⟩⟩
end
section
open Go.RowKit Go.Lib
theorem DA:(prog.info? 9).map (λ i=>(i.zero,i.size,i.bytes))=Z (Z (.string ByteArray.empty),1,16):=kQ
theorem i7 (h:n<=1000000000):K (decDigits n)<=20:=by grind [gO,eO]
theorem FB:∀{l:Ln},(∀n∈l,n<=1000000000)->lens (l.map decDigits)<=20*K l
 |[],_=>aa
 |n::l,h=>by
  have c:=i7 (h n Tp);have b:=FB (l:=l) (λ x a=>h x (Tj _ a));unfold lens at b ⊢;rw[UK,UK,List.sum_cons,Tk];omega
theorem iA {l:Ln}(h:∀n∈l,n<=1000000000):K (dA l)<=21*K l:=by
 cases l with
 |nil=>exact aa
 |cons n l =>
  have a:=FB h;unfold dA;rw[UK]at a ⊢;rw[join_length,TA];simp only[Tk,Ut]at a ⊢;omega
def kE (l:List Lu):List Value:=l.map (λ x=>UJ (str x))
theorem rP {A:Oa}{cap:Nat}{l:Ln}(w:M)(E9:Env w)(d:de w A (l.map (λ n:Nat=>(n:Int))))(hl:K l<=1000)(m:∀n∈l,n<=1000000000) :
  Rq 59 #[.slice A (K l) cap] w (.string (str (dA l))):=by
 obtain⟨X,hi,g⟩:=Option.map_eq_some_iff.1 DA;simp only[Prod.mk.injEq]at g;obtain⟨VZ,Wa,Wc⟩:=g;have Yn:=iA m;have HX:=qH d;have HB:=qH m;have HE:Vy (∀I,Bq w I->Env I):=λ I m=>E9.grown m;clear d m E9;go_enter func59,ntmps59;go_wp2;go_loopw [3,8] (λ v iv wr=>∃(i:Nat),i<=K l/\iv=J i/\G' wr (G w.heap) 9 1 v i (kE ((l.map decDigits).take i))/\Bq w wr)
  (λ _ i _=>K l-(intOf i).toNat)
 case atStart=>exact⟨0,Te _,rfl,To _ _ _ _,ae⟩
 case round =>
  obtain⟨i,XC,rfl,c,f⟩:=hrel;by_cases VS:i<K l
  ·obtain⟨x,d⟩:∃x,l[i]? = Z x:=⟨_,SU VS⟩;obtain⟨b,o,eA,Wv,hc⟩:=(HX.out.below f) i (x:Int) (by rw[Tz,d];rfl);subst eA;have X8:=HB.out x (Ti d);have i1:(i:Int)<(K l:Int):=U;have r:=jw (x:Int) U U wr (HE.out _ f);have ab:=i7 X8;have HT:Vy (kE ((l.map decDigits).take (i+1))=kE ((l.map decDigits).take i)++[.string (str (decDigits x))]):=by
    unfold Vy;have s:(l.map decDigits)[i]? = Z (decDigits x):=(by rw[Tz,d];rfl);obtain⟨X7,he⟩:=Th.1 s;rw[Tx X7,he];unfold kE;rw[UE];rfl
   rw[eO]at r;have N:(⟨(decDigits x).toArray⟩:ByteArray)=str (decDigits x):=rfl;rw[N]at r;clear d N;generalize decDigits x=dx at *;go_wp2_with fail;refine Q9 r λ H p=>?_;have B:=ak c p;have T:=aj f p;have V:=T.size;clear c r p f hc;go_wp2_with (at_builtin;refine Vxk _ rfl _ _ 22 rfl (G w.heap) 9 X (.string ByteArray.empty) 1 16 Vyi hi VZ Wa Wc rfl dQ _ _ _ rfl (B.alloc _) (O (G H.heap) 0) 1 1 [.string (str dx)] rfl rfl ?c1 ?c2 ?c3 ?c4 ?c5 ?_)
   case c1=>exact cell_one_new _ _ _
   case c2=>intro z g;simp at g;subst g;rfl
   case c3=>unfold maxLen;omega
   case c4=>omega
   case c5=>simp;omega
   intro W F P R _;have B6:Bq w F:=(T.alloc V _).grown R sU (λ q Y=>(B.lt q Y).1);have O6:G' F (G w.heap) 9 1 W (i+1) (kE ((l.map decDigits).take (i+1))):=by
    rw[HT.out];exact P
   clear P R B;go_wp2;go_roundw
   case rel=>exact⟨i+1,U,gQ,O6,B6⟩
   case measure=>simp[intOf];omega
  ·have e:i=K l:=U;subst e;have eT:(l.map decDigits).take (K l)=l.map decDigits:=List.take_of_length_le (by rw[TA];exact aa);rw[eT]at c;obtain⟨C,a,rfl,k⟩:=fu c;have S:=bX f;have hj:Rq 57 #[.slice C (K l) a,.string ⟨#[32]⟩] wr (.string (str (dA l))):=by
    rcases UT (K l) with y|y
    ·have e0:l=[]:=TF.1 y;subst e0;exact(mR C a [32] wr).mono λ e I ⟨h1,h2⟩=>⟨h1,by rw[h2];exact ae⟩
    ·have L:∀(j:Nat) x,(l.map decDigits)[j]? = Z x->∃b,C=Z (O b 0)/\b<G wr.heap/\K l<=a/\Cq wr b j (.string (str x)):=λ j x d=>k j _ (by unfold kE;rw[Tz,d];rfl);obtain⟨b,rfl,u,t,_⟩:=L 0 _ (SU (by rw[TA];exact y));have:=Ld b 0 a (l.map decDigits) [32] wr (λ j x d=>by
      obtain⟨b',e,_,_,h⟩:=L j x d;cases e;rw[Tm];exact h) u (by rw[TA];omega) (by rw[TA];exact t) (by
      have:K (join (l.map decDigits) [32])=K (dA l):=rfl;omega)
     rw[TA]at this;exact this
   clear c k f;go_wp2_with fail;refine Q9 hj λ H p=>?_;go_wp2;go_ret;exact⟨rfl,S.out.trans (p.mono S.out.size)⟩
theorem xE (k:Nat)(g:k<=8)(w:M)(E9:Env w) :
  Rq 33 #[.iface 42 (J (k:Int))] w (.string (str (bU k))):=by
 have a:=jw (k:Int) U U w E9;rw[eO]at a;have b:(⟨(decDigits k).toArray⟩:ByteArray)=str (decDigits k):=rfl;rw[b]at a;have h:(str (decDigits k)).size<=20:=by rw[ar];exact i7 U
 have c:Vy ((⟨#[101,114,114,111,114,32]⟩:ByteArray)++str (decDigits k)=str (bU k)):=bV [101,114,114,111,114,32] (decDigits k);have f:=QK (J (k:Int));clear b;generalize str (decDigits k)=i at *;go_enter func33,ntmps33;go_wp2_with (go_at_call 52;refine Q9 a λ e d=>?_);go_ret;exact⟨by rw[<- c.out];rfl,d⟩
end
section
open Go.RowKit Go.Lib
theorem PV (w:M)(s d:Nat):de (E w (VP #[J (s:Int),J (d:Int)] 3)) (Z (O (G w.heap) 0)) ([s,d].map (λ n:Nat=>(n:Int))):=by grind [de,Go.World.size_alloc,Go.World.cell?_alloc_new]
theorem jU {a b:ByteArray}(d:a.size<=1000000)(c:b.size<=1000000)(w:M):(Op.stringOp .add a b).run Vyj w=.ok (.string (a++b)) w:=by grind [Go.Proofs.Tryz.prog,Go.run_string_add]
theorem Hu {A:Oa}{cap s d f:Nat}{Vq:Ln}(w:M)(E9:Env w)(V:de w A (Vq.map (λ n:Nat=>(n:Int))))(X:K Vq<=1000)(B:∀n∈Vq,n<=1000000)(W:s<=1000000)(Y:d<=1000000)(F:f<=8) :
  Rq 54 #[.agg #[.slice A (K Vq) cap,J (s:Int),J (d:Int),J (f:Int)]] w (.string (str (wj Vq s d f))):=by
 have m:Bq w (E w (VP #[.slice A (K Vq) cap,J (s:Int),J (d:Int),J (f:Int)] 92)):=ae.alloc aa _;have q:∀o,D (E w (VP #[.slice A (K Vq) cap,J (s:Int),J (d:Int),J (f:Int)] 92)) (O (G w.heap) o)=#[Value.slice A (K Vq) cap,J (s:Int),J (d:Int),J (f:Int)][o]? := λ o=>by rw[Tb]
 have z:=q 0;have y:=q 1;have x:=q 2;have T:=q 3;have p:=E9.grown m;have j:=V.below m;clear q V E9;by_cases N:f=0
 ·have R:Vy (wj Vq s d f=dA [s,d]++[58,32]++dA Vq):=Q5 N;subst N;have z0:((0:Nat):Int)=0:=rfl;rw[z0]at m z y x T p j ⊢;have VY:((0:Int) != 0)=false:=rfl;have z1:(str (dA [s,d])).size<=100:=by
   rw[ar];have:=iA (l:=[s,d]) (by intro n k;simp at k;omega);simp only[Tk,Ut]at this;omega
  have z2:(str (dA Vq)).size<=30000:=by
   rw[ar];have:=iA (l:=Vq) (λ n k=>by have:=B n k;omega);omega
  have HS:Vy (str (dA [s,d])++(⟨#[58,32]⟩:ByteArray)++str (dA Vq)=str (dA [s,d]++[58,32]++dA Vq)):=by
   unfold Vy;have e:(⟨#[58,32]⟩:ByteArray)=str [58,32]:=rfl;rw[e,bV,bV]
  have u:Vy (∀g,Bq (E w (VP #[.slice A (K Vq) cap,J (s:Int),J (d:Int),J 0] 92)) g->Zq 59 #[.slice (Z (O (G g.heap) 0)) 2 2] (E g (VP #[J (s:Int),J (d:Int)] 3)) _):=λ g i=>rP (cap:=2) (l:=[s,d]) _ ((p.grown i).grown (ae.alloc aa _)) (PV g s d) sQ (by intro n k;simp at k;omega);have t:Vy (∀g,Bq (E w (VP #[.slice A (K Vq) cap,J (s:Int),J (d:Int),J 0] 92)) g->Zq 59 #[.slice A (K Vq) cap] g _):=λ g i=>rP (cap:=cap) (l:=Vq) g (p.grown i) (j.below i) U (λ n k=>by have:=B n k;omega);have v:=bX m;have P:(⟨#[58,32]⟩:ByteArray).size=2:=rfl;have A1:=jU (a:=str (dA [s,d])) (b:=⟨#[58,32]⟩) U U;have A2:=jU (a:=str (dA [s,d])++⟨#[58,32]⟩) (b:=str (dA Vq)) (by rw[ByteArray.size_append];omega) U;clear p j B W Y F m X P;generalize str (dA [s,d])=S at *;generalize str (dA Vq)=sb at *;generalize S++(⟨#[58,32]⟩:ByteArray)=sc at *;generalize K Vq=n at *;generalize L:E w (VP #[.slice A n cap,VN VO (s:Int),VN VO (d:Int),VN VO 0] 92)=g at *;have C:Vy (∀I,Bq g I->Cq I (G w.heap) 0 (.slice A n cap)/\Cq I (G w.heap) 1 (J (s:Int))/\Cq I (G w.heap) 2 (J (d:Int))):=λ I h=>⟨(h.cell (SZ g _ z)).trans z,(h.cell (SZ g _ y)).trans y,(h.cell (SZ g _ x)).trans x⟩;have e0:Bq g g.drew:=ae.drew;have e1:Bq g (E g (VP #[J (s:Int),J (d:Int)] 3)).drew:=(ae.alloc aa _).drew;have YU:Zq 59 #[.slice (Z (O (G g.heap) 0)) 2 2] (E g (VP #[J (s:Int),J (d:Int)] 3)).drew (λ e I=>e=VJ (.string S)/\Below (G ((E g (VP #[J (s:Int),J (d:Int)] 3)).drew).heap) (E g (VP #[J (s:Int),J (d:Int)] 3)).drew I):=u.out _ e0;clear u;go_enter func54,ntmps54;go_upto_region 3 with fail
  clear z y x T;go_region_held3 (λ I=>D I (O (G w.heap) 0)=Z (.slice A n cap)/\Cq I (G w.heap) 1 (J (s:Int))/\Cq I (G w.heap) 2 (J (d:Int))) (first|with_reducible exact C.out _ e0|with_reducible exact C.out _ e1|with_reducible exact C.out _ e2|with_reducible exact C.out _ e3)
   (first
    |(go_at_call 59;refine Q9 YU λ w2 H=>?_;have e2:=aj e1 H;have P:=t.out _ e2;clear YU t)
    |(go_at_call 59;refine Q9 P λ w3 hb3=>?_;have e3:=aj e2 hb3))
  go_wp2;go_ret;rw[R.out];exact⟨by rw[<- HS.out];rfl,v.out.trans (e3.mono v.out.size)⟩
 ·have R:Vy (wj Vq s d f=bU f):=Q6 N;have VY:((f:Int) != 0)=true:=bne_iff_ne.2 U;have he:=xE f F _ p;have v:=bX m;clear j B W Y F m p X;generalize K Vq=n at *;generalize L:E w (VP #[.slice A n cap,VN VO (s:Int),VN VO (d:Int),VN VO (f:Int)] 92)=g at *;go_enter func54,ntmps54;go_wp2_with fail;refine Q9 he λ w2 B2=>?_;go_wp2;go_ret;rw[R.out];exact⟨rfl,v.out.trans (B2.mono v.out.size)⟩
end
section
open Go.RowKit Go.Lib
theorem Li (W H:Int)(cs:Nat->Int)(n:Nat):0<=edE W H cs n:=by grind [edE]
theorem Lj (W H:Int)(cs:Nat->Int)(n:Nat):edE W H cs n<=2:=by grind [edE]
theorem Lk (t:Lu)(N':Int):0<=ldE t N':=by grind [ldE,split,decide]
theorem AV {cap:Nat}{A:Oa}(w:M)(a:40<n) :
  Eq9 56 #[Pq sb,.slice A n cap] w (.tuple #[.slice UP 0 0,.iface 42 (J 2)]):=by
 have h:(40:Int)<(n:Int):=U;go_enter func56,ntmps56;go_wp2;go_ret2;exact⟨rfl,rfl⟩
end
section
open Go.RowKit Go.Lib
section
variable {W H : Int} {Y : Nat → Bool}
end
theorem Hv {N':Nat}{W H V c d:Int}{Y:Bn}(w:M)(S:Sv w lo hi sb W H V Y N') :
  Zq 53 #[Pq sb,J c,J d] w λ e I=>Bq w I/\(((inB W H c=Vl\/(inB W H c=Q/\(d<0\/8<=d)))/\e=VJ (.tuple #[J 0,.iface 42 (J 1)]))\/(inB W H c=Q/\∃k:Nat,d=(k:Int)/\k<8/\e=VJ (.tuple #[J (clr W H Y (c%W) (c/W) k:Nat),.nilIface]))):=by
 obtain⟨rb,pb,mb,lb,tb,gb,N,x,V2,S⟩:=S;have i:=S.c3;cases hi:inB W H c with
 |false =>
  have h:=GP c d w S.ta hi;go_enter func53,ntmps53;go_wp2_with fail;refine QQ h λ m=>?_;go_wp2;go_ret2;exact⟨Vxj ae _,SQ ⟨SQ trivial,rfl⟩⟩
 |true =>
  have q:0<=c/\c<W*H:=Q1 hi;obtain⟨b,rfl⟩:∃b:Nat,c=(b:Int):=⟨c.toNat,U⟩;by_cases a:d<0\/8<=d
  ·have h:=GQ b d w S.ta hi a;have g:=qH a;clear a;go_enter func53,ntmps53;go_wp2_with fail;refine QQ h λ m=>?_;go_wp2;go_ret2;exact⟨Vxj ae _,SQ ⟨SP ⟨trivial,g.out⟩,rfl⟩⟩
  ·obtain⟨k,rfl⟩:∃k:Nat,d=(k:Int):=⟨d.toNat,U⟩;have f:k<8:=U;have h:=Kh b k w S.ta hi f;clear a;go_enter func53,ntmps53;go_wp2_with fail;refine QQ h λ m=>?_;go_wp2;go_ret2;exact⟨Vxj ae _,SP ⟨trivial,k,rfl,f,rfl⟩⟩
end
section
open Go.RowKit Go.Lib
structure Ses where
 W:Nat
 H:Nat
 N':Nat
 V:Int
 Y:Bn
def nsF (ns:List Int) (i:Nat):Int:=ns.getD i 0
def okS:Lu:=[111,107]
def iJ (Vq:Ln) (s d f:Int):Lu:=wj Vq s.toNat d.toNat f.toNat
noncomputable def stN (s:Ses):Ln:=[((s.W:Int)*s.H).toNat,frN s.Y ((s.W:Int)*s.H).toNat,K (crs s.W s.H s.Y ((s.W:Int)*s.H).toNat),edN s.W s.H s.Y (crs s.W s.H s.Y ((s.W:Int)*s.H).toNat)/2,mr s.W s.H s.Y s.N'/2,(lvK s.W s.H s.Y s.N').1+1,s.V.toNat]
def Sq (ns:List Int) (s:Ses) (t:Lu):Prop:=∃l:List (Ln×Int×Int×Int),K l=K ns/2/\(∀i x,l[i]? = Z x->Rt s.W s.H s.Y (nsF ns (2*i)) (nsF ns (2*i+1)) x.1 x.2.1 x.2.2.1 x.2.2.2)/\t=join (l.map λ x=>iJ x.1 x.2.1 x.2.2.1 x.2.2.2) [59,32]
def kF (k:Nat) (ns:List Int) (s:Ses) (t:Lu) (x':Option Ses):Prop :=
 (k=4/\x'=Z s/\∃c d,ns=[c,d]/\(((inB s.W s.H c=Vl\/d<0\/8<=d)/\t=bU 1)\/(inB s.W s.H c=Q/\∃j:Nat,d=j/\j<8/\t=decDigits (clr s.W s.H s.Y (c%s.W) (c/s.W) j)))) \/
 (k=5/\x'=Z s/\∃a b Vq sx dx er,ns=[a,b]/\Rt s.W s.H s.Y a b Vq sx dx er/\t=iJ Vq sx dx er) \/
 (k=6/\x'=Z s/\((K ns%2≠0/\t=bU 3)\/(K ns%2=0/\80<K ns/\t=bU 2)\/(K ns%2=0/\K ns<=80/\Sq ns s t))) \/
 (k=7/\x'=Z s/\ns=[]/\t=dA (stN s)) \/
 (k=8/\x'=Z s/\ns=[]/\t=swp 10 47 (eu s.Y s.W s.H)) \/
 ((k=2\/k=3)/\((edE s.W s.H (nsF ns) (K ns)≠0/\x'=Z s/\t=bU (edE s.W s.H (nsF ns) (K ns)).toNat)\/(edE s.W s.H (nsF ns) (K ns)=0/\x'=Z { s with V:=s.V+(edK s.W s.H s.Y (nsF ns) (λ _=>k==2) (K ns):Nat),Y:=edG s.W s.H s.Y (nsF ns) (λ _=>k==2) (K ns) }/\t=decDigits (edK s.W s.H s.Y (nsF ns) (λ _=>k==2) (K ns)))))
def oY (e:Ending) (t:Lu):Prop:=e=VJ (.tuple #[.string (str t),.nilIface])\/∃(v:Lu) (f:Nat),1<=f/\f<=8/\t=bU f/\e=VJ (.tuple #[.string (str v),.iface 42 (J (f:Int))])
theorem O8 {W H:Int}{Y:Bn}(c:1<=W)(g:W*H<=256):∀{l:Ln}{a t s d:Int},Cp W H Y a l t s d->∀n∈l,n<256
 |[],_,_,_,_,_,n,b=>by simp at b
 |r::l,a,t,s,d,⟨k,f,e⟩,n,b=>by
  rcases TD.1 b with rfl|b
  have q:0<=(n:Int)/\(n:Int)<W*H:=Q1 (f.in' c);omega;exact O8 c g e n b
theorem Rt.lt {W H:Int}{Y:Bn}{s d err:Int}{Vq:Ln}(h:Rt W H Y a t Vq s d err)(g:1<=W)(j:W*H<=256):∀n∈Vq,n<256:=by
 by_cases c:err=0;have f:=(h.ok c).1;obtain⟨l,e,i,_⟩:=h.path f c;rw[e];intro n b;rcases TD.1 b with rfl|b
 have q:0<=a/\a<W*H:=Q1 (pR f).1.1;omega;exact O8 g j i n b;rw[(h.err_no c).2.2];simp
theorem Rt.err8 {W H:Int}{Y:Bn}{s d err:Int}{Vq:Ln}(h:Rt W H Y a t Vq s d err):err=0\/err=1\/err=4\/err=5:=by
 rcases xu W H Y a t with c|c|c
 by_cases b:∃p q,Wk (aF W H Y) a t p q;obtain⟨p,q,b⟩:=b;exact SQ (h.yes c b).1;exact SP (SP (SP (h.no c (λ p q k=>b ⟨p,q,k⟩)).1));have:=(h.bad U).1;omega;have:=(h.bad U).1;omega
theorem qE {p:Int->Bool}(a:∀n,h n<=256):∀N,eV h p N<=256*N
 |0=>aa
 |N+1=>by
  have b:=qE (p:=p) a N;have:=a N;unfold eV;split<;>omega
theorem Sv.addN_le {N':Nat}{W H V:Int}{Y:Bn}(S:Sv w lo hi sb W H V Y N'):mr W H Y N'<=65536:=by
 obtain⟨b,c,h,g⟩:=S.side;obtain⟨rb,pb,mb,lb,tb,gb,N,x,V2,S⟩:=S;obtain⟨p,q,k,i,f,d,o,V⟩:=S.lv;have r:=bG b c h g;have B:=Btw.rds (show (0:Int)<=16 by omega) ((iF (W:=W) (H:=H) (Y:=Y) b).btw b c h g) d;have l:∀n,K (i.es n)<=256:=λ n=>gF.len (L:=crs W H Y (W*H).toNat) (λ a=>⟨B.lrd.esy.ord a,λ e m=>(B.cor.ends m).2⟩) (λ n j=>by have:=(cU.1 j).1;omega) n;unfold mr;rw[pD d o];exact qE (λ n=>Tg (TH _ _) (l n)) 256
theorem PW {A:Oa}{Vq:Ln}(h:bP w A (K Vq) (λ i=>((Vq.getD i 0:Nat):Int))):de w A (Vq.map (λ n:Nat=>(n:Int))):=by grind [bP,de]
theorem FC {W H:Int}{Y:Bn}{s d err:Int}{Vq:Ln}{A:Oa}{cap:Nat}(w:M)(E9:Env w)(b:1<=W)(f:W*H<=256)(R:Rt W H Y a t Vq s d err)(c:bP w A (K Vq) (λ i=>((Vq.getD i 0:Nat):Int))) :
  Rq 54 #[.agg #[.slice A (K Vq) cap,J s,J d,J err]] w (.string (str (iJ Vq s d err))):=by
 have k:=R.bd;have j:=R.err8;obtain⟨g,rfl⟩:∃n:Nat,s=n:=⟨s.toNat,U⟩;obtain⟨m,rfl⟩:∃n:Nat,d=n:=⟨d.toNat,U⟩;obtain⟨l,rfl⟩:∃n:Nat,err=n:=⟨err.toNat,U⟩;have h:=R.len;exact Hu w E9 (PW c) U (λ n e=>by have:=R.lt b f n e;omega) U U U
end
end Go.Proofs.YtikdmenjibkgiaaGreatDoor
