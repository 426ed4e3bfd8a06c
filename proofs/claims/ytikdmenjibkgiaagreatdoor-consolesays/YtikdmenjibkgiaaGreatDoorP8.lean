/- Texts laid together. -/
import Derived.Test.YtikdmenjibkgiaaGreatDoorP3
import Derived.Test.YtikdmenjibkgiaaGreatDoorP7
namespace Go.Proofs.YtikdmenjibkgiaaGreatDoor
open Go.Proofs.Tryz renaming prog->Vyj
open _root_.Array renaming size->G
open _root_.Nat renaming zero_le->Te,not_lt_zero->TW,le_trans->Tg,zero_add->Tm
open Go.World renaming ownsRow_nil->To,cell?_alloc_at->SR,cell?->D,alloc->E,ownsRow->G'
open _root_.Int renaming toNat_of_nonneg->TE,add_comm->T9
open _root_.List renaming getElem_mem->TY,getElem_of_mem->TR,length_cons->Tk,getElem?_eq_some_iff->Th,length_eq_zero_iff->TF,take_add_one->Ty,length->K
open _root_.Or renaming inr->SP,inl->SQ
open Go.Value renaming int->VN,ownBlock->M'
open Go.IntKind renaming i64->VO
open Go.Proofs.Tryz
open _root_.Option renaming some->Z,none->UP
open _root_.Bool renaming true->Q,false->Vl
open Go renaming World->M,Value->Vr,below_drewN->Vxj,wpList_append_own->Vxk
open Go.RowKit renaming Hid->Vy
open Go.Ending renaming returned->VJ
open Go.Obj renaming cells->VP
variable {W H x y V c:Int}{b rb pb mb n cap xb k N lb vb eb top:Nat}{w I:M}{f:Int->Option Vr}{F:Nat->Prop}
set_option maxHeartbeats 8000000
set_option maxRecDepth 1000000
open Go.RowKit
theorem xV (w:M)(m k:Nat):(w.drewN m).drewN k=w.drewN (m+k):=by simp
def rcB (W H:Int) (Y:Bn) (x y:Int) (i j:Nat):Bool:=!aM W H Y (x+(2*(i:Int)-1)) (y+(2*(j:Int)-1))&&(aM W H Y (x+(2*(i:Int)-1)) y&&aM W H Y x (y+(2*(j:Int)-1)))
theorem MT (W H:Int)(Y:Bn)(x y:Int):rcB W H Y x y 1 0=crB W H Y x y 1/\rcB W H Y x y 1 1=crB W H Y x y 3/\rcB W H Y x y 0 1=crB W H Y x y 5/\rcB W H Y x y 0 0=crB W H Y x y 7:=by
 unfold rcB crB;refine⟨?_,?_,?_,?_⟩<;>exact Bool.and_comm _ _
theorem Ek {Y:Bn}{i j:Nat}(f:i<2)(e:j<2)(h:rcB W H Y x y i j=Q):mj W H Y x y=true:=by
 obtain⟨d,c,b,a⟩:=MT W H Y x y;have:(i=0\/i=1)/\(j=0\/j=1):=U;obtain⟨rfl|rfl,rfl|rfl⟩:=this;exact gT (j:=3) U (by rw[<- a];exact h);exact gT (j:=2) U (by rw[<- b];exact h);exact gT (j:=0) U (by rw[<- d];exact h);exact gT (j:=1) U (by rw[<- c];exact h)
theorem wz {Y:Bn}(h:∀i j,i<2->j<2->rcB W H Y x y i j=Vl):mj W H Y x y=false:=by
 obtain⟨e,d,c,b⟩:=MT W H Y x y;refine sR λ j a=>?_;have:j=0\/j=1\/j=2\/j=3:=U;rcases this with rfl|rfl|rfl|rfl
 grind
 grind
 grind
 grind
theorem MU {Y:Bn}{r:Bool}(w:M)(g:bo w b W H V Y)(hx:Int.tmod c W=x)(hy:Int.tdiv c W=y)(f:(aM W H Y x y&&mj W H Y x y)=r)(x1:0<=x)(X:x<16)(T:0<=y)(S:y<16) :
  Dq 158 #[Pq b,J c] w (.bool r):=by
 have c0:=g.c0;have Wm:=g.w1;have VY:W≠0:=U;have L:IntKind.i64.wrap y=y:=by unfold IntKind.wrap;simp[IntKind.bits,IntKind.signed];omega
 cases B:aM W H Y x y with
 |false =>
  rw[B]at f;simp only[Bool.false_and]at f;subst f;go_enter func158,ntmps158;go_wp2_with (go_at_call 110;refine QQ (gY aQ _ g) λ m=>?_);go_ret;exact⟨rfl,_,rfl⟩
 |true =>
  rw[B]at f;simp only[Bool.true_and]at f;have I:=qH f;clear f;go_enter func158,ntmps158;go_wp2_with (go_at_call 110;refine QQ (gY aQ _ g) λ m=>?_);go_loopg [7] (2:Nat) (λ t u wr=>∃i:Nat,i<=2/\t=2-i/\u=J (2*(i:Int)-1)/\Vy (∀l d,l<i->d<2->rcB W H Y x y l d=Vl)/\∃m,wr=w.drewN m)
  case atStart=>exact⟨0,Te _,rfl,rfl,λ l _ n=>Q8 n U,m,rfl⟩
  case round =>
   obtain⟨i,hi,WV,rfl,C,m,rfl⟩:=hrel;by_cases R:i<2
   ·have WY:2*(i:Int)-1<2:=U;go_wp2;go_loopg [8] (2:Nat) (λ t u wr=>∃j:Nat,j<=2/\t=2-j/\u=J (2*(j:Int)-1)/\Vy (∀d,d<j->rcB W H Y x y i d=Vl)/\∃m,wr=w.drewN m)
    case atStart=>exact⟨0,Te _,rfl,rfl,λ d n=>Q8 n U,m,rfl⟩
    case round =>
     obtain⟨j,n,N,rfl,F,m2,rfl⟩:=hrel;by_cases o:j<2
     ·have P:2*(j:Int)-1<2:=U;have a:rcB W H Y x y i j=(!aM W H Y (x+(2*(i:Int)-1)) (y+(2*(j:Int)-1))&&(aM W H Y (x+(2*(i:Int)-1)) y&&aM W H Y x (y+(2*(j:Int)-1)))):=rfl;have go_on:rcB W H Y x y i j=Vl->Vy (∀d,d<j+1->rcB W H Y x y i d=Vl):=λ h d k=>by
       by_cases e:d=j
       ·rw[e];exact h
       ·exact F.out d U
      cases s:aM W H Y (x+(2*(i:Int)-1)) (y+(2*(j:Int)-1)) with
      |true =>
       rw[s]at a;have z:=go_on (by rw[a];rfl);clear a go_on;cases q:aM W H Y (x+(2*(i:Int)-1)) y<;>cases p:aM W H Y x (y+(2*(j:Int)-1))
       all_goals
        go_wp2_with (go_at_call 110;refine QQ (gY aQ _ (g.drewN _)) λ A=>?_);go_roundg (2-(j+1))
       all_goals first|omega|exact⟨j+1,U,rfl,gQ,z,_,rfl⟩
      |false =>
       cases q:aM W H Y (x+(2*(i:Int)-1)) y<;>cases p:aM W H Y x (y+(2*(j:Int)-1))
       case true.true =>
        rw[s,q,p]at a;have v:=qH (Ek R o a);clear a go_on;go_wp2_with (go_at_call 110;refine QQ (gY aQ _ (g.drewN _)) λ A=>?_);go_ret;exact⟨by rw[<- I.out,v.out];rfl,_,rfl⟩
       all_goals
        rw[s,q,p]at a;have z:=go_on (by rw[a];rfl);clear a go_on;go_wp2_with (go_at_call 110;refine QQ (gY aQ _ (g.drewN _)) λ A=>?_);go_roundg (2-(j+1))
       all_goals first|omega|exact⟨j+1,U,rfl,gQ,z,_,rfl⟩
     ·have e:j=2:=U;subst e;go_wp2;go_roundg (2-(i+1))
      case measure=>omega
      case rel =>
       refine⟨i+1,U,rfl,gQ,λ l d X7 k=>?_,_,rfl⟩;by_cases e:l=i
       ·rw[e];exact F.out d k
       ·exact C.out l d U k
   ·have e:i=2:=U;subst e;have v:=qH (wz C.out);go_wp2;go_ret;exact⟨by rw[<- I.out,v.out];rfl,_,rfl⟩
theorem xW {Y:Bn}{r:Bool}(h:aY W H Y c=r)(w:M)(g:bo w b W H V Y)(a:inB W H c=Q) :
  Dq 158 #[Pq b,J c] w (.bool r):=by
 obtain⟨f,j,e,i⟩:=dY g.w1 a;have d:0<=c/\c<W*H:=Q1 a;have k:=g.w2;have l:=g.h2;exact MU w g (Int.tmod_eq_emod_of_nonneg d.1) (Int.tdiv_eq_ediv_of_nonneg d.1) h f U e U
theorem zt {Y:Bn}(w:M)(g:bo w b W H V Y)(C:b<G w.heap) :
  Zq 114 #[Pq b] w λ e I=>∃v,e=VJ v /\
   I.ownsRow (G w.heap) 3 1 v (K (crs W H Y (W*H).toNat)) (aH (crs W H Y (W*H).toNat))/\Bq w I:=by
 obtain⟨z,B,R,P,N⟩:=info_parts Tryz.Vxg;obtain⟨k1,k2⟩:=bG g.w1 g.w2 g.h1 g.h2;go_enter func114,ntmps114;go_wp2;go_loopw [3,4] (λ v i wr=>∃k:Nat,(k:Int)<=W*H/\i=J k/\G' wr (G w.heap) 3 1 v (K (crs W H Y k)) (aH (crs W H Y k))/\Bq w wr)
  (λ _ i _=>1000-(intOf i).toNat)
 case atStart=>exact⟨0,U,rfl,To _ _ _ _,ae⟩
 case round =>
  obtain⟨k,hk,rfl,a,d⟩:=hrel;have hl:=fx W H Y k;have l:=g.below d C;have c0:=l.c0;have F:=l.c1;have L:=d.size;by_cases T:(k:Int)<W*H
  ·have c:=By W H Y k;have s:inB W H (k:Nat)=true:=Q2 ⟨U,T⟩;cases o:aY W H Y (k:Nat) with
   |false =>
    rw[o]at c;have h:crs W H Y (k+1)=crs W H Y k:=by simpa using c
    have HS:=qH h;clear h c;go_wp2;go_quiet (fail);go_wp2_with (go_at_call 158;refine QQ (xW o _ (l.drewN _) s) λ m=>?_);go_roundw
    case rel=>exact⟨k+1,U,gQ,by rw[HS.out];exact a,Vxj d _⟩
    case measure=>simp[intOf];omega
   |true =>
    rw[o]at c;have h:crs W H Y (k+1)=crs W H Y k++[k]:=by simpa using c
    have HS:=qH h;clear h c;go_wp2;go_quiet (fail);go_wp2_with (first|(go_at_call 158;refine(xW o _ (l.drewN _) s).mono ?_;rintro e I ⟨rfl,m,f⟩;rw[xV]at f;subst f)|(at_builtin;refine Vxk _ rfl _ _ 60 rfl (G w.heap) 3 z (J 0) 1 8 underlying60 B R P N rfl dQ _ _ _ rfl (World.ownsRow.alloc a _) (O (G wr.heap) 0) 1 1 [J k] rfl rfl ?c1 ?c2 ?c3 ?c4 ?c5 ?_))
    case c1 =>
     intro j u n
     match j,n with
     |0,n =>
      simp at n;subst n;simp only[Addr.add];exact SR (w:=wr.drewN (nq+m)) #[J k] 3 (G wr.heap) 0 rfl
    case c2=>intro u r;simp at r;subst r;rfl
    case c3=>unfold maxLen;omega
    case c4=>omega
    case c5=>simp;omega
    intro y p t x _;have S:=λ q A=>(a.lt q A).1;have B1:Bq w p:=((Vxj d (nq+m)).alloc L _).grown x sU S;have X:G' p (G w.heap) 3 1 y (K (crs W H Y (k+1))) (aH (crs W H Y (k+1))):=by
     rw[HS.out]
     simpa [aH]using t
    clear t x a d l c0 F;go_wp2;go_roundw
    case rel=>exact⟨k+1,U,gQ,X,B1⟩
    case measure=>simp[intOf];omega
  ·have e:(W*H).toNat=k:=U;have HE:=qH e;clear e;go_wp2;go_quiet (fail);go_wp2;go_ret;exact⟨_,rfl,by rw[HE.out];exact a,Vxj d _⟩
section
open Go.RowKit Go.Maps Go.Sort Go.Shelf
section
variable {w I : M} {rb pb mb : Nat} {W H V c : Int} {Y : Nat → Bool} {f : Int → Option Vr}
theorem EOk.X' (E9:EOk w pb W H Y f c)(G9:GSt w rb pb mb W H V Y f)(j:ai (λ k=>k=mb) w I){d:Int->Option Vr}(a:d c=f c):EOk I pb W H Y d c:=by
 refine⟨λ h=>?_,λ h=>a.trans (E9.no h)⟩;obtain⟨v,l,i,b,g,e⟩:=E9.yes h;exact⟨v,l,a.trans i,br b j (bK b G9.mp),g,e⟩
theorem EOk.below (E9:EOk w pb W H Y f c)(a:Bq w I):EOk I pb W H Y f c:=by
 refine⟨λ h=>?_,E9.no⟩;obtain⟨v,l,g,e,d,b⟩:=E9.yes h;exact⟨v,l,g,ak e a,d,b⟩
end
def eh (w:M) (rb pb mb:Nat) (W H V:Int) (Y:Bn):Prop:=∃f,GSt w rb pb mb W H V Y f/\∀c:Int,EOk w pb W H Y f c
theorem eh.below {Y:Bn}(G9:eh w rb pb mb W H V Y)(a:Bq w I):eh I rb pb mb W H V Y:=by
 obtain⟨f,d,b⟩:=G9;exact⟨f,d.below a,λ c=>(b c).below a⟩
def dt (w:M) (rb pb mb:Nat) (W H V:Int) (Y:Bn) (Q9:Nat->Prop):Prop:=∃f,GSt w rb pb mb W H V Y f/\(∀c:Int,EOk w pb W H Y f c)/\∀c v g,f c=Z v->M' v=Z g->Q9 g
section
variable {w I : M} {rb pb mb : Nat} {W H V : Int} {Y : Nat → Bool} {Q9 Q' : Nat → Prop}
theorem dt.graph (G9:dt w rb pb mb W H V Y Q9):eh w rb pb mb W H V Y:=by
 obtain⟨f,b,a,_⟩:=G9;exact⟨f,b,a⟩
theorem dt.below (G9:dt w rb pb mb W H V Y Q9)(a:Bq w I):dt I rb pb mb W H V Y Q9:=by
 obtain⟨f,e,d,b⟩:=G9;exact⟨f,e.below a,λ c=>(d c).below a,b⟩
theorem dt.mono (G9:dt w rb pb mb W H V Y Q9)(h:∀g,Q9 g->Q' g):dt w rb pb mb W H V Y Q':=by grind [dt]
theorem dt.lt (G9:dt w rb pb mb W H V Y Q9):dt w rb pb mb W H V Y (λ g=>Q9 g/\g<G w.heap):=by
 obtain⟨f,k,d,j⟩:=G9;refine⟨f,k,d,λ c v g a b=>⟨j c v g a b,?_⟩⟩;cases h:aY W H Y c with
 |false=>rw[(d c).no h]at a;cases a
 |true =>
  obtain⟨m,l,e,i,_⟩:=(d c).yes h;rw[e]at a;cases a;exact(i.lt g b).2
end
theorem MV (w:M):(Instr.makeMap 137 UP).run Vyj w=.ok (.map (Z (G w.heap))) (E w (.map #[] 0)):=kQ
theorem pT:cM (fO λ _=>UP) 256=0:=oP 256
theorem rh {W H:Int}{Y:Bn}(w:M)(g:aq w b W H V Y)(s:az w)(hb:b<G w.heap) :
  Zq 76 #[Pq b] w λ e I=>∃rb pb mb,e=VJ (Pq rb)/\dt I rb pb mb W H V Y (λ g=>G w.heap<=g)/\G w.heap<=rb/\G w.heap<=pb/\G w.heap<=mb/\Bq w I:=by
 have WS:=bG g.w1 g.w2 g.h1 g.h2;have Wm:=g.w1;have Zy:=nH w g;go_enter func76,ntmps76;go_wp2_with fail;refine Zy.mono ?_;rintro e a ⟨rfl,l,Yy,g1,u⟩;clear Zy;have X:=MV a;have hM:=bj.made a Vyj 3;have B2:Bq w ((E a (.map #[] 0)).alloc (VP #[Pq (G w.heap),.map (Z (G a.heap))] 205)):=(l.alloc l.size _).alloc (by have:=l.size;simp;omega) _;have b2:Bq a ((E a (.map #[] 0)).alloc (VP #[Pq (G w.heap),.map (Z (G a.heap))] 205)):=(ae.alloc aa _).alloc sQ _;have R:GSt ((E a (.map #[] 0)).alloc (VP #[Pq (G w.heap),.map (Z (G a.heap))] 205)) (G a.heap+1) (G w.heap) (G a.heap) W H V Y (λ _=>UP):=by
  refine⟨SR #[Pq (G w.heap),.map (Z (G a.heap))] 205 (G a.heap+1) 0 sQ,SR #[Pq (G w.heap),.map (Z (G a.heap))] 205 (G a.heap+1) 1 sQ,g1.below b2 Yy,?_,λ i h=>(by cases h),λ o=>(b2.frozen (p:=O (G w.heap) o) Yy).trans (u o),U⟩;rw[pT];exact hM.X' (F:=λ _=>False) ((ai.refl _ _).alloc _) id
 go_wp2_with fail;generalize (E a (.map #[] 0)).alloc (VP #[.pointer (Z (O (G w.heap) 0)),.map (Z (G a.heap))] 205)=W2 at *;have Wa:=l.size;generalize ac:G a.heap=mb at *;clear hM X b2 g1 u Yy l;have s2:=s.below B2 U;have Wc:=B2.size;obtain⟨l1,l2,l3⟩:=R.lts;refine(OB W2 R.ga s2 l2).mono ?_;rintro e w3 ⟨v,rfl,d,hb3⟩;have XK:=λ c=>cU (W:=W) (H:=H) (Y:=Y) (k:=(W*H).toNat) (c:=c);have t:∀n∈crs W H Y (W*H).toNat,inB W H (n:Int)=Q/\n<256:=λ n T=>by
  have h1:=(XK n).1 T;exact⟨aR Wm (aI.1 h1.2),U⟩
 have ZU:=fx W H Y (W*H).toNat;have Yr:=qH t;have ab:Vy (∀c:Int,aY W H Y c=Q->∃n:Nat,n∈crs W H Y (W*H).toNat/\c=n):=λ c j=>by
  have h1:=aR Wm (aI.1 j);have h2:0<=c/\c<W*H:=Q1 h1;refine⟨c.toNat,(XK c.toNat).2 ⟨U,?_⟩,U⟩;rw[TE h2.1];exact j
 obtain⟨A,cap,rfl,_⟩:=jk d;have G3:=R.below hb3;have B3:=aj B2 hb3;clear XK t R hb3;generalize crs W H Y (W*H).toNat=L at *;have d:=cu d (Te _);go_wp2;go_loopw [17] (λ iv wr=>∃(k:Nat) (f:Int->Option Vr),k<=K L/\iv=J k/\GSt wr (mb+1) (G w.heap) mb W H V Y f/\Vy (∀c:Int,(∃i,i<k/\c=((L.getD i 0:Nat):Int))->EOk wr (G w.heap) W H Y f c)/\Vy (∀c:Int,¬(∃i,i<k/\c=((L.getD i 0:Nat):Int))->f c=UP)/\Vy (∀(c:Int) v g,f c=Z v->M' v=Z g->G w.heap<=g)/\G' wr 0 3 1 (.slice A (K L) cap) (K L) (aH L)/\Bq w wr)
  (λ i _=>K L-(intOf i).toNat)
 case atStart=>exact⟨0,_,Te _,rfl,G3,λ c ⟨i,r,_⟩=>Q8 r (TW i),λ c _=>rfl,λ c v g h=>(by cases h),d,B3⟩
 case round =>
  obtain⟨k,f,hk,rfl,y,C,N,t,x,q⟩:=hrel;by_cases VS:k<K L
  ·obtain⟨B,hA⟩:∃B,A=Z (O B 0):=by
    rcases x.2 with⟨_,h0⟩|⟨B,_,_,hv,_⟩
    ·omega
    ·exact⟨B,by cases hv;rfl⟩
   subst hA;have W8:=jW x k VS;have ZS:L.getD k 0∈L:=(by rw[bL _ _ VS];exact TY VS);obtain⟨S,YL⟩:=Yr.out _ ZS;have HK:Vy (∀c:Int,(∃i,i<k+1/\c=((L.getD i 0:Nat):Int))↔(∃i,i<k/\c=((L.getD i 0:Nat):Int))\/c=((L.getD k 0:Nat):Int)):=λ c=>by
    constructor
    ·rintro⟨i,r,h⟩;by_cases e:i=k
     ·subst e;exact SP h
     ·exact SQ ⟨i,U,h⟩
    ·rintro (⟨i,r,h⟩|h)
     ·exact⟨i,U,h⟩
     ·exact⟨k,U,h⟩
   generalize YV:L.getD k 0=n at *;clear YV ZS;have i1:(0:Int)<=(k:Int):=U;have i2:(k:Int)<(K L:Int):=U;have hz:=q.size;have Xl:=Ce wr y (s.below q U) S;go_wp2_with fail;refine Xl.mono ?_;rintro e w4 ⟨rfl,⟨z,G4,m,E4,I4⟩,P⟩;have B4:Bq w w4:=q.trans (P.Z' q.size (λ k e=>U));have R4:=br x P (bK x y.mp);have HY:Vy (∀c:Int,(∃i,i<k+1/\c=((L.getD i 0:Nat):Int))->EOk w4 (G w.heap) W H Y z c):=λ c j=>by
    by_cases e:c=(n:Int)
    ·rw[e];exact E4
    ·exact(C.out c (((HK.out c).1 j).resolve_right e)).X' y P (m c e)
   have HN:Vy (∀c:Int,¬(∃i,i<k+1/\c=((L.getD i 0:Nat):Int))->z c=UP):=λ c j=>by
    have e:c≠(n:Int):=λ e=>j ((HK.out c).2 (SP e));rw[m c e];exact N.out c (λ h=>j ((HK.out c).2 (SQ h)))
   have HI:Vy (∀(c:Int) v g,z c=Z v->M' v=Z g->G w.heap<=g):=λ c v g h hg=>by
    by_cases e:c=(n:Int)
    ·rw[e]at h;exact Tg q.size (I4 v g h hg)
    ·rw[m c e]at h;exact t.out c v g h hg
   clear Xl C N t y x q E4 I4 P m;go_wp2;go_roundw
   case rel=>exact⟨k+1,z,U,gQ,G4,HY,HN,HI,R4,B4⟩
   case measure=>simp[intOf];omega
  ·have e:k=K L:=U;subst e;have HE:Vy (∀c:Int,EOk wr (G w.heap) W H Y f c):=λ c=>by
    by_cases j:∃i,i<K L/\c=((L.getD i 0:Nat):Int)
    ·exact C.out c j
    ·refine⟨λ h=>?_,λ _=>N.out c j⟩;obtain⟨n,T,rfl⟩:=ab.out c h;obtain⟨i,r,h⟩:=TR T;exact Q8 ⟨i,r,by rw[bL _ _ r,h]⟩ j
   clear C N;go_wp2;go_ret;exact⟨_,_,_,rfl,⟨f,y,HE.out,t.out⟩,U,aa,U,q⟩
theorem Ja {Y:Bn}(w:M)(g:aq w b W H V Y)(s:az w)(a:b<G w.heap) :
  Zq 76 #[Pq b] w λ e I=>∃rb pb mb,e=VJ (Pq rb)/\eh I rb pb mb W H V Y/\G w.heap<=rb/\G w.heap<=pb/\G w.heap<=mb/\Bq w I :=
 (rh w g s a).mono λ _ _ ⟨rb,pb,mb,f,d,c⟩=>⟨rb,pb,mb,f,d.graph,c⟩
end
section
open Go.RowKit Go.Maps Go.Sort Go.Shelf
theorem Tryz.sortsA (m:Nat):AnyZI.SortsIn Vyj Tryz.sortedA_ren Fence.wide m :=
 ⟨λ b a cap d W e c f=>callsIn_wide.2 (AnyM.slices_Sort_int Tryz.sortA b a cap d W e c f),
  λ p cap W=>callsIn_wide.2 (AnyM.slices_Sort_int_none Tryz.sortA p cap W)⟩
theorem QG (rb b j:Nat)(d:DataW Vr)(R:Vr->Option (DataW Vr×List MemPlace))(w:M)(B:D w ⟨rb,1,UP⟩=Z (.map (Z b)))(a:w.ownsMap Vyj 3 R b j d)(i:Maps.size d<=maxLen)(h:Maps.size d*8<=140737488355328) :
  Calls Vyj 99 #[.pointer (Z ⟨rb,0,UP⟩)] w λ e I=>∃(v:Vr) (ss:List Int),e=VJ v/\ss.Perm (intKeys d) /\
   I.ownsRow (G w.heap) 3 1 v (K ss) ((ss.mergeSort (λ x y=>decide (x<=y))).map encZ)/\Below (G w.heap) w I:=by
 refine(callsIn_wide (n:=6)).1 ?_;have u:=a.lt;have g:SeqGives Fence.wide 2 Vyj 206 #[.pointer (Z ⟨G w.heap,0,UP⟩)] encZ (λ ss=>ss.Perm (intKeys d)) (Maps.size d) (E w (VP #[.map (Z b)] 137)) :=
  AnyZI.keys_gives (ρ:=Tryz.keysA_ren) { Tryz.keysA with } Fence.wide _ trivial rfl U (G w.heap) b j d _ sQ sQ (by
   obtain⟨r,c,f,A,l,q⟩:=a;exact⟨r,c,(Below.heap_alloc _ _ b u).trans f,A,l,q⟩)
 have s:∀mb W,CallsIn Fence.wide 5 Vyj 150 #[.map mb] W λ e I=>e=VJ (.func (.func 206) #[] #[.pointer (Z ⟨G W.heap,0,UP⟩)])/\I=E W (VP #[.map mb] 137):=λ mb W=>AnyZI.keys_in Tryz.keysA Fence.wide 5 trivial rfl mb W;have k:=AnyZI.sorted_in Tryz.sortedA Fence.wide 5 trivial trivial trivial trivial rfl U (Tryz.sortsA _) (enters_of func205 kQ rfl) 206 #[.pointer (Z ⟨G w.heap,0,UP⟩)] trivial (enters_of func206 kQ rfl) _ _ i h _ g;change CallsIn _ _ Vyj 149 _ _ _ at k;have o:Fence.wide.fn 150:=trivial;have m:Fence.wide.fn 149:=trivial;refine callsIn_of_wp func99 rfl trivial ?_ rfl;simp only[ntmps99,List.size_toArray,Tk,List.length_nil,Nat.reduceAdd,Nat.reduceSub,Array.replicate_succ,Array.replicate_zero,List.push_toArray,List.append_toArray,List.nil_append,List.cons_append]
 gi_wp2_with (first
  |(gi_at_call 150;refine(s _ _).mono ?_;rintro e I ⟨rfl,rfl⟩)
  |(gi_at_call 149;refine k.mono ?_;rintro e I ⟨v,ss,rfl,p,z,t,f⟩))
 go_ret;exact⟨v,ss,rfl,p,ownsRow_base_a z sQ,((Below.refl _ w).alloc aa _).trans (f.mono sQ)⟩
theorem iE (W H:Int)(Y:Bn)(k:Nat):(crs W H Y k).Pairwise (·<·):=by
 unfold crs;exact List.pairwise_lt_range.filter _
theorem r9 {Y:Bn}(w:M)(G9:eh w rb pb mb W H V Y) :
  Zq 99 #[Pq rb] w λ e I=>∃v,e=VJ v/\G' I (G w.heap) 3 1 v (K (crs W H Y (W*H).toNat)) (aH (crs W H Y (W*H).toNat))/\Bq w I:=by
 obtain⟨f,G9,i⟩:=G9;have L:=G9.ga.w1;have C:=oO (fO f) 256;obtain⟨j,a,F,z⟩:=G9.mp;have s:CollectedI j (λ _=>Vl) (dH (crs W H Y (W*H).toNat)):=by
  refine⟨(pQ (iE _ _ _ _)).imp (λ h e=>U),λ x=>?_⟩;rw[oT,(z x).1];constructor;rintro⟨n,q,rfl⟩;obtain⟨v,l,r,_⟩:=(i n).yes (cU.1 q).2;exact⟨by rw[r];rfl,rfl⟩;rintro⟨g,_⟩;cases b:aY W H Y x with
  |false=>rw[(i x).no b]at g;cases g
  |true =>
   have A:0<=x/\x<W*H:=Q1 (aR L (aI.1 b));refine⟨x.toNat,cU.2 ⟨U,?_⟩,U⟩;rw[TE A.1];exact b
 have p:=s.perm a (int_keyed aV) aV (λ _=>rfl);refine(QG rb mb _ j pJ w G9.p1 a (by grind [maxLen]) (by rw[F];omega)).mono ?_;rintro e I ⟨v,k,rfl,u,d,t⟩;have c:=u.trans p.symm;have S:=mergeSort_of_perm_i c;obtain⟨l,o,m,P,N⟩:=Ei (crs W H Y (W*H).toNat) ((iE _ _ _ _).imp (λ h e=>U));have R:l=crs W H Y (W*H).toNat:=tO o (iE _ _ _ _) m;have B:k.mergeSort (λ x y=>decide (x<=y))=dH (crs W H Y (W*H).toNat):=by grind
 rw[B,c.length_eq]at d;refine⟨v,rfl,?_,t⟩;rw[List.length_map,List.map_map]at d;exact d
theorem Se (w:M)(a:Oa)(n c b d:Nat):(binOp .eql 140 (.slice a n c) (.slice UP b d)).run Vyj w=.ok (.bool a.isNone) w:=Lib.run_eql_slice_nil w _ _ a n c b d Tryz.Vxb
theorem SN (w:M):Sem.run Vyj (underlying 140) w=.ok (TypeDesc.slice 203) w:=run_underlying Tryz.Vxb w
theorem xX (w:M):Eq9 167 #[.slice UP 0 0] w (.slice UP 0 0):=by
 have q:=Se;go_enter func167,ntmps167;go_wp2;go_ret;exact⟨rfl,rfl⟩
theorem xY {g:Nat}{xs:List Vr}(w:M)(h:G' w 0 203 4 (.slice (Z (O g 0)) n cap) n xs)(p:∀u∈xs,u.oneCell'=Q)(z:n<=256) :
  Zq 167 #[.slice (Z (O g 0)) n cap] w λ e I=>∃v,e=VJ v/\G' I (G w.heap) 203 4 v n xs/\Bq w I:=by
 obtain⟨d,m,t,s,r⟩:=info_parts Tryz.infoE;have f:K xs=n*4:=h.1;have o:Vy (∀j u,xs[j]? = Z u->D w (O g j)=Z u):=λ j u b=>by
  have l:j<K xs:=(Th.1 b).1;rw[h.cellAt j U];exact b
 have q:=Se;have u:=SN;clear h;go_enter func167,ntmps167;go_wp2_with (at_builtin;refine Vxk _ rfl _ _ 140 rfl (G w.heap) 203 d (.agg #[J 0,J 0,J 0,J 0]) 4 32 Tryz.Vxb m t s r rfl dQ _ _ _ rfl (World.ownsRow_made w #[] 0 aa (Te _) sQ) (O g 0) n cap xs rfl ?qc1 ?qc2 ?qc3 ?qc4 ?qc5 ?qc6 ?_)
 case qc1=>exact f
 case qc2 =>
  intro j u b;rw[Addr.add_lit,Tm];exact Lib.cell?_alloc_some _ (o.out j u b)
 case qc3=>exact p
 case qc4=>unfold maxLen;omega
 case qc5=>omega
 case qc6=>simp
 intro c y a x _;go_wp2;go_ret;refine⟨c,rfl,by simpa using a,?_⟩;exact((Below.refl _ w).alloc aa _).grown x sQ (by intro k i;simp[Value.ownBlock]at i;omega)
theorem El (W a:Int)(l:Ln):∀u∈ct W a l,u.oneCell'=true:=by
 intro u c;unfold ct at c;obtain⟨n,_,b⟩:=List.mem_flatMap.1 c;unfold vG at b;simp at b;rcases b with rfl|rfl|rfl|rfl<;>rfl
theorem kZ.len {Y:Bn}{l:Ln}(b:1<=W)(g:W*H<=256)(h:kZ W H Y c l):K l<=256 :=
 dr 256 (h.1.imp (λ h e=>U)) (λ n d=>by
  have a:=((h.2 n).1 d).2;rw[Bool.and_eq_true]at a;have f:0<=(n:Int)/\(n:Int)<W*H:=Q1 (aR b (aI.1 a.2));omega)
theorem xZ {Y:Bn}(w:M)(G9:eh w rb pb mb W H V Y)(o:aY W H Y c=Q)(n:(Lit.int .i64 c).wf=Q) :
  Zq 121 #[Pq rb,J c] w λ e I=>∃v l,e=VJ (.tuple #[v,.nilIface])/\G' I (G w.heap) 203 4 v (K l) (ct W c l)/\kZ W H Y c l/\Bq w I:=by
 obtain⟨f,G9,m⟩:=G9;have y:=G9.p1;have s:=bG G9.ga.w1 G9.ga.w2 G9.ga.h1 G9.ga.h2;obtain⟨v,l,j,a,i,_⟩:=(m c).yes o;have z:(Instr.lookup 137 (.map (Z mb)) (J c) Q).run Vyj w=.ok (.tuple #[v,.bool Q]) w:=G9.mp.Ui aV Tryz.Vxa (mm w) n j Q;have b:=i.len G9.ga.w1 s.2;have k:=qH i;clear G9 m i j;rcases a.2 with⟨rfl,p⟩|⟨g,cap,r,rfl,_⟩
 ·have d:=xX w;go_enter func121,ntmps121;go_wp2_with fail;refine Q0 d ?_;clear d;go_wp2;go_ret2;refine⟨_,l,rfl,?_,k.out,ae⟩;have q:l=[]:=TF.1 p;rw[q];exact To _ _ _ _
 ·have d:=xY w a (El _ _ _) b;clear a;go_enter func121,ntmps121;go_wp2_with fail;refine d.mono ?_;rintro e u ⟨x,rfl,t,h⟩;clear d;go_wp2;go_ret2;exact⟨_,l,rfl,t,k.out,h⟩
end
theorem Cn {Y:Bn}(w:M)(g:aq w b W H V Y) :
  Eq9 103 #[Pq b] w (J V):=by
 have a:=g.c2;go_enter func103,ntmps103;go_wp2;go_ret;exact⟨rfl,rfl⟩
theorem Co {Y:Bn}(w:M)(g:aq w b W H V Y) :
  Dq 129 #[Pq b] w (.tuple #[J W,J H]):=by
 have c0:=g.c0;have a:=g.c1;go_enter func129,ntmps129;go_wp2;go_quiet (fail);go_wp2;go_ret2;exact⟨rfl,_,rfl⟩
theorem zu {Y:Bn}(x y:Int)(w:M)(g:aq w b W H V Y)(a:atB W H x y=Q) :
  Eq9 172 #[Pq b,J x,J y] w (.tuple #[J (y*W+x),.nilIface]):=by
 have h:0<=x/\x<W/\0<=y/\y<H:=Q1 a;have c:∀w:M,aq w b W H V Y->Eq9 207 #[Pq b,J x,J y] w (.bool Q):=λ w g=>a▸iR x y w g;have e:=g.w2;have f:=g.h2;have d:=pg x y w g U U U U;go_enter func172,ntmps172;go_wp2_with (first|(go_at_call 207;refine Q0 (c _ g) ?_)|(go_at_call 208;refine Q0 d ?_));go_ret2;exact⟨rfl,rfl⟩
theorem vJ {Y:Bn}(x y:Int)(w:M)(g:aq w b W H V Y)(a:atB W H x y=Vl) :
  Eq9 172 #[Pq b,J x,J y] w (.tuple #[J 0,.iface 42 (J 1)]):=by
 have c:∀w:M,aq w b W H V Y->Eq9 207 #[Pq b,J x,J y] w (.bool Vl):=λ w g=>a▸iR x y w g;go_enter func172,ntmps172;go_wp2_with (go_at_call 207;refine Q0 (c _ g) ?_);go_ret2;exact⟨rfl,rfl⟩
theorem Em {a:Int}{Y:Bn}{p:Int->Bool}(w:M)(g:aq w b W H V Y)(s:az w)(c:b<G w.heap)(d:inB W H a=Q)(i:Y a.toNat=Vl)
  (f:∀(I:M) (n:Int),Bq w I->inB W H n=Q->Zq 226 #[J n,Pq rb] I λ e h=>e=VJ (.bool (p n))/\Bq I h) :
  Zq 165 #[Pq b,J a,.func (.func 226) #[] #[Pq rb]] w λ e I=>∃v l,e=VJ v/\G' I (G w.heap) 203 4 v (K l) (ct W a l)/\(l.Pairwise (·<·)/\∀n:Nat,n∈l↔Dir W H Y a n/\p n=Q)/\Bq w I :=
 vI (cs:=[Pq rb]) w g s c d i (λ _ _=>kQ) f
theorem vK {a:Int}{Y:Bn}(w:M)(g:aq w b W H V Y)(c:ffv W H Y a≠0) :
  Rq 165 #[Pq b,J a,.func (.func 226) #[] #[Pq rb]] w (.slice UP 0 0) :=
 zo (cs:=[Pq rb]) w g c
theorem Tryz.underT:Tryz.prog.underlying 229=Z (.map 3 279):=kQ
theorem Jb {Y:Bn}(w:M)(n:Int)(c:Cq w xb 0 (Pq pb))(g:aq w pb W H V Y)(s:az w)(b:inB W H n=Q) :
  Rq 226 #[J n,Pq xb] w (.bool (aY W H Y n)):=by
 have a:=tP n w g s b;generalize aY W H Y n=r at *;go_enter func226,ntmps226;go_wp2_with fail;refine QQ a λ m=>?_;clear a;go_wp2;go_ret;exact⟨rfl,Vxj ae _⟩
theorem x8 (W a:Int):∀(l:Ln) (i:Nat),i<K l->(ct W a l)[i*4]? = Z (J ((l.getD i 0:Nat):Int))/\(ct W a l)[i*4+1]? = Z (J (aP W a ((l.getD i 0:Nat):Int)))/\(ct W a l)[i*4+2]? = Z (J (aO W a ((l.getD i 0:Nat):Int)))/\(ct W a l)[i*4+3]? = Z (J (-1))
 |[],i,h=>Q8 h (TW i)
 |n::l,0,_=>⟨rfl,rfl,rfl,rfl⟩
 |n::l,i+1,h=>by
  have c:=x8 W a l i (by simpa using h);have e:ct W a (n::l)=vG W a n++ct W a l:=by unfold ct;rw[List.flatMap_cons]
  have d:K (vG W a n)=4:=rfl;have b:(n::l).getD (i+1) 0=l.getD i 0:=rfl;rw[e,b];refine⟨?_,?_,?_,?_⟩
  grind
  grind
  grind
  grind
def Tch (W H:Int) (Y:Bn) (x y ny nx z:Int):Prop:=aY W H Y z=Q/\∃p,(inB W H p=Q/\Y p.toNat=Vl/\Dir W H Y p z)/\(x-1<=p%W/\p%W<=x+1/\y-1<=p/W/\p/W<=y+1)/\(p/W<ny\/(p/W=ny/\p%W<nx))
section
variable {W H x y ny nx z : Int} {Y : Nat → Bool}
theorem Tch.none:¬Tch W H Y x y (y-1) (x-1) z:=by
 rintro⟨_,p,_,b,a⟩;omega
theorem Tch.row:Tch W H Y x y ny (x+1+1) z↔Tch W H Y x y (ny+1) (x-1) z:=by
 unfold Tch;refine and_congr Iff.rfl (exists_congr λ p=>and_congr Iff.rfl ?_);constructor;rintro⟨a,b⟩;exact⟨a,U⟩;rintro⟨a,b⟩;exact⟨a,U⟩
theorem Tch.all:Tch W H Y x y (y+1+1) (x-1) z↔aY W H Y z=Q/\∃p,(inB W H p=Q/\Y p.toNat=Vl/\Dir W H Y p z)/\(x-1<=p%W/\p%W<=x+1/\y-1<=p/W/\p/W<=y+1):=by grind [Tch,exists_congr]
theorem Tch.skip (h:∀p,inB W H p=Q->Y p.toNat=Vl->¬(p/W=ny/\p%W=nx)):Tch W H Y x y ny (nx+1) z↔Tch W H Y x y ny nx z:=by
 unfold Tch;refine and_congr Iff.rfl (exists_congr λ p=>and_congr_right λ a=>and_congr_right λ b=>?_);have:=h p a.1 a.2.1;omega
theorem Tch.cell (b:nx=c%W)(a:ny=c/W)(e:inB W H c=Q)(d:Y c.toNat=Vl)(i:x-1<=nx)(h:nx<=x+1)(g:y-1<=ny)(f:ny<=y+1) :
  Tch W H Y x y ny (nx+1) z↔Tch W H Y x y ny nx z\/(Dir W H Y c z/\aY W H Y z=Q):=by grind [inB,Tch,Dir,aY,gC]
end
theorem sX {b f:Nat}{V:Int}{Y:Nat->Bool}{T:Int->Bool}(w:M)(g:aq w b W H V Y)(s:az w)(hb:b<G w.heap)(hT:aU w f T)(a0:b≠f)(h0:3≠f)(hc:inB W H c=Q)(hx:c%W=x)(hy:c/W=y) :
  Calls Vyj 187 #[.map (Z f),.pointer (Z ⟨b,0,UP⟩),VN VO c] w λ e I=>e=VJ (.tuple #[])/\(∃X,aU I f X/\∀z,X z=Q↔T z=Q\/Tch W H Y x y (y+1+1) (x-1) z)/\ai (λ k=>k=f) w I:=by
 have Wm:=g.w1;have a8:=g.w2;have a9:=g.h2;have WS:=bG g.w1 g.w2 g.h1 g.h2;obtain⟨x1,x2,y1,y2⟩:=dY g.w1 hc;rw[hx]at x1 x2;rw[hy]at y1 y2;have XG:=λ w g=>eK (b:=b) (V:=V) (Y:=Y) c w g hc;rw[hx,hy]at XG;have B0:=mB w (VP #[.pointer (Z ⟨b,0,UP⟩)] 101);have q0:D (E w (VP #[.pointer (Z ⟨b,0,UP⟩)] 101)) ⟨G w.heap,0,UP⟩=Z (.pointer (Z ⟨b,0,UP⟩)):=SR #[.pointer (Z ⟨b,0,UP⟩)] 101 (G w.heap) 0 rfl;have a6:=hT.lt;clear hx hy;go_enter func187,ntmps187;go_wp2_with fail;refine(XG _ (g.below B0 hb)).mono ?_;rintro e w1 ⟨rfl,m1,Xr⟩;have B1:Below (G w.heap) w w1:=by rw[Xr];exact Vxj B0 _
 have q1:D w1 ⟨G w.heap,0,UP⟩=Z (.pointer (Z ⟨b,0,UP⟩)):=by rw[Xr];exact q0
 clear Xr XG B0 q0;have Zs:=hT.below B1;have K1:ai (λ k=>k=f) w w1:=ai.Y' B1;clear B1 hT;go_wp2;go_loopw [9] (λ iv wr=>∃(ny:Int) (X:Int->Bool),iv=VN VO ny/\y-1<=ny/\ny<=y+1+1/\aU wr f X/\Vy (∀z,X z=Q↔T z=Q\/Tch W H Y x y ny (x-1) z)/\D wr ⟨G w.heap,0,UP⟩=Z (.pointer (Z ⟨b,0,UP⟩))/\ai (λ k=>k=f) w wr)
  (λ i _=>(y+1+1-intOf i).toNat)
 case atStart=>exact⟨y-1,T,rfl,U,U,Zs,λ z=>⟨SQ,λ h=>h.resolve_right Tch.none⟩,q1,K1⟩
 case round =>
  obtain⟨ny,T1,rfl,n1,n2,Zs,ao,q1,K1⟩:=hrel;by_cases VS:ny<=y+1
  ·go_wp2;go_loopw [10] (λ iv wr=>∃(nx:Int) (X:Int->Bool),iv=VN VO nx/\x-1<=nx/\nx<=x+1+1/\aU wr f X/\Vy (∀z,X z=Q↔T z=Q\/Tch W H Y x y ny nx z)/\D wr ⟨G w.heap,0,UP⟩=Z (.pointer (Z ⟨b,0,UP⟩))/\ai (λ k=>k=f) w wr)
    (λ i _=>(x+1+1-intOf i).toNat)
   case atStart=>exact⟨x-1,T1,rfl,U,U,Zs,ao,q1,K1⟩
   case round =>
    obtain⟨nx,F,rfl,m1,m2,Zw,u,q2,K2⟩:=hrel;by_cases Yp:nx<=x+1
    ·have g2:=g.X' K2 a0;have s2:=s.X' K2 h0;have Wc:=K2.size;cases Yx:atB W H nx ny with
     |false =>
      have m:=vJ nx ny wr g2 Yx;have HS:Vy (∀z,F z=Q↔T z=Q\/Tch W H Y x y ny (nx+1) z):=λ z=>(u.out z).trans (or_congr Iff.rfl (Tch.skip (λ p hp _ he=>by
       obtain⟨a1,a2,a3,a4⟩:=dY Wm hp;have:atB W H nx ny=true:=decide_eq_true U;rw[Yx]at this;cases this)).symm)
      clear Yx;go_wp2_with fail;refine m.mono ?_;rintro e w3 ⟨rfl,rfl⟩;clear m;go_wp2;go_roundw
      case rel=>exact⟨nx+1,F,gQ,U,U,Zw,HS,q2,K2⟩
      case measure=>simp[intOf];omega
     |true =>
      have m:=zu nx ny wr g2 Yx;obtain⟨a1,a2,a3,a4⟩:0<=nx/\nx<W/\0<=ny/\ny<H:=of_decide_eq_true Yx;have ay:0<=ny*W:=Int.mul_nonneg a3 U;have am:nx=(ny*W+nx)%W:=(by rw[T9,Int.add_mul_emod_self_right];exact(Int.emod_eq_of_lt a1 a2).symm);have ag:ny=(ny*W+nx)/W:=(by rw[T9,Int.add_mul_ediv_right _ _ U,Int.ediv_eq_zero_of_lt a1 a2];omega);have t:inB W H (ny*W+nx)=true:=by
       have h2:ny*W+W<=H*W:=by
        have:=Int.mul_le_mul_of_nonneg_right (show ny+1<=H by omega) (show 0<=W by omega);rw[Int.add_mul]at this;omega
       have h3:H*W=W*H:=Int.mul_comm H W;exact decide_eq_true ⟨U,U⟩
      have WJ:Y (ny*W+nx).toNat=Vl\/Y (ny*W+nx).toNat=true:=(by cases Y (ny*W+nx).toNat<;>simp);have aw:=qH am;have au:=qH ag;have a7:=of_decide_eq_true t;clear Yx am ag ay;generalize ny*W+nx=p at *;have Yt:b<G wr.heap:=Nat.lt_of_lt_of_le hb Wc;go_wp2_with fail;refine m.mono ?_;rintro e w3 ⟨rfl,rfl⟩;clear m;rcases WJ with WJ|WJ
      ·have WL:=Em (rb:=G w.heap) (p:=λ n=>aY W H Y n) w3 g2 s2 Yt t WJ (λ I n YE hn=>by
        have kk:∀{a:Addr}{v:Vr},D w3 a=Z v->D I a=Z v:=λ {a v} h=>(YE.cell (World.block_lt_of_cell? w3 a h)).trans h;exact Jb I n (kk q2) (g2.below YE Yt) (s2.below YE U) hn)
       go_wp2_with fail;refine WL.mono ?_;rintro e w4 ⟨v,l,rfl,N,⟨XX,XK⟩,B⟩;have HM:=qH XK;have We:∀n∈l,n<256:=λ n hn=>by
        have h2:0<=(n:Int)/\(n:Int)<W*H:=of_decide_eq_true (aR Wm (aI.1 ((XK n).1 hn).2));omega
       have ZU:K l<=256:=dr 256 (XX.imp (λ h e=>U)) We;have Yr:=qH We;have HS:Vy (∀C:Int->Bool,(∀z,C z=Q↔F z=Q\/∃i,i<K l/\z=((l.getD i 0:Nat):Int))->∀z,C z=Q↔T z=Q\/Tch W H Y x y ny (nx+1) z):=λ C h4 z=>by
        rw[h4 z,u.out z,Tch.cell aw.out au.out t WJ m1 Yp n1 VS,or_assoc];refine or_congr Iff.rfl (or_congr Iff.rfl ?_);constructor
        ·rintro⟨i,P,rfl⟩;exact(HM.out _).1 (by rw[bL _ _ P];exact TY P)
        ·rintro⟨hd,hz⟩;have ax:0<=z/\z<W*H:=of_decide_eq_true (aR Wm (aI.1 hz));have hm:z.toNat∈l:=(HM.out z.toNat).2 (by rw[TE ax.1];exact⟨hd,hz⟩);obtain⟨i,P,h⟩:=TR hm;exact⟨i,P,by rw[bL _ _ P,h];omega⟩
       obtain⟨A,cap,rfl⟩:∃A cap,v=.slice A (K l) cap:=by
        rcases N.2 with⟨rfl,h0⟩|⟨g',cap,bb,rfl,_⟩
        ·exact⟨UP,0,by rw[h0]⟩
        ·exact⟨_,_,rfl⟩
       have d:=Zw.below B;have o:=al B q2;have L:=K2.below B;clear WL XK XX We B g2 s2;go_wp2;go_loopw [52] (λ iv wr=>∃(j:Nat) (C:Int->Bool),j<=K l/\iv=VN VO j/\aU wr f C/\Vy (∀z,C z=Q↔F z=Q\/∃i,i<j/\z=((l.getD i 0:Nat):Int))/\G' wr (G w3.heap) 203 4 (.slice A (K l) cap) (K l) (ct W p l)/\D wr ⟨G w.heap,0,UP⟩=Z (.pointer (Z ⟨b,0,UP⟩))/\ai (λ k=>k=f) w wr)
        (λ i _=>K l-(intOf i).toNat)
       case atStart=>exact⟨0,F,Te _,rfl,d,λ z=>⟨SQ,λ h=>h.resolve_right (λ ⟨i,P,_⟩=>U)⟩,N,o,L⟩
       case round =>
        obtain⟨j,C,hj,rfl,d,ap,S,o,L⟩:=hrel;by_cases ac:j<K l
        ·obtain⟨R,hA⟩:∃R,A=Z ⟨R,0,UP⟩:=by
          rcases S.2 with⟨_,h0⟩|⟨R,_,_,hv,_⟩
          ·omega
          ·exact⟨R,by cases hv;rfl⟩
         subst hA;obtain⟨e0,e1,e2,e3⟩:=x8 W p l j ac;have ZS:l.getD j 0∈l:=(by rw[bL _ _ ac];exact TY ac);have YL:=Yr.out _ ZS;have c0:D wr ⟨R,j*4,UP⟩=Z (VN VO ((l.getD j 0:Nat):Int)):=(S.cellAt (j*4) U).trans e0;have c1:D wr ⟨R,j*4+1,UP⟩=_:=(S.cellAt (j*4+1) U).trans e1;have c2:D wr ⟨R,j*4+2,UP⟩=_:=(S.cellAt (j*4+2) U).trans e2;have c3:D wr ⟨R,j*4+3,UP⟩=_:=(S.cellAt (j*4+3) U).trans e3;have HJ:Vy (∀z:Int,(∃i,i<j+1/\z=((l.getD i 0:Nat):Int))↔(∃i,i<j/\z=((l.getD i 0:Nat):Int))\/z=((l.getD j 0:Nat):Int)):=λ z=>by
          constructor
          ·rintro⟨i,P,h⟩;by_cases e:i=j
           ·subst e;exact SP h
           ·exact SQ ⟨i,U,h⟩
          ·rintro (⟨i,P,h⟩|h)
           ·exact⟨i,U,h⟩
           ·exact⟨j,U,h⟩
         clear e0 e1 e2 e3 ZS;generalize aP W p ((l.getD j 0:Nat):Int)=es at *;generalize aO W p ((l.getD j 0:Nat):Int)=ed at *;have z0:(0:Int)<=((l.getD j 0:Nat):Int):=U;have z1:((l.getD j 0:Nat):Int)<256:=U;generalize ((l.getD j 0:Nat):Int)=zz at *;have i1:(0:Int)<=(j:Int):=U;have i2:(j:Int)<(K l:Int):=U;have r:=d.grown (World.grownBy_alloc wr (VP #[VN VO zz,VN VO es,VN VO ed,VN VO (-1)] 203) UP) sQ;go_wp2_with (first|(at_mapUpdate;refine ef rfl _ _ _ 229 rfl 3 279 aV Tryz.underT f _ _ rfl r.mp r.room zz (.agg #[]) rfl rfl (aE z0 z1) ?_;intro w5 an ab;go_frame)|go_in);have a5:=r.put z0 z1 an;have X9:=ab.grown;have K6:ai (λ k=>k=f) w w5:=(L.alloc _).grown X9 (λ k e h=>by cases e;rfl);have R6:=jh (S.alloc _) X9 (λ g' aL e=>bK S d.mp g' aL (Option.some.inj e));have q6:=(aA ab).cellOf ((World.cell?_alloc_old _ _ _ (Nat.ne_of_lt (aB o))).trans o) (show G w.heap≠f by omega);clear an ab X9 r d S L c0 c1 c2 c3;go_roundw
         case rel =>
          refine⟨j+1,_,U,gQ,a5,λ z=>?_,R6,q6,K6⟩;rw[cW,ap.out z,HJ.out z];exact⟨λ h=>h.elim (λ e=>SP (SP e)) (λ h=>h.imp id SQ),λ h=>h.elim (λ e=>SP (SQ e)) (λ h=>h.elim (λ e=>SP (SP e)) SQ)⟩
         case measure=>simp[intOf];omega
        ·have e:j=K l:=U;subst e;have Yw:=HS.out C ap.out;go_wp2;go_roundw
         case rel=>exact⟨nx+1,C,gQ,U,U,d,Yw,o,L⟩
         case measure=>simp[intOf];omega
      ·have aN:ffv W H Y p≠0:=(by unfold ffv;rw[t,WJ];decide);have WL:=vK (rb:=G w.heap) w3 g2 aN;have HS:Vy (∀z,F z=Q↔T z=Q\/Tch W H Y x y ny (nx+1) z):=λ z=>(u.out z).trans (or_congr Iff.rfl (Tch.skip (λ q hq ad he=>by
        have e1:=gC W q;have e2:=gC W p;have:q=p:=(by rw[<- e1,<- e2,he.1,he.2,<- aw.out,<- au.out]);rw[this,WJ]at ad;cases ad)).symm)
       go_wp2_with fail;refine WL.mono ?_;rintro e w4 ⟨rfl,B⟩;have d:=Zw.below B;have o:=al B q2;have L:=K2.below B;clear WL g2 s2 B;go_wp2;go_loopw [52] (λ iv wr=>iv=VN VO 0/\aU wr f F/\D wr ⟨G w.heap,0,UP⟩=Z (.pointer (Z ⟨b,0,UP⟩))/\ai (λ k=>k=f) w wr) (λ _ _=>0)
       case atStart=>exact⟨rfl,d,o,L⟩
       case round =>
        obtain⟨rfl,d,o,L⟩:=hrel;go_wp2;go_roundw
        case rel=>exact⟨nx+1,F,gQ,U,U,d,HS,o,L⟩
        case measure=>simp[intOf];omega
    ·have e:nx=x+1+1:=U;subst e;go_wp2;go_roundw
     case rel=>exact⟨ny+1,F,gQ,U,U,Zw,λ z=>(u.out z).trans (or_congr Iff.rfl Tch.row),q2,K2⟩
     case measure=>simp[intOf];omega
  ·have e:ny=y+1+1:=U;subst e;go_wp2;go_end0;exact⟨rfl,⟨T1,Zs,ao.out⟩,K1⟩
section
variable {W H c0 : Int} {Y WM : Nat → Bool}
theorem vN (d:∀n:Nat,(n:Int)≠c0->Y n=WM n)(a:1<=W){c:Int}(h:¬Tch W H Y (c0%W) (c0/W) (c0/W+1+1) (c0%W-1) c)(b:aY W H Y c=Q) :
  (∀p,inB W H p=Q->Y p.toNat=Vl->Blk W c0 p->¬Dir W H Y p c)/\¬Blk W c0 c/\aY W H WM c=true:=by grind [Tch,aY,inB,Blk,Dir,Tch.all,aR,dG,aI,gV,Dir.self,vy]
theorem Cr (g:∀n:Nat,(n:Int)≠c0->Y n=WM n)(a:1<=W)(j:W<=16)(o:1<=H)(m:H<=16){c:Int}(h:¬Tch W H Y (c0%W) (c0/W) (c0/W+1+1) (c0%W-1) c)(e:aY W H Y c=Q)(d:Int)(b:Dir W H Y c d/\(decide (d≠c)&&aY W H Y d)=Q) :
  Dir W H WM c d/\(decide (d≠c)&&aY W H WM d)=true:=by
 obtain⟨p,_,_⟩:=vN g a h e;rw[Bool.and_eq_true]at b;have i:=aR a (aI.1 e);have f:=aR a (aI.1 b.2.2);have:=cA a j o m i f;obtain⟨l,k⟩:=Iz g a U U i (gV e) (aI.1 b.2.2) b.1 p;rw[Bool.and_eq_true];exact⟨k,b.2.1,aI.2 l⟩
theorem EOk.loc (i:∀n:Nat,(n:Int)≠c0->Y n=WM n)(e:1<=W)(j:W<=16)(o:1<=H)(m:H<=16){c:Int}
  (k:¬Tch W H Y (c0%W) (c0/W) (c0/W+1+1) (c0%W-1) c) (a:¬Tch W H WM (c0%W) (c0/W) (c0/W+1+1) (c0%W-1) c) (E9:EOk w pb W H Y f c):EOk w pb W H WM f c:=by
 have d:∀n:Nat,(n:Int)≠c0->WM n=Y n:=λ n h=>(i n h).symm;refine⟨λ g=>?_,λ g=>?_⟩;have b:=(vN d e a g).2.2;obtain⟨v,l,t,s,p,r⟩:=E9.yes b;refine⟨v,l,t,s,⟨p.1,λ n=>?_⟩,r⟩;rw[p.2 n];exact⟨Cr i e j o m k b n,Cr d e j o m a g n⟩;refine E9.no ?_;cases q:aY W H Y c with
 |false=>rfl
 |true =>
  have:=(vN i e k q).2.2;rw[g]at this;cases this
end
theorem cV.X' (h:cV b w I):ai (λ k=>k=b) w I:=⟨h.os,h.tape,h.output,by rw[h.size];exact aa,λ i _ a=>h.other i a⟩
theorem EOk.kept {Y:Bn}{j:Int->Option Vr}(E9:EOk w pb W H Y f c)(n:ai F w I)(k:∀v l g,f c=Z v->G' w 0 203 4 v (List.length l) (ct W c l)->M' v=Z g->pb<g->¬F g)(b:j c=f c):EOk I pb W H Y j c:=by
 refine⟨λ h=>?_,λ h=>b.trans (E9.no h)⟩;obtain⟨v,l,i,e,m,d⟩:=E9.yes h;exact⟨v,l,b.trans i,br e n (λ g a=>k v l g i e a (d g a)),m,d⟩
theorem QH (w:M):(Instr.makeMap 229 UP).run Vyj w=.ok (.map (Z (G w.heap))) (E w (.map #[] 0)):=kQ
theorem Jc {c:Nat}{Y:Bn}(v:Bool)(w:M)(G9:eh w rb pb mb W H V Y)(m:inB W H c=Q)(l:Y c=v) :
  Rq 139 #[Pq rb,J c,.bool v] w (.tuple #[.bool Vl,.nilIface]):=by
 obtain⟨f,G9,o⟩:=G9;have g:=G9.p0;obtain⟨k,j,r⟩:=G9.lts;have h:=nH w G9.ga;go_enter func139,ntmps139;go_wp2_with fail;refine h.mono ?_;rintro e i ⟨rfl,a,s,n,d⟩;have b:=tU c v i (G9.ga.below a j) m l;have g:=(a.cell (p:=O rb 0) k).trans g;clear h G9 o n d;go_wp2_with fail;refine QQ b λ q=>?_;clear b;go_wp2;go_ret2;exact⟨rfl,Vxj a _⟩
theorem MW {c:Nat}{Y:Bn}{Q9:Nat->Prop}(v:Bool)(w:M)(G9:dt w rb pb mb W H V Y Q9)(hQ:Vy (∀g,G w.heap<=g->Q9 g))(s:az w)(hc:inB W H c=Q)(hv:Y c=!v)(v1:0<=V)(v2:V<=1000000)(h0:3≠pb)(a6:3≠mb) :
  Zq 139 #[Pq rb,J c,.bool v] w λ e I=>e=VJ (.tuple #[.bool Q,.nilIface])/\dt I rb pb mb W H (V+1) (upd Y c v) Q9/\ai (λ k=>k=pb\/k=mb) w I:=by
 obtain⟨f,G9,E9⟩:=G9;have p0:=G9.p0;obtain⟨l1,l2,l3⟩:=G9.lts;obtain⟨n1,n2⟩:=G9.ne;have F:=G9.rp;have Wm:=G9.ga.w1;have a7:=G9.ga.w2;have a9:=G9.ga.h1;have a8:=G9.ga.h2;have bx:=s.pos;have WS:=bG G9.ga.w1 G9.ga.w2 G9.ga.h1 G9.ga.h2;have Wv:Vy (∀n:Nat,(n:Int)≠(c:Int)->Y n=upd Y c v n):=λ n hn=>by unfold upd;rw[Q6 U]
 have Zy:=nH w G9.ga;have HE:=qH E9.1;have bf:=qH E9.2;clear E9;go_enter func139,ntmps139;go_wp2_with fail;refine Zy.mono ?_;rintro e w1 ⟨rfl,m,Yy,g1,ba⟩;have G1:=G9.below m;have am:=yh c v w1 G1.ga G1.fr hc hv v1 v2;have ac:=G1.p0;clear Zy ba p0 hv;go_wp2_with fail;refine am.mono ?_;rintro e a ⟨rfl,C,g2,aw⟩;clear am;generalize q:upd Y c v=WM at *;have bk:=qH q;clear q;have u:=C.X';have au:=g1.X' u (show G w.heap≠pb by omega);have A:=u.cellOf ac F;have ab:=u.cellOf G1.p1 F;have m2:=G1.mp.X' u (λ e=>n2 e.symm);have s2:=(s.below m U).X' u h0;have Wc:G w1.heap=G a.heap:=C.size.symm;have G2:GSt a rb pb mb W H (V+1) WM f:=⟨A,ab,g2,m2,G9.bd,aw,F⟩;have aN:ai (λ k=>k=pb\/k=mb) w a:=(ai.Y' m).trans u (λ _ _ h=>SQ h);have a3:Vy (∀c:Int,EOk a pb W H Y f c):=λ c=>((HE.out c).below m).kept u (λ v l g _ _ _ b e=>U) rfl;clear G1 G9 g1 g2 aw m2 ab ac HE u C;have a5:=QH a;have L:=aU.made a;have y:Bq a (E a (.map #[] 0)):=ae.alloc aa _;have Wa:=m.size;have Zo:=sX (c:=(c:Int)) (E a (.map #[] 0)) (au.below y U) (s2.below y U) sU L U U hc rfl rfl;go_wp2_with fail;refine Zo.mono ?_;rintro e w3 ⟨rfl,⟨T1,Zs,ax⟩,P⟩;have a4:=P.cellOf ((y.cell (p:=O rb 0) (show rb<G a.heap by omega)).trans A) (show rb≠G a.heap by omega);have G3:=(G2.below y).X' P (show rb≠G a.heap by omega) (show pb≠G a.heap by omega) (show mb≠G a.heap by omega);have s3:=(s2.below y U).X' P (show 3≠G a.heap by omega);have aL:=(aN.below y).trans P (λ i hi h=>U);have a2:Vy (∀c:Int,EOk w3 pb W H Y f c):=λ c=>((a3.out c).below y).kept P (λ v l g j d b _ e=>bK (ak d ae) L.mp g b e) rfl;have a0:Vy (∀z,T1 z=Q↔Tch W H Y ((c:Int)%W) ((c:Int)/W) ((c:Int)/W+1+1) ((c:Int)%W-1) z):=λ z=>(ax z).trans ⟨λ h=>h.resolve_left dQ,SP⟩;have bw:G a.heap+1<=G w3.heap:=by have:=P.size;rw[show G (E a (.map #[] 0)).heap=G a.heap+1 by simp]at this;exact this
 have ag:=sX (c:=(c:Int)) w3 G3.ga s3 G3.lts.2.1 Zs (show pb≠G a.heap by omega) U hc rfl rfl;clear Zo a5 L y G2 au s2 a3 aN P ax A;go_wp2_with fail;refine ag.mono ?_;rintro e w4 ⟨rfl,⟨T,hT,ap⟩,X⟩;have G4:=G3.X' X (show rb≠G a.heap by omega) (show pb≠G a.heap by omega) (show mb≠G a.heap by omega);have s4:=s3.X' X (show 3≠G a.heap by omega);have ay:=aL.trans X (λ i hi h=>U);have a1:Vy (∀c:Int,EOk w4 pb W H Y f c):=λ c=>(a2.out c).kept X (λ v l g j d b _ e=>bK d Zs.mp g b e) rfl;have HT:Vy (∀z,T z=Q↔Tch W H Y ((c:Int)%W) ((c:Int)/W) ((c:Int)/W+1+1) ((c:Int)%W-1) z\/Tch W H WM ((c:Int)%W) ((c:Int)/W) ((c:Int)/W+1+1) ((c:Int)%W-1) z):=λ z=>(ap z).trans (or_congr (a0.out z) Iff.rfl);have bm:=X.size;have bn:=hT.lt;generalize ad:G a.heap=tb at *;clear ag G3 s3 a2 aL X ap Zs a0 a4 ad;go_wp2_with (first|(at_range;refine cO rfl _ 229 rfl 3 279 aV Tryz.underT tb _ _ rfl hT.mp ?_;intro w5 bb X9 bp)|go_in);have b5:Bq w4 w5:=ae.grown X9 aa sQ;have G5:=G4.below b5;have s5:=s4.below b5 U;have bc:=ay.below b5;have bi:Vy (∀c:Int,EOk w5 pb W H Y f c):=λ c=>(a1.out c).below b5;generalize bq:G w4.heap=r at *;clear G4 s4 ay a1 b5 X9;go_frame;go_loopg [] (cM T 256) (λ gk wr=>∃left cnt N,gk=cnt/\BC wr tb r T left cnt/\GSt wr rb pb mb W H (V+1) WM N/\az wr/\Vy (∀i:Int,T i=Q->left i=Vl->EOk wr pb W H WM N i)/\Vy (∀i:Int,¬(T i=Q/\left i=Vl)->EOk wr pb W H Y N i)/\Vy (∀(c:Int) v g,N c=Z v->M' v=Z g->Q9 g)/\ai (λ k=>k=pb\/k=mb) w wr)
 case atStart =>
  refine⟨_,_,f,rfl,bb,G5,s5,λ i h1 t=>?_,λ i _=>bi.out i,bf,bc⟩;rw[eF,h1]at t;cases t
 case round =>
  obtain⟨left,cnt,N,WV,Xd,Gr,sr,XD,Wl,We,hK⟩:=hrel;go_wp2_with (first|(at_next;refine di rfl _ rfl 3 aV tb r _ _ _ _ rfl Xd ?_ ?_)|go_in)
  ·intro bs XN;have HF:Vy (∀i:Int,EOk wr pb W H WM N i):=λ i=>by
    by_cases B:T i=Q
    ·exact XD.out i B (XN i)
    ·have an:=λ h=>B ((HT.out i).2 h);exact(Wl.out i (λ h=>B h.1)).loc Wv.out Wm a7 a9 a8 (λ h=>an (SQ h)) (λ h=>an (SP h))
   clear XD Wl;go_wp2;go_ret2;rw[bk.out];exact⟨rfl,⟨N,Gr,HF.out,We.out⟩,hK⟩
  ·intro x v' w6 Wt Zd Yp YQ WU VS W9 Yy ZG;obtain⟨ao,rfl⟩:=kT YQ;have ZF:inB W H x=true:=by
    rcases (HT.out x).1 ao with h|h
    ·exact aR Wm (aI.1 h.1)
    ·exact aR Wm (aI.1 h.1)
   have R:ai (λ k=>k=r) wr w6:=(ai.refl _ _).grown W9 (λ k e _=>by cases e;rfl);have bl:=hK.size;have G6:=Gr.X' R (show rb≠r by omega) (show pb≠r by omega) (show mb≠r by omega);have s6:=sr.X' R (show 3≠r by omega);have K6:=hK.trans R (λ i hi h=>U);have Xl:=Ce w6 G6 s6 ZF;go_wp2_with fail;refine Xl.mono ?_;rintro e w7 ⟨rfl,⟨f2,G7,o,E7,I7⟩,S⟩;have XM:=WU.X' S (show tb≠mb by omega) (show r≠mb by omega);have s7:=s6.X' S a6;have be:=K6.trans S (λ i hi h=>SP h);have HY:Vy (∀i:Int,T i=Q->(left i&&!decide (i=x))=Vl->EOk w7 pb W H WM f2 i):=λ i h1 t=>by
    by_cases e:i=x
    ·rw[e];exact E7
    ·refine((XD.out i h1 (by rw[Q3 e]at t;simpa using t)).kept R (λ v l g j d b _ e=>oU d Xd g b (by rw[e])) rfl).kept S (λ v l g j d b _ e=>bK d G6.mp g b e) (o i e)
   have HN:Vy (∀i:Int,¬(T i=Q/\(left i&&!decide (i=x))=Vl)->EOk w7 pb W H Y f2 i):=λ i h=>by
    have e:i≠x:=λ e=>h ⟨by rw[e];exact ao,by rw[Q2 e];simp⟩;refine((Wl.out i (λ t=>h ⟨t.1,by rw[t.2];rfl⟩)).kept R (λ v l g j d b _ e=>oU d Xd g b (by rw[e])) rfl).kept S (λ v l g j d b _ e=>bK d G6.mp g b e) (o i e)
   have HI:Vy (∀(c:Int) v g,f2 c=Z v->M' v=Z g->Q9 g):=λ c v g h b=>by
    by_cases e:c=x
    ·rw[e]at h;exact hQ.out g (Tg K6.size (I7 v g h b))
    ·rw[o c e]at h;exact We.out c v g h b
   clear Xl XD Wl We Gr sr Xd WU R G6 s6 K6 S E7 I7 o;go_wp2;go_roundg Wt
   case measure=>omega
   case rel=>exact⟨_,Wt,f2,rfl,XM,G7,s7,HY,HN,HI,be⟩
def leV (e:LE):List Value:=[J (e.to:Int),J e.s,J e.d,J e.U6]
def bB (l:List LE):List Value:=l.flatMap leV
theorem dU (e:LE)(l:List LE):bB (e::l)=leV e++bB l:=rfl
theorem fP (l l':List LE):bB (l++l')=bB l++bB l':=by grind [bB]
theorem eQ (e:LE):bB [e]=leV e:=by grind [bB,leV]
theorem Cs (l:List LE):K (bB l)=K l*4:=by
 induction l with
 |nil=>rfl
 |cons n l a=>rw[dU,List.length_append,a,Tk];show 4+_=_;omega
theorem gW (l:List LE):∀u∈bB l,u.oneCell'=true:=by
 intro u b;unfold bB at b;obtain⟨n,_,a⟩:=List.mem_flatMap.1 b;unfold leV at a;simp at a;rcases a with rfl|rfl|rfl|rfl<;>rfl
theorem F4:∀(l:List LE) (i:Nat) (e:LE),l[i]? = Z e->(bB l)[i*4]? = Z (J (e.to:Int))/\(bB l)[i*4+1]? = Z (J e.s)/\(bB l)[i*4+2]? = Z (J e.d)/\(bB l)[i*4+3]? = Z (J e.U6)
 |[],i,e,h=>by simp at h
 |x::l,0,e,h=>by
  simp at h;subst h;rw[dU];exact⟨rfl,rfl,rfl,rfl⟩
 |x::l,i+1,e,h=>by
  have b:=F4 l i e (by simpa using h);have c:K (leV x)=4:=rfl;have a:∀k,(bB (x::l))[(i+1)*4+k]? = (bB l)[i*4+k]? := λ k=>by grind [dU,List.getElem?_append_right]
  exact⟨(a 0).trans b.1,(a 1).trans b.2.1,(a 2).trans b.2.2.1,(a 3).trans b.2.2.2⟩
def dS (w:M) (A:Oa) (l:List LE):Prop:=∀(i:Nat) (e:LE),l[i]? = Z e->∃b o,A=Z (O b o)/\D w (O b (o+i*4))=Z (J (e.to:Int))/\D w (O b (o+i*4+1))=Z (J e.s)/\D w (O b (o+i*4+2))=Z (J e.d)/\D w (O b (o+i*4+3))=Z (J e.U6)
section
variable {w I : M} {A : Option Addr} {l : List LE}
theorem dS.X' (h:dS w A l)(c:ai F w I)(a:∀b o,A=Z (O b o)->¬F b):dS I A l:=by grind [dS,ai.cellOf]
theorem dS.below (h:dS w A l)(a:Bq w I):dS I A l:=h.X' (F:=λ _=>False) (ai.Y' a) (λ _ _ _=>id)
theorem dS.nil (w:M)(A:Oa):dS w A []:=λ i e h=>by simp at h
theorem dS.lt (h:dS w A l)(d:0<K l):∃b o,A=Z (O b o)/\b<G w.heap:=by
 obtain⟨b,o,c,a,_⟩:=h 0 l[0] sQ;exact⟨b,o,c,aB a⟩
theorem dS.drop {o:Nat}(h:dS w (Z (O b o)) l)(k:Nat):dS w (Z (O b (o+k*4))) (l.drop k):=λ i e a=>by
 rw[List.getElem?_drop]at a;obtain⟨n,d,c,m,j,g,f⟩:=h (k+i) e a;cases c;refine⟨b,o+k*4,rfl,?_,?_,?_,?_⟩
 grind
 grind
 grind
 grind
theorem eJ {base:Nat}{v:Vr}(h:G' w base 203 4 v (K l) (bB l)):∃A cap,v=.slice A (K l) cap/\dS w A l/\((A=UP/\l=[])\/∃g,A=Z (O g 0)/\M' v=Z g/\base<=g/\g<G w.heap):=by
 rcases h.2 with⟨rfl,n⟩|⟨g,cap,m,rfl,c,b,_⟩
 grind [TF,dS.nil]
 refine⟨_,_,rfl,λ i e a=>?_,SP ⟨g,rfl,rfl,c,(Array.getElem?_eq_some_iff.1 b).1⟩⟩;obtain⟨k,j,f,d⟩:=F4 l i e a;have o:i<K l:=(Th.1 a).1;refine⟨g,0,rfl,?_,?_,?_,?_⟩;rw[Tm];exact(h.cellAt _ U).trans k;rw[Tm];exact(h.cellAt _ U).trans j;rw[Tm];exact(h.cellAt _ U).trans f;rw[Tm];exact(h.cellAt _ U).trans d
end
def fh (p:LE->Bool) (l:List LE) (k:Nat):List LE:=(l.take k).filter p
theorem Ct {p:LE->Bool}{l:List LE}{e:LE}(h:l[k]? = Z e)(a:p e=Vl):fh p l (k+1)=fh p l k:=by grind [fh,Ty,List.filter_cons_of_neg,Bool.false_eq_true,not_false_eq_true]
theorem x9 {p:LE->Bool}{l:List LE}{e:LE}(h:l[k]? = Z e)(a:p e=Q):fh p l (k+1)=fh p l k++[e]:=by grind [fh,Ty,List.filter_cons_of_pos]
theorem yb {p:LE->Bool}{l:List LE}:K (fh p l k)<=K l:=by grind [fh]
theorem yd {p:LE->Bool}{l:List LE}:fh p l (K l)=l.filter p:=by grind [fh,List.take_length]
theorem zv {gf:Nat}{cs:List Vr}{A:Oa}{l:List LE}{p:LE->Bool}(w:M)(VU:dS w A l)(hl:K l<=256)(ac:∀(g:Array Vr) (w:M),(callFunc gf g).run Vyj w=.ok (.enter gf g) w)
  (hC:∀(I:M) (e:LE),Bq w I->e∈l->Zq gf (.agg #[J (e.to:Int),J e.s,J e.d,J e.U6]::cs).toArray I λ r WX=>r=VJ (.bool (p e))/\Bq I WX) :
  Zq 151 #[.slice A (K l) cap,.func (.func gf) #[] cs.toArray] w λ e I=>∃v,e=VJ v/\G' I (G w.heap) 203 4 v (K (l.filter p)) (bB (l.filter p))/\Bq w I:=by
 obtain⟨i0,hi,VZ,Wa,Wc⟩:=info_parts Tryz.infoE;have HC:=bX hC;clear hC;go_enter func151,ntmps151;go_wp2;go_loopw [5,10] (λ fv iv wr=>∃k:Nat,k<=K l/\iv=J k/\G' wr (G w.heap) 203 4 fv (K (fh p l k)) (bB (fh p l k))/\Bq w wr)
  (λ _ i _=>K l-(intOf i).toNat)
 case atStart=>exact⟨0,Te _,rfl,To _ _ _ _,ae⟩
 case round =>
  obtain⟨k,hk,rfl,c,y⟩:=hrel;by_cases VS:k<K l
  ·obtain⟨e,t⟩:∃e,l[k]? = Z e:=⟨l[k],by simp[VS]⟩;obtain⟨b,o,rfl,q1,q2,q3,q4⟩:=(VU.below y) k e t;have n:e∈l:=List.mem_of_getElem? t;have i1:(0:Int)<=(k:Int):=U;have i2:(k:Int)<(K l:Int):=U;have x:=y.size;have z:Bq w (E wr (VP #[J (e.to:Int),J e.s,J e.d,J e.U6] 203)):=y.alloc x _;have b0:Bq wr (E wr (VP #[J (e.to:Int),J e.s,J e.d,J e.U6] 203)):=ae.alloc aa _;have B:=HC.out (E wr (VP #[J (e.to:Int),J e.s,J e.d,J e.U6] 203)) e z n;have XY:K (fh p l k)<=256:=Tg yb hl;have f:=ak c b0;have N:D (E wr (VP #[J (e.to:Int),J e.s,J e.d,J e.U6] 203)) (O (G wr.heap) 0)=Z (J (e.to:Int)):=SR _ _ _ 0 rfl;have L:D (E wr (VP #[J (e.to:Int),J e.s,J e.d,J e.U6] 203)) (O (G wr.heap) 1)=Z (J e.s):=SR _ _ _ 1 rfl;have H:D (E wr (VP #[J (e.to:Int),J e.s,J e.d,J e.U6] 203)) (O (G wr.heap) 2)=Z (J e.d):=SR _ _ _ 2 rfl;have C:D (E wr (VP #[J (e.to:Int),J e.s,J e.d,J e.U6] 203)) (O (G wr.heap) 3)=Z (J e.U6):=SR _ _ _ 3 rfl;have ab:Vy (leV e=[J (e.to:Int),J e.s,J e.d,J e.U6]):=rfl;have Wl:=λ h=>Ct (p:=p) t h;have m:=λ h=>x9 (p:=p) t h;generalize R:p e=pe at *;have Y:=qH Wl;have j:=qH m;clear Wl m R n t c b0 y;generalize (e.to:Int)=S at *;generalize e.s=T at *;generalize e.d=W at *;generalize e.U6=V at *;have hX:G w.heap<=G wr.heap:=x;cases pe with
   |false =>
    have HS:=qH (Y.out rfl);clear Y j;go_wp2_with fail;generalize E wr (VP #[VN VO S,VN VO T,VN VO W,VN VO V] 203)=w1 at *;refine Q9 B λ w2 a=>?_;have X:=ak f a;have B2:=aj z a;clear B f a N L H C z;go_wp2;go_roundw
    case rel=>exact⟨k+1,U,gQ,by rw[HS.out];exact X,B2⟩
    case measure=>simp[intOf];omega
   |true =>
    have HS:=qH (j.out rfl);clear Y j;generalize fh p l k=F at *;go_wp2_with fail;generalize E wr (VP #[VN VO S,VN VO T,VN VO W,VN VO V] 203)=w1 at *;refine Q9 B λ w2 a=>?_;have Xj:=ak f a;have B3:=aj z a;have y0:=al a N;have y1:=al a L;have y2:=al a H;have y3:=al a C;have P:=B3.size;clear B f a N L H C z;go_wp2_with (at_builtin;refine Vxk _ rfl _ _ 140 rfl (G w.heap) 203 i0 (.agg #[J 0,J 0,J 0,J 0]) 4 32 Tryz.Vxb hi VZ Wa Wc rfl dQ _ _ _ rfl (Xj.alloc _) (O (G w2.heap) 0) 1 1 [J S,J T,J W,J V] rfl rfl (bO _ _ _ _ _ _) (by intro u hu;simp at hu;rcases hu with rfl|rfl|rfl|rfl<;>rfl) ?c3 ?c4 ?c5 ?_)
    case c3=>unfold maxLen;omega
    case c4=>omega
    case c5=>simp;omega
    intro v' w4 VR VQ _;have VV:=λ q hq=>(Xj.lt q hq).1;have B4:Bq w w4:=(B3.alloc P _).grown VQ sU VV;have O4:G' w4 (G w.heap) 203 4 v' (K (F++[e])) (bB (F++[e])):=by
     rw[fP,eQ,ab.out]
     simpa using VR
    clear VR VQ Xj B3 y0 y1 y2 y3;go_wp2;go_roundw
    case rel=>exact⟨k+1,U,gQ,by rw[HS.out];exact O4,B4⟩
    case measure=>simp[intOf];omega
  ·have e:k=K l:=U;subst e;have HF:Vy (fh p l (K l)=l.filter p):=yd;rw[HF.out]at c;go_wp2;go_ret;exact⟨_,rfl,c,y⟩
theorem En {A:Oa}{l:List LE}{p:LE->Bool}(w:M)(f:dS w A l)(a:K l<=256)
  (b:∀(I:M) (e:LE),Bq w I->e∈l->Zq 152 #[.agg #[J (e.to:Int),J e.s,J e.d,J e.U6]] I λ r c=>r=VJ (.bool (p e))/\Bq I c) :
  Zq 151 #[.slice A (K l) cap,.func (.func 152) #[] #[]] w λ e I=>∃v,e=VJ v/\G' I (G w.heap) 203 4 v (K (l.filter p)) (bB (l.filter p))/\Bq w I :=
 zv (cs:=[]) w f a (λ _ _=>kQ) b
theorem Jd {A:Oa}{l:List LE}{p:LE->Bool}(w:M)(f:dS w A l)(a:K l<=256)
  (b:∀(I:M) (e:LE),Bq w I->e∈l->Zq 214 #[.agg #[J (e.to:Int),J e.s,J e.d,J e.U6],Pq xb] I λ r c=>r=VJ (.bool (p e))/\Bq I c) :
  Zq 151 #[.slice A (K l) cap,.func (.func 214) #[] #[Pq xb]] w λ e I=>∃v,e=VJ v/\G' I (G w.heap) 203 4 v (K (l.filter p)) (bB (l.filter p))/\Bq w I :=
 zv (cs:=[Pq xb]) w f a (λ _ _=>kQ) b
theorem Eo {kb nb:Nat}{A:Oa}{l:List LE}{p:LE->Bool}(w:M)(f:dS w A l)(a:K l<=256)
  (b:∀(I:M) (e:LE),Bq w I->e∈l->Zq 278 #[.agg #[J (e.to:Int),J e.s,J e.d,J e.U6],Pq kb,Pq nb,Pq xb] I λ r c=>r=VJ (.bool (p e))/\Bq I c) :
  Zq 151 #[.slice A (K l) cap,.func (.func 278) #[] #[Pq kb,Pq nb,Pq xb]] w λ e I=>∃v,e=VJ v/\G' I (G w.heap) 203 4 v (K (l.filter p)) (bB (l.filter p))/\Bq w I :=
 zv (cs:=[Pq kb,Pq nb,Pq xb]) w f a (λ _ _=>kQ) b
theorem Tryz.Vxf:Tryz.prog.underlying 144=Z (.map 3 3):=kQ
theorem Tryz.Vxc:Tryz.prog.underlying 251=Z (.map 3 90):=kQ
theorem k9 (w:M):(zeroValue 90).run Vyj w=.ok (.agg #[J 0,J 0]) w:=kQ
def lvF (L:Ln) (VE:Nat->Nat):Int->Option Value:=λ i=>if 0<=i/\i.toNat∈L then Z (J (VE i.toNat:Int)) else UP
theorem vO {L:Ln}{VE:Nat->Nat}(h:n∈L):lvF L VE (n:Int)=Z (J (VE n:Int)):=by grind [lvF,Int.toNat_natCast]
theorem ON {L:Ln}{VE:Nat->Nat}(h:n∈L)(t:Nat):bQ (lvF L VE) (n:Int) (J (t:Int))=lvF L (λ k=>if k=n then t else VE k):=by grind [bQ,lvF]
structure cR (w:M) (N lb vb eb:Nat) (top:Nat) (L:Ln) (st:LSt) (f:Int->Option Vr):Prop where
 c0:D w (O lb 0)=Z (J (top:Int))
 c1:D w (O lb 1)=Z (.map (Z vb))
 c2:D w (O lb 2)=Z (.map (Z eb))
 fz:w.frozen? (O lb 0)=Vl
 lv:bj Vyj 3 w vb (lvF L st.VE) (K L)
 em:bj Vyj 3 w eb f (K L)
 row:∀n∈L,∃v,f (n:Int)=Z v/\G' w N 203 4 v (K (st.es n)) (bB (st.es n))
 no:∀i v,f i=Z v->0<=i/\i.toNat∈L
 apart:∀n m v v' g,f n=Z v->f m=Z v'->M' v=Z g->M' v'=Z g->n=m
 off:∀n v,f n=Z v->M' v≠Z lb
 nb:N<=lb/\N<=vb/\N<=eb
 ne:vb≠eb
 bd:∀n∈L,n<256
 len:K L<=256
def LvB (lb vb eb:Nat) (f:Int->Option Vr) (g:Nat):Prop:=g=lb\/g=vb\/g=eb\/∃i v,f i=Z v/\M' v=Z g
section
variable {w I : M} {N lb vb eb top : Nat} {L : List Nat} {st : LSt} {f : Int → Option Vr}
theorem cR.lts (V:cR w N lb vb eb top L st f):lb<G w.heap/\vb<G w.heap/\eb<G w.heap:=⟨aB V.c0,V.lv.lt,V.em.lt⟩
theorem cR.nes (V:cR w N lb vb eb top L st f):lb≠vb/\lb≠eb:=by
 constructor;intro e;have h:=V.lv.cell 0;rw[<- e,V.c0]at h;cases h;intro e;have h:=V.em.cell 0;rw[<- e,V.c0]at h;cases h
theorem cR.X' (V:cR w N lb vb eb top L st f)(a:ai F w I)(h:∀g,LvB lb vb eb f g->¬F g):cR I N lb vb eb top L st f:=by
 have b:=h lb (SQ rfl);refine⟨a.cellOf V.c0 b,a.cellOf V.c1 b,a.cellOf V.c2 b,(a.frozen (p:=O lb 0) V.lts.1 b).trans V.fz,V.lv.X' a (h vb (SP (SQ rfl))),V.em.X' a (h eb (SP (SP (SQ rfl)))),λ n d=>?_,V.no,V.apart,V.off,V.nb,V.ne,V.bd,V.len⟩;obtain⟨v,c,i⟩:=V.row n d;exact⟨v,c,br i a (λ g e=>h g (SP (SP (SP ⟨_,v,c,e⟩))))⟩
theorem cR.below (V:cR w N lb vb eb top L st f)(a:Bq w I):cR I N lb vb eb top L st f:=V.X' (F:=λ _=>False) (ai.Y' a) (λ _ _=>id)
theorem cR.look (V:cR w N lb vb eb top L st f){n:Nat}(a:n∈L):(Instr.lookup 144 (.map (Z vb)) (J (n:Int)) Vl).run Vyj w=.ok (J (st.VE n:Int)) w :=
 V.lv.Ui aV Tryz.Vxf (mX w) (aE U (Oq (V.bd n a))) (vO a) Vl
theorem cR.edges (V:cR w N lb vb eb top L st f){n:Nat}(a:n∈L):∃A cap,(Instr.lookup 137 (.map (Z eb)) (J (n:Int)) Vl).run Vyj w=.ok (.slice A (K (st.es n)) cap) w/\dS w A (st.es n)/\f (n:Int)=Z (.slice A (K (st.es n)) cap):=by
 obtain⟨v,b,d⟩:=V.row n a;obtain⟨A,cap,rfl,c,_⟩:=eJ d;exact⟨A,cap,V.em.Ui aV Tryz.Vxa (mm w) (aE U (Oq (V.bd n a))) b Vl,c,b⟩
end
theorem vP {L:Ln}{st:LSt}(w:M)(V:cR w N lb vb eb top L st f)(b:n∈L) :
  Eq9 215 #[Pq lb,J (n:Int)] w (.bool (st.VE n==0)):=by
 have d:=V.look b;have g:=V.c1;have a:(st.VE n==0)=decide ((st.VE n:Int)=0):=by
  by_cases e:st.VE n=0
  ·rw[e];rfl
  ·have c:¬(st.VE n:Int)=0:=U;rw[Q3 c];simpa using e
 rw[a];clear V a;generalize (st.VE n:Int)=k at *;go_enter func215,ntmps215;go_wp2;go_ret;exact⟨rfl,rfl⟩
theorem MX {L:Ln}{st:LSt}(w:M)(V:cR w N lb vb eb top L st f)(b:Cq w xb 0 (Pq lb))(e:LE)(h:e.to∈L) :
  Zq 214 #[.agg #[J (e.to:Int),J e.s,J e.d,J e.U6],Pq xb] w λ r I=>r=VJ (.bool (st.VE e.to==0))/\Bq w I:=by
 have a:Bq w (E w (VP #[J (e.to:Int),J e.s,J e.d,J e.U6] 203)):=ae.alloc aa _;have c:=vP _ (V.below a) h;have g:=al a b;clear V b;generalize (st.VE e.to==0)=r at *;generalize (e.to:Int)=i at *;generalize e.s=j at *;generalize e.d=l at *;generalize e.U6=k at *;go_enter func214,ntmps214;go_wp2_with fail;refine Q0 c ?_;clear c;go_wp2;go_ret;exact⟨rfl,a⟩
theorem Je {kb nb:Nat}{L:Ln}{st:LSt}{F:Int->Oi}(w:M)(V:cR w N lb vb eb top L st f)(A:Cq w xb 0 (Pq lb))
  (C:Cq w kb 0 (.map (Z mb))) (B:Cq w nb 0 (J (n:Int))) (T:bj Vyj 3 w mb (fv F) k) (e:LE) (H:e.to∈L) :
  Zq 278 #[.agg #[J (e.to:Int),J e.s,J e.d,J e.U6],Pq kb,Pq nb,Pq xb] w λ r I=>r=VJ (.bool (!(F (e.to:Int)).isSome&&(decide (e.to≠n)&&(st.VE e.to==0))))/\Bq w I:=by
 have b:Bq w (E w (VP #[J (e.to:Int),J e.s,J e.d,J e.U6] 203)):=ae.alloc aa _;have h:=aE (a:=(e.to:Int)) U (Oq (V.bd _ H));have o:=T.X' (F:=λ _=>False) (ai.Y' b) id;have v:=al b A;have Y:=al b C;have i:=al b B;have t:=V.below b;have W:D (E w (VP #[J (e.to:Int),J e.s,J e.d,J e.U6] 203)) (O (G w.heap) 0)=Z (J (e.to:Int)):=SR _ _ _ 0 rfl;have j:decide (e.to≠n)=decide (¬(e.to:Int)=(n:Int)):=by
  by_cases q:e.to=n
  ·have p:(e.to:Int)=(n:Int):=U;rw[Q3 (by simpa using q),Q3 (by simpa using p)]
  ·have p:¬(e.to:Int)=(n:Int):=U;rw[Q2 q,Q2 p]
 rw[j];clear j T V A C B;cases l:F (e.to:Int) with
 |some c =>
  obtain⟨s,d⟩:=c;have X:(Instr.lookup 251 (.map (Z mb)) (J (e.to:Int)) Q).run Vyj (E w (VP #[J (e.to:Int),J e.s,J e.d,J e.U6] 203))=.ok (.tuple #[.agg #[J s,J d],.bool Q]) (E w (VP #[J (e.to:Int),J e.s,J e.d,J e.U6] 203)):=o.Ui aV Tryz.Vxc (k9 _) h (iW l) Q;have g:(!(Z (s,d)).isSome&&(decide (¬(e.to:Int)=(n:Int))&&(st.VE e.to==0)))=false:=rfl;rw[g];have u:=b.alloc b.size (VP #[J s,J d] 90);clear g l o t;generalize (e.to:Int)=z at *;generalize e.s=P at *;generalize e.d=S at *;generalize e.U6=R at *;go_enter func278,ntmps278;go_wp2;go_ret;exact⟨rfl,u⟩
 |none =>
  have X:(Instr.lookup 251 (.map (Z mb)) (J (e.to:Int)) Q).run Vyj (E w (VP #[J (e.to:Int),J e.s,J e.d,J e.U6] 203))=.ok (.tuple #[.agg #[J 0,J 0],.bool Vl]) (E w (VP #[J (e.to:Int),J e.s,J e.d,J e.U6] 203)):=o.u6 aV Tryz.Vxc (k9 _) h (lX l) Q;have u:=b.alloc b.size (VP #[J 0,J 0] 90);have m:Bq (E w (VP #[J (e.to:Int),J e.s,J e.d,J e.U6] 203)) ((E w (VP #[J (e.to:Int),J e.s,J e.d,J e.U6] 203)).alloc (VP #[J 0,J 0] 90)):=ae.alloc aa _;have y:=vP _ (t.below m) H;have YF:=al m v;have x:=al m i;have x1:=al m W;by_cases q:(e.to:Int)=(n:Int)
  ·have g:(!(UP:Oi).isSome&&(decide (¬(e.to:Int)=(n:Int))&&(st.VE e.to==0)))=false:=(by rw[Q3 (by simpa using q)];rfl);rw[g];rw[<- q]at i x;clear g l o t y m q;generalize (e.to:Int)=z at *;generalize e.s=P at *;generalize e.d=S at *;generalize e.U6=R at *;go_enter func278,ntmps278;go_wp2;go_ret;exact⟨rfl,u⟩
  ·have g:(!(UP:Oi).isSome&&(decide (¬(e.to:Int)=(n:Int))&&(st.VE e.to==0)))=(st.VE e.to==0):=(by rw[Q2 q];rfl);rw[g];clear g l o t;generalize (st.VE e.to==0)=r at *;generalize (e.to:Int)=z at *;generalize e.s=P at *;generalize e.d=S at *;generalize e.U6=R at *;have p:(z != (n:Int))=true:=by simpa using q
   go_enter func278,ntmps278;go_wp2_with fail;refine Q0 y ?_;clear y;go_wp2;go_ret;refine⟨?_,u⟩;simp
end Go.Proofs.YtikdmenjibkgiaaGreatDoor
