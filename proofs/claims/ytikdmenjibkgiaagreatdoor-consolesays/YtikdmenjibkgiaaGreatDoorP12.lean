/- Texts laid together. -/
import Derived.Test.YtikdmenjibkgiaaGreatDoorP11
import Derived.Deep.CutRange
namespace Go.Proofs.YtikdmenjibkgiaaGreatDoor
open _root_.Array renaming size->G
open _root_.List renaming mem_cons_self->Tp,getD_eq_getElem?_getD->Tt,length_cons->Tk,length_eq_zero_iff->TF,append_nil->TU,length_append->Td,drop_eq_getElem?_toList_append->Vb,getElem?_eq_getElem->SU,length->K
open _root_.Or renaming inl->SQ,inr->SP
open Go.World renaming cell?_alloc_at->SR,cell?_setCell_same->Tf,cell?_setCell_other->SY,cell?->D,alloc->E,setCell->C',ownsRow->G'
open _root_.Nat renaming zero_add->Tm
open Go.Value renaming int->VN,ownBlock->M'
open Go.IntKind renaming i64->VO
open Go.Proofs.Tryz
open _root_.Option renaming some->Z
open _root_.Bool renaming true->Q,false->Vl
open Go renaming World->M,Value->Vr,bodyPost_ret->Vxl
open Go.RowKit renaming Hid->Vy
open Go.Ending renaming returned->VJ
open Go.Obj renaming cells->VP
variable {N lb r nh n N0 vb eb top ne Ne cap i:Nat}{gv v ve gv2:Vr}{g g2:Int->Int×Int}{src Zl:Int->Int->Int->Prop}{P P2:Int->Int->Prop}{w:M}{f:Int->Option Vr}{s s2 d2:Int}
set_option maxHeartbeats 8000000
set_option maxRecDepth 1000000
open Go.RowKit
theorem yw (F:Int->Oi)(a:Int)(N:Nat)(h:(N:Int)<=a):cnt (lu F a) N=cnt F N:=by
 induction N with
 |zero=>rfl
 |succ N b =>
  unfold cnt;rw[b U,fM F U]
theorem No (F:Int->Oi)(a:Int)(N:Nat)(d:0<=a)(h:a<N)(c:(F a).isSome=Q):cnt (lu F a) N+1=cnt F N:=by
 induction N with
 |zero=>omega
 |succ N b =>
  unfold cnt;by_cases e:a=N
  grind [yw,hJ]
  grind [fM]
theorem CQ (F:Int->Oi)(a s d:Int)(N:Nat):cnt (aC F a s d) N<=cnt F N+1:=by
 by_cases g:0<=a/\a<N;cases e:F a with
 |none=>rw[gZ F a s d N g.1 g.2 e];exact aa
 |some c=>rw[jF F a s d N (by rw[e];rfl)];omega
 have f:∀b:Nat,(b:Int)<=N->cnt (aC F a s d) b=cnt F b:=λ b i=>by
  induction b with
  |zero=>rfl
  |succ b h =>
   unfold cnt;rw[h U,aS F s d U]
 rw[f N (Int.le_refl _)];omega
def mu (x:SS):Nat:=2*iV 109969568169985 x.F 256+cnt x.H 256
section
variable {L : List Nat} {lv : LSt} {r : Nat} {g : Int → Int × Int} {src : Int → Int → Int → Prop} {x : SS}
theorem SI.mu_step (m:fN L lv){n:Nat}{o:Int->Prop}(h:SI L lv r g src (λ a b=>a≠(n:Int)\/o b) x){s d:Int}(c:x.F (n:Int)=Z (s,d))(l:x.H (n:Int)=none){e:LE}(k:e∈lv.es n):mu (dB lv r g n x e)<=mu x:=by
 by_cases f:lv.VE n+r<=lv.VE e.to;rw[zN c f];by_cases i:bE x.F (e.to:Int) (s+e.s) (d+e.d)=Q;rw[Q5 i];obtain⟨_,j,q⟩:=h.low m c l k f i;rw[j];have p:=CQ x.H (e.to:Int) (s+e.s+(g e.to).1) (d+e.d+(g e.to).2) 256;unfold mu;show 2*iV 109969568169985 (aC x.F (e.to:Int) (s+e.s) (d+e.d)) 256+cnt (aC x.H (e.to:Int) (s+e.s+(g e.to).1) (d+e.d+(g e.to).2)) 256<=_;omega
 grind
 grind [zO]
theorem SI.mu_fold (i:fN L lv){n:Nat}{s d:Int}:∀{l:List LE}{m:Int->Prop}{x:SS},(∀e∈l,e∈lv.es n)->SI L lv r g src (λ a b=>a≠(n:Int)\/m b) x->x.F (n:Int)=Z (s,d)->x.H (n:Int)=none->mu (l.foldl (dB lv r g n) x)<=mu x
 |[],_,_,_,_,_,_=>aa
 |e::l,m,x,c,h,j,k=>by
  obtain⟨u,t,q⟩:=h.step i j k (c e (Tp ..));have p:=h.mu_step i j k (c e (Tp ..));have o:=SI.mu_fold i (λ v f=>c v (List.mem_cons_of_mem _ f)) u t q;exact Nat.le_trans o p
theorem SI.mu_go (i:fN L lv)(h:SI L lv r g src (λ _ _=>True) x){n:Nat}{p q:Int}(e:x.H (n:Int)=Z (p,q)):mu (goS lv r g n (jG x (n:Int)))<mu x:=by
 obtain⟨s,d,c,_⟩:=h.key e;have m:=(h.pop (n:Int)).mono (P':=λ a b=>a≠(n:Int)\/False) (λ _ _ k _=>⟨by rcases k with q|q;exact q;exact q.elim,trivial⟩);have j:=SI.mu_fold i (l:=lv.es n) (λ _ h=>h) m c (hJ _ _);have f:=(h.lab c).2.1;rw[Int.toNat_natCast]at f;have t:=i.small _ f;have o:=No x.H (n:Int) 256 U U (by rw[e];rfl);unfold goS;refine Nat.lt_of_le_of_lt j ?_;unfold mu;show 2*iV 109969568169985 x.F 256+cnt (lu x.H (n:Int)) 256<_;omega
theorem SI.popped (h:SI L lv r g src (λ _ _=>True) x)(n:Nat):SI L lv r g src (λ a _=>a≠(n:Int)\/False) (jG x (n:Int)):=by grind [jG,SI.mono,SI.pop,LvE]
end
def Sh (w I:M) (N:Nat) (k:SBk) (lb r:Nat) (gv v:Vr) (na:Nat) (x:SS) (e:Ending):Prop :=
 ∃(n s d:Int) (b:Bool) (v':Vr) (YA:Nat),e=VJ (.tuple #[J n,.agg #[J s,J d],.bool b])/\okC s d/\ai (sb5 k v) w I/\M' v'=M' v /\
  ((b=Vl/\(∀a,x.H a=none)/\bh I N k lb r gv v' YA na x)\/(b=Q/\∃n':Nat,n=(n':Int)/\n'<256/\Bt x.H (n':Int) s d/\bh I N k lb r gv v' YA na (jG x (n':Int))))
theorem p7 {j:Nat}{k:SBk}{x:SS}(w:M)(S:bh w N k lb r gv v nh j x)(t:∀{a s d},x.H a=Z (s,d)->0<=a/\a<256) :
  Zq 199 #[Pq k.hb] w λ e I=>Sh w I N k lb r gv v j x e:=by
 have f:N<=G w.heap:=by have:=S.nb.1;have:k.sb<G w.heap:=aB S.c0;omega
 cases nh with
 |zero=>exact(Bi w S.hp).mono λ e I ⟨i,b⟩=>⟨0,0,0,Vl,v,0,i,by unfold okC;omega,ai.Y' b,rfl,SQ ⟨rfl,λ a=>S.hp.empty a,S.below b⟩⟩
 |succ m =>
  refine(zb w S.hp).mono λ e I ⟨a,s,d,i,b,z,⟨p,y,l⟩,o⟩=>?_;have q:=t b;have c:=(S.hp.fits b).1;obtain⟨n,rfl⟩:∃n:Nat,a=(n:Int):=⟨a.toNat,U⟩;exact⟨(n:Int),s,d,Q,p,m,i,c,o.mono (λ _ _ h=>SP (SP h)),l,SP ⟨rfl,n,rfl,U,⟨b,z⟩,S.heap o y (λ g u=>SQ (by rw[<- l];exact u)) f⟩⟩
theorem SI.key256 {L:Ln}{lv:LSt}{z:SS}(f:fN L lv)(h:SI L lv r g src P z){a s d:Int}(e:z.H a=Z (s,d)):0<=a/\a<256:=by
 obtain⟨i,k,c,_⟩:=h.key e;obtain⟨j,b,_⟩:=h.lab c;have:=f.small _ b;omega
structure MR (w wE wr:M) (k:SBk) (lb gf:Nat) (cs:List Vr) (L:Ln) (lv:LSt) (g:Int->Int×Int) (src:Int->Int->Int->Prop) (y x0:SS) (gk:Nat) (U6 fnd nv cv mv:Vr):Prop where
 ex:∃(x:SS) (m:Mt) (v:Vr) (nh cb:Nat) (n s d:Int) (b:Bool),U6=J m.n/\fnd=.bool m.f/\nv=J n/\cv=Pq cb/\mv=.bool b/\G w.heap+1<cb/\bz wr (G w.heap) 0 0/\bz wr (G w.heap+1) m.s m.d/\bz wr cb s d/\(∀q,M' v=Z q->q≠G w.heap/\q≠G w.heap+1/\q≠cb)/\MI L lv g src y.F x m/\(∀j x' m',ng lv g y.F j x m x' m'->∃j',ng lv g y.F j' x0 ⟨0,0,0,Vl⟩ x' m')/\gk=mu x/\okC s d /\
  ((b=Vl/\(∀a,x.H a=none)/\bh wr (G wE.heap) k lb 0 (.func (.func gf) #[] cs.toArray) v nh (ca x.A) x)\/(b=Q/\∃n':Nat,n=(n':Int)/\n'<256/\Bt x.H (n':Int) s d/\bh wr (G wE.heap) k lb 0 (.func (.func gf) #[] cs.toArray) v nh (ca x.A) (jG x (n':Int))))
 Y:Below (G wE.heap) wE wr
theorem bh.lookF {k:SBk}{b:Nat}{x:SS}(S:bh w N k lb r gv v nh b x){c:Int}(a:(Lit.int .i64 c).wf=Q):(Instr.lookup 251 (.map (Z k.cb)) (J c) Q).run prog w=.ok (.tuple #[.agg #[J ((x.F c).getD (0,0)).1,J ((x.F c).getD (0,0)).2],.bool (x.F c).isSome]) w:=by
 cases h:x.F c with
 |none=>exact S.fm.u6 aV Tryz.Vxc (k9 _) a (lX h) Q
 |some m=>exact S.fm.Ui aV Tryz.Vxc (k9 _) a (iW (s:=m.1) (d:=m.2) h) Q
def cB (E9:Int->Oi) (n:Nat) (fs fd ms md:Int) (mf:Bool):Bool:=(E9 (n:Int)).isSome&&(!mf || decide (val (fs+((E9 (n:Int)).getD (0,0)).1) (fd+((E9 (n:Int)).getD (0,0)).2)<val ms md))
theorem Pz {E9:Int->Oi}{x:SS}{a b mn ms md:Int}{mf:Bool}(c:x.F (n:Int)=Z (a,b)):mtS E9 x n ⟨mn,ms,md,mf⟩=if cB E9 n a b ms md mf=Q then ⟨(n:Int),a+((E9 (n:Int)).getD (0,0)).1,b+((E9 (n:Int)).getD (0,0)).2,Q⟩ else ⟨mn,ms,md,mf⟩:=by grind [mtS,cB]
theorem JG {gf:Nat}{k ke:SBk}{L:Ln}{lv:LSt}{v:Vr}{cs:List Vr}{x y:SS}(w0 wE w:M)(V0:cR w0 N0 lb vb eb top L lv f)(O9:fN L lv)(ek:∀n,1<=lv.VE n/\lv.VE n<=7)(hg:CN w0 (G w0.heap) gf cs g)(c4:Bq w0 wE)(en:∀n:Nat,0<=(g n).1/\(g n).1<=1024/\0<=(g n).2/\(g n).2<=1024)
  (SE:bh wE Ne ke lb 1 gv2 ve ne (ca y.A) y) (hY:SI L lv 1 g2 Zl (λ _ _=>True) y) (c2:Bq wE w) (S:bh w (G wE.heap) k lb 0 (.func (.func gf) #[] cs.toArray) v nh (ca x.A) x) (hM:MI L lv g src y.F x ⟨0,0,0,Vl⟩) :
  Zq 201 #[Pq k.sb,Pq ke.sb] w λ e I=>∃(j:Nat) (x':SS) (m:Mt),ng lv g y.F j x ⟨0,0,0,Vl⟩ x' m/\e=VJ (.tuple #[J m.n,.agg #[J m.s,J m.d],.bool m.f])/\(∃v' YA,bh I (G wE.heap) k lb 0 (.func (.func gf) #[] cs.toArray) v' YA (ca x'.A) x')/\Bq wE I:=by
 have bM:G wE.heap<=G w.heap:=c2.size;have b1:Bq w ((E w (VP #[J 0,J 0] 90)).alloc (VP #[J 0,J 0] 90)):=(ae.alloc aa _).alloc sQ _;have S1:=S.below b1;have cj:bz ((E w (VP #[J 0,J 0] 90)).alloc (VP #[J 0,J 0] 90)) (G w.heap) 0 0:=(bz.new w 0 0).below (ae.alloc aa _);have ci:bz ((E w (VP #[J 0,J 0] 90)).alloc (VP #[J 0,J 0] 90)) (G w.heap+1) 0 0:=by
  have h:=bz.new (E w (VP #[J 0,J 0] 90)) 0 0;have e:G (E w (VP #[J 0,J 0] 90)).heap=G w.heap+1:=by simp
  rw[e]at h;exact h
 have fA:G ((E w (VP #[J 0,J 0] 90)).alloc (VP #[J 0,J 0] 90)).heap=G w.heap+2:=by simp
 have m5:=S1.c5;have XI:=p7 _ S1 (λ ha=>hM.si.key256 O9 ha);have a8:Vy (k.cb<G w.heap/\k.ab<G w.heap/\k.hb<G w.heap/\k.mb<G w.heap/\∀q,M' v=Z q->q<G w.heap):=⟨S.fm.lt,S.am.lt,S.hp.blocks.1,S.hp.blocks.2.1,S.hp.blocks.2.2⟩;have cc:Vy (k.sb≠G w.heap/\k.sb≠G w.heap+1):=by
  have:k.sb<G w.heap:=aB S.c0;exact⟨U,U⟩
 have ey:Vy (k.sb<G w.heap):=aB S.c0;go_enter func201,ntmps201;go_wp2_with fail;generalize (E w (VP #[VN VO 0,VN VO 0] 90)).alloc (VP #[VN VO 0,VN VO 0] 90)=w1 at *;refine XI.mono ?_;rintro e w2 ⟨n,s,d,b,v2,ec,rfl,cy,K2,cz,Xk⟩;have nZ:¬sb5 k v (G w.heap):=λ h=>by
  obtain⟨h1,h2,h3,h4,h5⟩:=a8.out;rcases h with h|h|h|h|h
  ·omega
  ·omega
  ·omega
  ·omega
  ·have:=h5 _ h;omega
 have nC:¬sb5 k v (G w.heap+1):=λ h=>by
  obtain⟨h1,h2,h3,h4,h5⟩:=a8.out;rcases h with h|h|h|h|h
  ·omega
  ·omega
  ·omega
  ·omega
  ·have:=h5 _ h;omega
 have X4:=cj.X' K2 nZ;have cg:=ci.X' K2 nC;have Wc:G w.heap+2<=G w2.heap:=by have:=K2.size;omega
 have b3:Bq w2 (E w2 (VP #[J s,J d] 90)):=ae.alloc aa _;have B2:Bq wE (E w2 (VP #[J s,J d] 90)):=((c2.trans (b1.mono bM)).trans (S1.Z' K2)).trans (b3.mono U);have Xm:Vy (MR w wE (E w2 (VP #[J s,J d] 90)) k lb gf cs L lv g src y x (mu x) (J 0) (.bool Vl) (J n) (Pq (G w2.heap)) (.bool b)):=by
  refine⟨⟨x,⟨0,0,0,Vl⟩,v2,ec,G w2.heap,n,s,d,b,rfl,rfl,rfl,rfl,rfl,U,X4.below b3,cg.below b3,bz.new w2 s d,λ q T=>?_,hM,λ j x' m' h=>⟨j,h⟩,rfl,cy,?_⟩,B2⟩
  ·rw[cz]at T;have:=a8.out.2.2.2.2 q T;omega
  ·rcases Xk with⟨h1,h2,h3⟩|⟨h1,B,h2,h3,h4,h5⟩
   ·exact SQ ⟨h1,h2,h3.below b3⟩
   ·exact SP ⟨h1,B,h2,h3,h4,h5.below b3⟩
 clear XI K2 cj ci X4 cg S1 b1 b3 B2 Xk cz m5 cy nZ nC;go_wp2;go_loopg [7,9,10,11,12] (mu x) (λ gk U6 b2 nv cv mv wr=>MR w wE wr k lb gf cs L lv g src y x gk U6 b2 nv cv mv)
 case atStart=>exact Xm.out
 case round =>
  clear Xm;obtain⟨⟨xi,⟨mn,l,o,R⟩,v3,cl,cb,n3,s3,d3,b3,rfl,rfl,rfl,rfl,rfl,a5,X,ag,aN,a4,bZ,Xz,WV,bk,Xk⟩,WQ⟩:=hrel;dsimp only at ag;have HG:=qH WV;have HC:=qH Xz;have ay:=qH bZ;have e0:=qH a4;have HR:Vy (∀(v':Vr) (YA:Nat) (x':SS) (I:M),ng lv g y.F 0 xi ⟨mn,l,o,R⟩ x' ⟨mn,l,o,R⟩->bh I (G wE.heap) k lb 0 (.func (.func gf) #[] cs.toArray) v' YA (ca x'.A) x'->Bq wE I->∃(j:Nat) (x':SS) (m':Mt),ng lv g y.F j x ⟨0,0,0,Vl⟩ x' m'/\Ending.returned (.tuple #[J mn,.agg #[J l,J o],.bool R])=VJ (.tuple #[J m'.n,.agg #[J m'.s,J m'.d],.bool m'.f])/\(∃v' YA,bh I (G wE.heap) k lb 0 (.func (.func gf) #[] cs.toArray) v' YA (ca x'.A) x')/\Bq wE I):=λ v' YA x' I h1 h2 h3=>by
   obtain⟨j,hj⟩:=Xz 0 x' _ h1;exact⟨j,x',_,hj,rfl,⟨v',YA,h2⟩,h3⟩
  have ax:Vy (¬sb5 k v3 (G w.heap)/\¬sb5 k v3 (G w.heap+1)/\¬sb5 k v3 cb):=by
   obtain⟨h1,h2,h3,h4,_⟩:=a8.out;refine⟨λ h=>?_,λ h=>?_,λ h=>?_⟩
   ·rcases h with h|h|h|h|h
    ·omega
    ·omega
    ·omega
    ·omega
    ·exact(a4 _ h).1 rfl
   ·rcases h with h|h|h|h|h
    ·omega
    ·omega
    ·omega
    ·omega
    ·exact(a4 _ h).2.1 rfl
   ·rcases h with h|h|h|h|h
    ·omega
    ·omega
    ·omega
    ·omega
    ·exact(a4 _ h).2.2 rfl
  have bm:Vy (R=Q->okC l o):=λ h=>by
   obtain⟨C,H,N,P,_,_,f1,_,_,f4,f5,f6,f7,f8,f9⟩:=bZ.fnd h;have:=hY.big f1;dsimp only at f4 f5;unfold okC;omega
  clear WV Xz bZ a4;have r0:=X.c0;have r1:=X.c1;have a3:=X.z0;have a2:=X.z1;have k0:=ag.c0;have k1:=ag.c1;have l0:=aN.c0;have l1:=aN.c1;rcases Xk with⟨rfl,Wl,S3⟩|⟨rfl,B,rfl,fa,bc,S3⟩
  ·clear l0 l1;go_wp2;have Yd:=X.set l o;have q0:D ((C' wr (O (G w.heap) 0) (J l)).setCell (O (G w.heap) 1) (J o)).drew (O (G w.heap) 0)=Z (J l):=Yd.c0;have q1:D ((C' wr (O (G w.heap) 0) (J l)).setCell (O (G w.heap) 1) (J o)).drew (O (G w.heap) 1)=Z (J o):=Yd.c1;have KR:=fq wr (G w.heap) l o;have bI:k.sb≠G w.heap:=cc.out.1;have S5:=(S3.X' KR bI (λ q T e=>ax.out.1 (by subst e;exact T))).below (I:=((C' wr (O (G w.heap) 0) (J l)).setCell (O (G w.heap) 1) (J o)).drew) (ae.drew);have B5:=(WQ.trans (KR.Z' WQ.size (λ q e=>by subst e;exact bM))).drew;have cr:Cq wr.drew (G w.heap+1) 0 (J l):=k0;have cp:Cq wr.drew (G w.heap+1) 1 (J o):=k1;have ea:Cq wr.drew (G w.heap) 0 (J 0):=r0;have dT:Cq wr.drew (G w.heap) 1 (J 0):=r1;have ex:wr.drew.frozen? (O (G w.heap) 0)=false:=a3;have ev:wr.drew.frozen? (O (G w.heap) 1)=false:=a2;go_region;go_wp2;refine Vxl (v:=.tuple #[J mn,.agg #[J l,J o],.bool R]) ?_ rfl (HR.out v3 cl xi _ ⟨rfl,SQ ⟨Wl,rfl⟩⟩ S5 B5);simp[results,results201,go_sem,q0,q1]
  ·obtain⟨C,H,hF⟩:∃C H,xi.F (B:Int)=Z (C,H):=by
    obtain⟨C,H,h,_⟩:=ay.out.si.key bc.1;exact⟨C,H,h⟩
   have fb:=ay.out.si.big hF;by_cases XO:R=Vl\/val s3 d3<val l o
   ·have dv:=qH XO;go_upto_region 5 with fail
    go_cut [34] from 25 to 76 (λ bv wc=>bv=.bool Q/\Bq wr wc)
    case first =>
     cases R with
     |false =>
      go_wp2_with fail;go_meet;exact⟨rfl,ae⟩
     |true =>
      have Y:okC l o:=bm.out rfl;have VS:=lV (r:=Q) (s:=s3) (d:=d3) (t:=l) (u:=o) ((fg bk Y).2 (by rcases XO with h|h;cases h;exact h)) wr bk Y;go_wp2_with fail;refine Q9 VS λ W VW=>?_;clear VS;go_wp2_with fail;go_meet;exact⟨rfl,VW⟩
    case rest =>
     obtain⟨rfl,au⟩:=hcut;have Y2:=aE (a:=(B:Int)) U U;have eq:G wE.heap<=G wr.heap:=WQ.size;have Bc:=WQ.trans (au.mono eq);have b9:=SE.below Bc;have S5:=S3.below au;have ad:=X.below au;have a6:=ag.below au;have da:=aN.below au;have cK:=b9.lookF Y2;have e3:=b9.c3;obtain⟨N,P,an⟩:∃N P,(y.F (B:Int)).getD (0,0)=(N,P):=⟨_,_,rfl⟩;have cd:=qH an;have fc:0<=N/\N<=2847923/\0<=P/\P<=2847923:=by
      cases T:y.F (B:Int) with
      |none=>rw[T]at an;cases an;omega
      |some c =>
       rw[T]at an;have:=hY.big (s:=N) (d:=P) (by rw[T];exact Q7 Z an);omega
     rw[an]at cK;generalize cN:(y.F (B:Int)).isSome=ic at *;have ds:=qH cN;clear an cN b9 S3 X ag aN r0 r1 a3 a2 k0 k1 l0 l1 WQ au;have bd:Bq wc (E wc (VP #[J N,J P] 90)):=ae.alloc aa _;have ba:=bz.new wc N P;go_upto_region 8 with fail
     clear cK e3;have S6:=S5.below bd;have Bd:=aj Bc bd;have b6:=ad.below bd;have bi:=a6.below bd;have bf:=da.below bd;generalize G wc.heap=D9 at *;generalize E wc (VP #[VN VO N,VN VO P] 90)=z at *;clear S5 Bc ad a6 da bd;go_cut [15] from 25 to 76 (λ bp wf=>∃DB,bp=Pq DB/\bz wf DB (C+N) (H+P)/\G z.heap<=DB/\Bq z wf)
     case first =>
      have dd:Bq z z.drew:=ae.drew;have S7:=S6.below dd;have x3:=S7.c3;have em:(Instr.lookup 251 (.map (Z k.cb)) (J (B:Int)) Vl).run prog z.drew=.ok (.agg #[J C,J H]) z.drew:=S7.fm.Ui aV Tryz.Vxc (k9 _) Y2 (iW hF) Vl;have et:(Instr.lookup 251 (.map (Z k.cb)) (J (B:Int)) Vl).run prog (E z (VP #[J 0,J 0] 90)).drew=.ok (.agg #[J C,J H]) (E z (VP #[J 0,J 0] 90)).drew:=((S6.below (ae.alloc aa (VP #[J 0,J 0] 90))).below (ae.drew)).fm.Ui aV Tryz.Vxc (k9 _) Y2 (iW hF) Vl;have x0:=(ba.below dd).c0;have x1:=(ba.below dd).c1;have CC:Vy (∀I,Bq z.drew I->Cq I k.sb 3 (.map (Z k.cb))/\Cq I D9 0 (J N)/\Cq I D9 1 (J P)) :=
       λ I bD=>⟨(bD.cell (aB x3)).trans x3,(bD.cell (aB x0)).trans x0,(bD.cell (aB x1)).trans x1⟩
      have XB:Bq z.drew z.drew:=ae;have WW:Vy (∀YI,_):=λ YI=>lD C H N P YI (by unfold okC;omega) (by unfold okC;omega);have fj:G z.drew.heap=G z.heap:=rfl;clear ba b6 bi bf S6 S7;go_region_held3 (λ I=>D I (O k.sb 3)=Z (.map (Z k.cb))/\Cq I D9 0 (J N)/\Cq I D9 1 (J P))
       (first|(exact CC.out _ XB)|(exact CC.out _ (XB.alloc XB.size _))|(exact CC.out _ ((XB.setCell (p:=O (G z.heap) 0) aa _).setCell (p:=O (G z.heap) 1) aa _))|(exact CC.out _ ((XB.alloc XB.size _).setCell XB.size _))|(exact CC.out _ (((XB.alloc XB.size _).setCell XB.size _).setCell XB.size _))|(go_keep))
       (first|(go_at_call 242;refine Q9 (WW.out _) λ W VW=>?_;have XB:Bq z.drew W:=(by first|exact VW|exact(XB.alloc XB.size _).trans (VW.mono sQ));obtain⟨bA,bx⟩:=Jk VW;have ZH:=VW.size;simp at ZH))
      all_goals
       first
        |(have z0:Cq W (G z.heap) 0 (J 0):=(bA _ _ sQ).trans (SR (w:=z) #[J 0,J 0] 90 (G z.heap) 0 rfl)
          have z1:D W (O (G z.heap) 1)=Z (J 0):=(bA _ _ sQ).trans (SR (w:=z) #[J 0,J 0] 90 (G z.heap) 1 rfl);have z2:=(bx _ _ sQ).trans (bC z #[J 0,J 0] 90 (G z.heap) aa 0);have z3:=(bx _ _ sQ).trans (bC z #[J 0,J 0] 90 (G z.heap) aa 1);have Sl:=(bz.mk z0 z1 z2 z3).set (C+N) (H+P);have B6:=(XB.setCell (p:=O (G z.heap) 0) aa (J (C+N))).setCell (p:=O (G z.heap) 1) aa (J (H+P));clear z0 z1 z2 z3;have b0:G z.heap<=G z.heap:=aa;generalize (C' W (O (G z.heap) 0) (VN VO (C+N))).setCell (O (G z.heap) 1) (VN VO (H+P))=W6 at *)
        |(have Sl:=bz.new W (C+N) (H+P)
          have B6:=XB.alloc XB.size (VP #[J (C+N),J (H+P)] 90);have b0:G z.heap<=G W.heap:=ZH;generalize E W (VP #[VN VO (C+N),VN VO (H+P)] 90)=W6 at *)
       clear x0 x1 x3 em et CC XB VW bA bx ZH WW;go_wp2_with fail;go_meet;exact⟨_,rfl,Sl,b0,aj dd B6⟩
     case rest =>
      obtain⟨DB,rfl,bb,b0,ap⟩:=hcut;have S7:=S6.below ap;have Bf:=aj Bd ap;have ZY:=b6.below ap;have be:=bi.below ap;have c9:=bf.below ap;have fi:G w.heap+1<G z.heap:=aB bi.c0;have fn:cb<G z.heap:=aB bf.c0;have a9:Vy (cB y.F B C H l o R=(ic&&(!R || decide (val (C+N) (H+P)<val l o)))):=by
       have h:cB y.F B C H l o R=(ic&&(!R || decide (val (C+N) (H+P)<val l o))):=by
        unfold cB;rw[ds.out,cd.out]
       exact h
      have k0:=be.c0;have k1:=be.c1;have a0:=bb.c0;have a1:=bb.c1;clear S6 Bd b6 bi bf ap ba;go_upto_region 9 with fail
      go_cut [70] from 25 to 76 (λ bv wq=>bv=.bool (cB y.F B C H l o R)/\Bq wc wq)
      case first =>
       cases ic with
       |false =>
        go_wp2_with fail;go_meet;exact⟨by rw[a9.out];rfl,ae⟩
       |true =>
        cases R with
        |false =>
         go_wp2_with fail;go_meet;exact⟨by rw[a9.out];rfl,ae⟩
        |true =>
         have Y:okC l o:=bm.out rfl;have b5:okC (C+N) (H+P):=(by unfold okC;omega);have VS:=lV (r:=decide (val (C+N) (H+P)<val l o)) (s:=C+N) (d:=H+P) (t:=l) (u:=o) (by
          cases hb:ltB (C+N) (H+P) l o with
          |true=>exact(Q2 ((fg b5 Y).1 hb)).symm
          |false=>exact(Q3 (λ h=>by rw[(fg b5 Y).2 h]at hb;cases hb)).symm) wc b5 Y
         generalize ep:decide (val (C+N) (H+P)<val l o)=dd at *;have e4:Vy (cB y.F B C H l o Q=dd):=by
          have h:=a9.out;simp only[Bool.true_and,Bool.not_true,Bool.false_or]at h;exact h
         clear ep a9;go_wp2_with fail;refine Q9 VS λ W VW=>?_;clear VS;go_wp2_with fail;go_meet;exact⟨by rw[e4.out],VW⟩
      case rest =>
       obtain⟨rfl,ZR⟩:=hcut;clear k0 k1 a0 a1;have S8:=S7.below ZR;have Bq:=aj Bf ZR;have dk:=ZY.below ZR;have ao:=be.below ZR;have c8:=c9.below ZR;have b4:=bb.below ZR;have k0:=ao.c0;have k1:=ao.c1;have cn:=ao.z0;have cm:=ao.z1;have a0:=b4.c0;have a1:=b4.c1;have a7:Vy (mtS y.F xi B ⟨mn,l,o,R⟩=if cB y.F B C H l o R=Q then ⟨(B:Int),C+N,H+P,Q⟩ else ⟨mn,l,o,R⟩):=by
        have h:=Pz (E9:=y.F) (mn:=mn) (ms:=l) (md:=o) (mf:=R) hF;rw[cd.out]at h;exact h
       clear S7 Bf ZY be c9 ZR a9;go_upto_if 70 with fail
       go_cut [7,9] from 25 to 76 (λ U6 b2 wg=>U6=J (mtS y.F xi B ⟨mn,l,o,R⟩).n/\b2=.bool (mtS y.F xi B ⟨mn,l,o,R⟩).f/\bz wg (G w.heap+1) (mtS y.F xi B ⟨mn,l,o,R⟩).s (mtS y.F xi B ⟨mn,l,o,R⟩).d/\ai (λ q=>q=G w.heap+1) wc wg)
       case first =>
        cases a5:cB y.F B C H l o R with
        |false =>
         have HE:Vy (mtS y.F xi B ⟨mn,l,o,R⟩=⟨mn,l,o,R⟩):=(by rw[a7.out,a5];rfl);clear a7 a5;go_wp2_with fail;go_meet;rw[HE.out];exact⟨rfl,rfl,ao,ai.refl _ _⟩
        |true =>
         have HE:Vy (mtS y.F xi B ⟨mn,l,o,R⟩=⟨(B:Int),C+N,H+P,Q⟩):=(by rw[a7.out,a5];rfl);have aL:=ao.set (C+N) (H+P);have KN:=fq wc (G w.heap+1) (C+N) (H+P);have cr:Cq wc.drew (G w.heap+1) 0 (J l):=k0;have cp:Cq wc.drew (G w.heap+1) 1 (J o):=k1;have fz:wc.drew.frozen? (O (G w.heap+1) 0)=false:=cn;have fr:wc.drew.frozen? (O (G w.heap+1) 1)=false:=cm;have ga:Cq wc.drew DB 0 (J (C+N)):=a0;have fE:Cq wc.drew DB 1 (J (H+P)):=a1;clear a7 a5;go_wp2_with fail;go_region;go_wp2_with fail;go_meet;rw[HE.out];exact⟨rfl,rfl,aL.below (ae.drew),KN.drew⟩
       case rest =>
        obtain⟨rfl,rfl,aL,KN⟩:=hcut;have S9:=S8.X' KN cc.out.2 (λ q T e=>ax.out.2.1 (by subst e;exact T));have B9:=Bq.trans (KN.Z' Bq.size (λ q e=>by subst e;omega));have Zm:=dk.X' KN U;have b8:=c8.X' KN U;have dq:=qH (ay.out.go O9 hF);have e2:=qH (ay.out.si.mu_go O9 bc.1);have e5:Vy (∀j x' m',ng lv g y.F j (goS lv 0 g B (jG xi (B:Int))) (mtS y.F xi B ⟨mn,l,o,R⟩) x' m'->∃j',ng lv g y.F j' x ⟨0,0,0,Vl⟩ x' m'):=λ j x' m' h=>HC.out (j+1) x' m' ⟨B,s3,d3,bc,dv.out,h⟩;have cS:=zP w0 wc V0 O9 ek U hg rfl c4.size (aj c4 B9) en S9 (ay.out.si.popped B) hF (hJ _ _);have dn:Vy (G wE.heap<=G wc.heap/\G w.heap+1<G wc.heap/\cb<G wc.heap):=⟨B9.size,aB aL.c0,aB b8.c0⟩;have gb:=qH S9.hp.blocks.2.2;have dp:Vy _:=S9;clear S8 Bq dk ao c8 b4 bb k0 k1 cn cm a0 a1 KN a7 bm HR ay S9 HC dv ds cd;generalize mtS y.F xi B ⟨mn,l,o,R⟩=mt at *;generalize goS lv 0 g B (jG xi (B:Int))=xg at *;go_wp2_with fail;refine cS.mono ?_;rintro e w9 ⟨rfl,v9,e8,ZL,aw,eA⟩;have dl:=Zm.X' aw ax.out.1;have df:=aL.X' aw ax.out.2.1;have b7:=b8.X' aw ax.out.2.2;have Zk:=B9.trans (dp.out.Z' aw);have eX:=aw.size;clear cS aw Zm aL b8 B9 dp;have ZK:Bq w9 (E w9 (VP #[J s3,J d3] 90)):=ae.alloc aa _;have bl:=ZL.below ZK;have bn:=bz.new w9 s3 d3;have XI:=p7 _ bl (λ ha=>dq.out.si.key256 O9 ha);have c5:=bl.c5;have l0:=b7.c0;have l1:=b7.c1;have dc:=dl.below ZK;have db:=df.below ZK;have dz:=aj Zk ZK;have c7:=qH ZL.hp.blocks.2.2;clear ZL dl df b7 Zk ZK;go_wp2_with fail;clear c5 l0 l1;have c6:Vy _:=bl;clear bl;generalize E w9 (VP #[VN VO s3,VN VO d3] 90)=YI at *;obtain⟨ac,eS⟩:∃ac,G w9.heap=ac:=⟨_,rfl⟩;rw[eS]at bn c7 eX ⊢;refine XI.mono ?_;rintro e YT ⟨ee,bq,d11,er,ce,eW,rfl,eC,YJ,ZZ,eY⟩;have Yb:Vy (¬sb5 k v9 (G w.heap)/\¬sb5 k v9 (G w.heap+1)/\¬sb5 k v9 ac):=by
         obtain⟨h1,h2,h3,h4,_⟩:=a8.out;obtain⟨z1,z2,z3⟩:=dn.out;have bs:∀q,M' v9=Z q->q≠G w.heap/\q≠G w.heap+1/\q≠ac:=λ q T=>by
          have q1:=c7.out q T;rcases eA q T with h|h
          ·have q2:=e0.out q h;exact⟨q2.1,q2.2.1,U⟩
          ·exact⟨U,U,U⟩
         refine⟨λ h=>?_,λ h=>?_,λ h=>?_⟩
         ·rcases h with h|h|h|h|h
          ·omega
          ·omega
          ·omega
          ·omega
          ·exact(bs _ h).1 rfl
         ·rcases h with h|h|h|h|h
          ·omega
          ·omega
          ·omega
          ·omega
          ·exact(bs _ h).2.1 rfl
         ·rcases h with h|h|h|h|h
          ·omega
          ·omega
          ·omega
          ·omega
          ·exact(bs _ h).2.2 rfl
        have eT:=dc.X' YJ Yb.out.1;have eB:=db.X' YJ Yb.out.2.1;have Zn:=bn.X' YJ Yb.out.2.2;have dy:=dz.trans (c6.out.Z' YJ);have x0:=Zn.c0;have x1:=Zn.c1;have e7:=Zn.z0;have e6:=Zn.z1;clear XI YJ dc db bn dz c6;go_wp2;go_roundg (mu xg)
        case measure=>have h1:=HG.out;have h2:=e2.out;omega
        case rel =>
         have KX:=jZ YT ac (J bq) (J d11);have Wc:=dn.out;have h5:∀q,sb5 k ce q->q≠ac:=λ q T e=>by
          subst e;refine Yb.out.2.2 ?_;rcases T with h|h|h|h|h
          ·exact SQ h
          ·exact SP (SQ h)
          ·exact SP (SP (SQ h))
          ·exact SP (SP (SP (SQ h)))
          ·exact SP (SP (SP (SP (by rw[<- ZZ];exact h))))
         have cx:k.sb≠ac:=by
          have:=ey.out;omega
         refine⟨⟨xg,mt,ce,eW,ac,ee,bq,d11,er,rfl,rfl,rfl,rfl,rfl,U,eT.X' KX U,eB.X' KX U,Zn.set bq d11,λ q T=>?_,dq.out,e5.out,rfl,eC,?_⟩,dy.trans (KX.Z' dy.size (λ q e=>U))⟩
         ·rw[ZZ]at T;refine⟨λ e=>Yb.out.1 ?_,λ e=>Yb.out.2.1 ?_,λ e=>Yb.out.2.2 ?_⟩
          ·rw[<- e];exact SP (SP (SP (SP T)))
          ·rw[<- e];exact SP (SP (SP (SP T)))
          ·rw[<- e];exact SP (SP (SP (SP T)))
         ·rcases eY with⟨h1,h2,h3⟩|⟨h1,ei,h2,h3,h4,h6⟩
          ·exact SQ ⟨h1,h2,h3.X' KX cx h5⟩
          ·exact SP ⟨h1,ei,h2,h3,h4,h6.X' KX cx h5⟩
   ·have ej:R=true:=(by cases R;exact Q8 (SQ rfl) XO;rfl);subst ej;have bw:¬val s3 d3<val l o:=λ h=>XO (SP h);have Y:okC l o:=bm.out rfl;have VS:=lV (r:=Vl) (s:=s3) (d:=d3) (t:=l) (u:=o) (by cases hb:ltB s3 d3 l o;rfl;exact Q8 ((fg bk Y).1 hb) bw) wr bk Y;have e1:=qH bw;clear XO bw;go_wp2_with fail;refine Q9 VS λ W VW=>?_;have ad:=X.below VW;have a6:=ag.below VW;have eZ:=S3.below VW;have dx:=aj WQ VW;clear VS r0 r1 a3 a2 k0 k1 l0 l1 X ag aN S3 WQ VW;go_wp2;have r0:=ad.c0;have r1:=ad.c1;have a3:=ad.z0;have a2:=ad.z1;have k0:=a6.c0;have k1:=a6.c1;have Yd:=ad.set l o;have q0:D ((C' W (O (G w.heap) 0) (J l)).setCell (O (G w.heap) 1) (J o)).drew (O (G w.heap) 0)=Z (J l):=Yd.c0;have q1:D ((C' W (O (G w.heap) 0) (J l)).setCell (O (G w.heap) 1) (J o)).drew (O (G w.heap) 1)=Z (J o):=Yd.c1;have KR:=fq W (G w.heap) l o;have bI:k.sb≠G w.heap:=cc.out.1;have S5:=(eZ.X' KR bI (λ q T e=>ax.out.1 (by subst e;exact T))).below (I:=((C' W (O (G w.heap) 0) (J l)).setCell (O (G w.heap) 1) (J o)).drew) (ae.drew);have B5:=(dx.trans (KR.Z' dx.size (λ q e=>by subst e;exact bM))).drew;have cr:Cq W.drew (G w.heap+1) 0 (J l):=k0;have cp:Cq W.drew (G w.heap+1) 1 (J o):=k1;have ea:Cq W.drew (G w.heap) 0 (J 0):=r0;have dT:Cq W.drew (G w.heap) 1 (J 0):=r1;have ex:W.drew.frozen? (O (G w.heap) 0)=false:=a3;have ev:W.drew.frozen? (O (G w.heap) 1)=false:=a2;go_region;go_wp2;refine Vxl (v:=.tuple #[J mn,.agg #[J l,J o],.bool Q]) ?_ rfl (HR.out v3 cl (jG xi (B:Int)) _ ⟨rfl,SP ⟨B,s3,d3,bc,rfl,(show ¬val s3 d3<val l o from by have:=e1.out;omega),rfl⟩⟩ S5 B5);simp[results,results201,go_sem,q0,q1]
structure yx (w:M) (g L:Nat) (f:Nat->Int):Prop where
 at':∀i,i<L->D w (O g i)=Z (J (f i))
 fr:∀i,i<L->w.frozen? (O g i)=Vl
theorem yx.two {g L:Nat}{f:Nat->Int}(h:yx w g L f){i j:Nat}(d:i<L)(c:j<L)(x y:Int) :
  yx ((C' w (O g i) (J x)).setCell (O g j) (J y)) g L (λ k=>if k=j then y else if k=i then x else f k):=by
 refine⟨λ k a=>?_,λ k a=>by simpa using h.fr k a⟩;by_cases e:k=j;subst e;rw[Q5 rfl];by_cases b:k=i;subst b;exact Tf _ _ _ (Tf _ _ _ (h.at' k a));refine Tf _ _ _ (u:=J (f k)) ?_;rw[SY _ _ _ _ (by intro q;cases q;exact b rfl)];exact h.at' k a;rw[Q6 e,SY _ _ _ _ (by intro q;cases q;exact e rfl)];by_cases b:k=i;subst b;rw[Q5 rfl];exact Tf _ _ _ (h.at' k a);rw[Q6 b,SY _ _ _ _ (by intro q;cases q;exact b rfl)];exact h.at' k a
def p8 (w:M) (g cap:Nat):Prop:=∃cur:Array Vr,w.heap[g]? = Z (.cells cur 3 (0,0))/\cur.size=cap
theorem p8.set {g:Nat}(h:p8 w g cap):p8 (C' w (O g i) v) g cap:=by
 obtain⟨a,c,b⟩:=h;exact⟨a.setIfInBounds i v,by simp[World.setCell,Array.getElem?_modify,c],by simpa using b⟩
def turn (L:Nat) (f:Nat->Int) (i:Nat):Nat->Int:=λ k=>if k<i\/L-1-i<k then f (L-1-k) else f k
theorem Np {g L C:Nat}{f:Nat->Int}(w:M)(h:yx w g L f)(o:p8 w g C)(h0:0<L)(hL:L<=1000) :
  Zq 246 #[.slice (Z (O g 0)) L cap] w λ e I=>e=VJ (.tuple #[])/\(∀i,i<L->D I (O g i)=Z (J (f (L-1-i))))/\p8 I g C/\ai (λ k=>k=g) w I:=by
 have F:yx w g L (turn L f 0):=by
  refine⟨λ i y=>?_,h.fr⟩;rw[h.at' i y];unfold turn;rw[Q6 U]
 go_enter func246,ntmps246;go_wp2;go_loopg [2,3] L (λ T iv P wr=>∃i:Nat,2*i<=L+1/\T=L-i/\iv=J i/\P=J ((L:Int)-1-i)/\yx wr g L (turn L f i)/\p8 wr g C/\ai (λ k=>k=g) w wr)
 case atStart=>exact⟨0,U,rfl,rfl,gQ,F,o,ai.refl _ _⟩
 case round =>
  clear F;obtain⟨i,y,H,rfl,rfl,R,N,u⟩:=hrel;have l:=qH N;clear N;have HG:=qH H;clear H;by_cases VS:(i:Int)<(L:Int)-1-i
  ·obtain⟨j,S⟩:∃j:Nat,(L:Int)-1-i=j:=⟨((L:Int)-1-i).toNat,U⟩;rw[S]at VS ⊢;have b:i<L:=U;have a:j<L:=U;have Y:=R.at' i b;have X:=R.at' j a;have W:=R.fr i b;have V:=R.fr j a;have b1:(i:Int)<(L:Int):=U;have b2:(j:Int)<(L:Int):=U;have b3:(0:Int)<=(i:Int):=U;have b4:(0:Int)<=(j:Int):=U;have VY:¬i=j:=U;have s:=R.two b a (turn L f i j) (turn L f i i);have c:yx ((C' wr (O g i) (J (turn L f i j))).setCell (O g j) (J (turn L f i i))) g L (turn L f (i+1)):=by
    refine⟨λ k q=>?_,s.fr⟩;rw[s.at' k q]
    congr 2
    unfold turn;by_cases B:k=j
    ·subst B;rw[Q5 rfl,Q6 U,Q5 U]
     congr 1;omega
    ·rw[Q6 B];by_cases A:k=i
     ·subst A;rw[Q5 rfl,Q6 U,Q5 U]
      congr 1;omega
     ·rw[Q6 A];by_cases z:k<i\/L-1-i<k
      ·rw[Q5 z,Q5 U]
      ·rw[Q6 z,Q6 U]
   have d:ai (λ k=>k=g) w ((C' wr (O g i) (J (turn L f i j))).setCell (O g j) (J (turn L f i i))):=(u.setCell (p:=O g i) (λ _=>rfl) _).setCell (p:=O g j) (λ _=>rfl) _;clear s R u;generalize turn L f i i=n at *;generalize turn L f i j=m at *;go_wp2;go_region;have r:yx ((C' wr (O g i) (J m)).setCell (O g j) (J n)).drew g L (turn L f (i+1)):=⟨c.at',c.fr⟩;have t:=d.drew;have x:Vy (p8 ((C' wr (O g i) (J m)).setCell (O g j) (J n)).drew g C):=(l.out.set (i:=i) (v:=J m)).set (i:=j) (v:=J n);clear c d Y X W V;go_wp2;go_roundg (L-(i+1))
   case measure=>have:=HG.out;omega
   case rel =>
    refine⟨i+1,U,rfl,gQ,?_,r,x.out,t⟩;have e:(j:Int)-1=(L:Int)-1-((i+1:Nat):Int):=U;rw[<- e]
  ·have Xu:∀k,k<L->D wr (O g k)=Z (J (f (L-1-k))):=λ k q=>by
    rw[R.at' k q]
    congr 2
    unfold turn;by_cases e:k<i\/L-1-i<k
    ·rw[Q5 e]
    ·rw[Q6 e];congr 1;omega
   go_wp2;go_end0;exact⟨rfl,Xu,l.out,u⟩
theorem Gl {base g:Nat}{l:Ln}(f:base<=g)(k:K l<=cap)(j:cap<=maxLen)(d:p8 w g cap)(e:∀i,i<K l->D w (O g i)=Z (J ((l.getD i 0:Nat):Int))):G' w base 3 1 (.slice (Z (O g 0)) (K l) cap) (K l) (aH l):=by
 obtain⟨a,c,o⟩:=d;refine⟨by simp[aH],SP ⟨g,cap,a,rfl,f,c,k,j,U,?_⟩⟩;refine List.ext_getElem? λ i=>?_;rw[Nat.mul_one];by_cases b:i<K l;have n:=e i b;have m:a[i]? = Z (J ((l.getD i 0:Nat):Int)):=by
  have h:D w (O g i)=a[i]? := by simp[World.cell?,c]
  rw[<- h];exact n
 rw[List.getElem?_take_of_lt b,Array.getElem?_toList,m];simp[aH,b]
 grind
theorem Nq {base g cap:Nat}{l:Ln}(w:M)(h:G' w base 3 1 (.slice (Z (O g 0)) (K l) cap) (K l) (aH l))(p:0<K l)(j:K l<=1000) :
  Zq 246 #[.slice (Z (O g 0)) (K l) cap] w λ e I=>e=VJ (.tuple #[])/\G' I base 3 1 (.slice (Z (O g 0)) (K l) cap) (K l.reverse) (aH l.reverse)/\ai (λ k=>k=g) w I:=by
 rcases h.2 with⟨_,q⟩|⟨z,d,c,f,n,m,y,o,x,_⟩
 omega;cases f;have b:p8 w g cap:=⟨c,m,U⟩;have v:yx w g (K l) (λ i=>((l.getD i 0:Nat):Int)):=⟨λ i a=>jW h i a,λ i _=>h.frozenAt i⟩;refine(Np (cap:=cap) w v b p j).mono λ e I ⟨u,t,s,r⟩=>⟨u,?_,r⟩;have:=Gl (l:=l.reverse) (base:=base) n (by grind) o s (λ i a=>by
  rw[List.length_reverse]at a;rw[t i a]
  congr 3
  rw[Tt,Tt,List.getElem?_reverse a])
 rw[List.length_reverse]at this ⊢;exact this
section
open Go.RowKit Go.Lib
theorem JH {k V:SBk}{L:Ln}{lv:LSt}{x y:SS}{d:Int}(w:M)(O9:fN L lv)(S:bh w N k lb 0 gv v nh (ca x.A) x)(SE:bh w Ne V lb 1 gv2 ve ne (ca y.A) y)(hX:SI L lv 0 g src P x)(hY:SI L lv 1 g2 Zl P2 y)(hn:x.F (n:Int)=Z (s,d))(YL:y.F (n:Int)=Z (s2,d2)) :
  Zq 203 #[Pq k.sb,Pq V.sb,J (n:Int)] w λ e I=>∃v t t2,e=VJ v/\Bk x.A (n::t)/\Bk y.A (n::t2)/\G' I (G w.heap) 3 1 v (K ((n::t).reverse++t2)) (aH ((n::t).reverse++t2))/\K (n::t)<=256/\K (n::t2)<=256/\Bq w I:=by
 obtain⟨i0,hi,VZ,Wa,Wc⟩:=info_parts Tryz.Vxg;have f:=zQ w O9 S hX hn;go_enter func203,ntmps203;go_wp2_with fail;refine f.mono ?_;rintro e w1 ⟨v1,t,rfl,Xy,u,m,C⟩;obtain⟨g1,am,rfl,_,W9,ac,YU,ab⟩:=fS u sQ;have b:=Nq w1 u sQ U;have o:=qH Xy;clear f Xy u;go_wp2_with fail;refine b.mono ?_;rintro e T ⟨rfl,Xv,K2⟩;have B:Bq w T:=C.trans (K2.Z' C.size (λ q e=>by subst e;exact W9));clear b K2;have hb3:=zQ T O9 (SE.below B) hY YL;go_wp2_with fail;refine hb3.mono ?_;rintro e w3 ⟨v3,t2,rfl,h,Wy,l,z⟩;obtain⟨g3,p,rfl,Xq,Yo,ag,c,ad⟩:=fS Wy sQ;have r:=qH h;have a:=ak Xv z;have j:=aj B z;have Y:=Xq.tail;have H:=j.size;have i:Vy (K (n::t).reverse=K t+1):=List.length_reverse;rw[i.out]at a;simp only[Tk]at m l YU c a;simp only[List.tail_cons,Tm]at Y;have HV:Vy (aH ((n::t).reverse++t2)=aH (n::t).reverse++aH t2):=p6 _ _;clear hb3 h Wy Xv Xq S SE C z B;rcases Nat.eq_zero_or_pos (K t2) with X|X
 ·have e0:t2=[]:=TF.1 X;subst e0;simp only[List.length_nil,Tm]at c;rcases Decidable.em (p=1) with W|W
  ·subst W;go_wp2;go_ret;exact⟨_,t,[],rfl,o.out,r.out,by rw[TU,i.out];exact a,U,by simp,j⟩
  ·have Y4:1<p:=U;go_wp2;go_ret;exact⟨_,t,[],rfl,o.out,r.out,by rw[TU,i.out];exact a,U,by simp,j⟩
 ·go_wp2_with (at_builtin;refine wpList_append_own _ rfl _ _ 60 rfl (G w.heap) 3 i0 (J 0) 1 8 underlying60 hi VZ Wa Wc rfl dQ _ _ _ rfl a (O g3 1) (K t2) (p-1) (aH t2) rfl ?c0 Y (mG _) ?c3 ?c4 ?c5 ?_)
  case c0=>rw[jl];omega
  case c3=>unfold maxLen;omega
  case c4=>omega
  case c5=>exact H
  intro v' R VR VQ _;have B6:Bq w R:=j.grown VQ H (λ q hq=>(a.lt q hq).1);have O6:G' R (G w.heap) 3 1 v' (K ((n::t).reverse++t2)) (aH ((n::t).reverse++t2)):=by
   rw[HV.out,Td,i.out];have e1:aH (n::t).reverse++aH t2=(List.map (λ d:Nat=>Value.int IntKind.i64 (d:Int)) t).reverse++Value.int IntKind.i64 (n:Int)::aH t2:=(by simp[aH]);rw[e1];exact VR
  clear VR VQ a;go_wp2;go_ret;exact⟨_,t,t2,rfl,o.out,r.out,O6,U,U,B6⟩
end
section
open Go.RowKit Go.Lib
theorem tk {l:Ln}{a:Nat}(h:l[i]? = Z a):(aH l)[i]? = Z (J (a:Int)):=by grind
structure vX (es:Nat->List LE) (l:Ln) (i:Nat) (Vq:Ln):Prop where
 cont:∀(a:Nat) (t:Ln),l[i]? = Z a->sZ es (l.drop i) (a::t)->sZ es l (Vq++t)
theorem vX.start {es:Nat->List LE}{a:Nat}{l:Ln}:vX es (a::l) 0 [a] :=
 ⟨λ b t c h=>by
  have e:a=b:=by simpa using c
  subst e;exact h⟩
theorem vX.step {es:Nat->List LE}{l:Ln}{j:Ln}{a b:Nat}{d:Ln}(h:vX es l i j)(n:l[i]? = Z a)(m:l[i+1]? = Z b)(k:Unp es 6 a b (a::d)):vX es l (i+1) (j++d) :=
 ⟨λ c t g f=>by
  have e:b=c:=by rw[m]at g;exact Option.some.inj g
  subst e;have p:l.drop i=a::b::l.drop (i+2):=by grind [Vb]
  have o:l.drop (i+1)=b::l.drop (i+2):=by grind [Vb]
  rw[o]at f;have:=h.cont a (d++t) n (by
   rw[p];exact⟨a::d,t,k,f,rfl⟩)
  rw[List.append_assoc];exact this⟩
theorem vX.done {es:Nat->List LE}{l:Ln}{b:Ln}(h:vX es l i b)(c:i+1=K l):sZ es l b:=by
 have a:l[i]? = Z (l[i]'U):=SU U;have:=h.cont _ [] a (by
  rw[Vb,a,List.drop_eq_nil_of_le U];rfl)
 rw[TU]at this;exact this
theorem Prc.Vxh {es:Nat->List LE}:∀{l:Ln}{i a b:Nat}{p q:Int},Prc es l p q->l[i]? = Z a->l[i+1]? = Z b->∃e∈es a,e.to=b
 |[],_,_,_,_,_,h,_,_=>h.elim
 |[_],_,_,_,_,_,_,_,c=>by simp at c
 |x::y::l,0,a,b,_,_,⟨e,g,f,_⟩,d,c=>by grind
 |x::y::l,i+1,a,b,_,_,⟨_,_,_,h⟩,d,c=>Prc.Vxh (i:=i) h (by simpa using d) (by simpa using c)
theorem zS {A:Nat}{L:Ln}{lv:LSt}{B:Nat->List LE}{l:Ln}{p q:Int}(w:M)(V:cR w N0 lb vb eb top L lv f)(t:fN L lv)
  (hU:∀{a e},e∈lv.es a->∃c l,Unp lv.es 6 a e.to c/\c=a::l/\l≠[]/\c.getLast? = Z e.to/\Prc B c e.s e.d) (VU:pZ w A 0 l) (h0:0<K l) (hl:K l<=600) (T:K l<=cap) (aw:cap<=9223372036854775807) (hP:Prc lv.es l p q) :
  Zq 202 #[Pq lb,.slice (Z (O A 0)) (K l) cap] w λ e I=>∃v c,e=VJ v/\sZ lv.es l c/\G' I (G w.heap) 3 1 v (K c) (aH c)/\K c<=40000/\Bq w I:=by
 obtain⟨i0,hi,VZ,Wa,Wc⟩:=info_parts Tryz.Vxg;obtain⟨j,g,rfl⟩:∃a g,l=a::g:=by
  cases l with
  |nil=>simp at h0
  |cons a g=>exact⟨a,g,rfl⟩
 have c0:D w (O A 0)=Z (J (j:Int)):=VU 0 _ rfl;have S:Bq w (E w (VP #[J (j:Int)] 3)):=ae.alloc aa _;have X:=JF w j;have C:Vy (vX lv.es (j::g) 0 [j]):=vX.start;have z:∀a,K (lv.es a)<=256:=λ a=>by
  have h1:((lv.es a).map (·.to)).Nodup:=by
   unfold List.Nodup;rw[List.pairwise_map];exact(t.esy.ord a).imp (λ h=>Nat.ne_of_lt h)
  have:=dr 256 h1 (λ m hm=>by
   obtain⟨e,F,rfl⟩:=List.mem_map.1 hm;exact t.small _ (t.ends F).2)
  simpa using this
 have ac:=qH z;have HU:Vy (∀{a e},e∈lv.es a->∃c l,Unp lv.es 6 a e.to c/\c=a::l/\l≠[]/\c.getLast? = Z e.to/\Prc B c e.s e.d):=hU;have HP:=qH hP;have HR:=qH VU;simp only[Tk]at hl T;clear z hU hP VU h0;rcases Decidable.em (cap=1) with YU|YU
 ·have e0:g=[]:=TF.1 U;subst e0;subst YU;have HD:Vy (sZ lv.es [j] [j]):=rfl;go_enter func202,ntmps202;go_wp2_with fail;go_loopw [5,17] (λ P iv wr=>P=.slice (Z (O (G w.heap) 0)) 1 1/\iv=J 0/\wr=E w (VP #[J (j:Int)] 3)) (λ _ _ _=>0)
  case atStart=>exact⟨rfl,rfl,rfl⟩
  case round =>
   obtain⟨rfl,rfl,rfl⟩:=hrel;go_wp2;go_ret;exact⟨_,[j],rfl,HD.out,X,by simp,S⟩
 ·go_enter func202,ntmps202;go_wp2_with fail;go_loopw [5,17] (λ P iv wr=>∃(i:Nat) (c:Ln),i<=K g/\iv=J i/\Vy (vX lv.es (j::g) i c)/\G' wr (G w.heap) 3 1 P (K c) (aH c)/\K c<=1+64*i/\0<K c/\Bq w wr)
   (λ _ i _=>K g-(intOf i).toNat)
  case atStart=>exact⟨0,[j],Nat.zero_le _,rfl,C,X,by simp,by simp,S⟩
  case round =>
   clear X C S c0;obtain⟨i,c,ag,rfl,HI,k,Xs,ad,o⟩:=hrel;by_cases VS:i<K g
   ·obtain⟨a,N⟩:∃a,(j::g)[i]? = Z a:=⟨(j::g)[i]'sU,SU _⟩;obtain⟨b,H⟩:∃b,(j::g)[i+1]? = Z b:=⟨(j::g)[i+1]'sU,SU _⟩;obtain⟨e,F,y⟩:=HP.out.Vxh N H;obtain⟨part,x,u1,u2,u3,_,_⟩:=HU.out F;rw[y]at u1;have hu:=pr t.esy.ord t.ends ac.out t.small 6 a b part wr U u1 (V.below o);have XG:=u1.two;subst u2;have ab:=qH (HI.out.step N H u1);have ca:Cq wr A i (J (a:Int)):=by
     have h:=(HR.out.below o) i (J (a:Int)) (tk N);rw[Addr.add_lit,Tm]at h;exact h
    have cb:Cq wr A (1+i) (J (b:Int)):=by
     have h:=(HR.out.below o) (i+1) (J (b:Int)) (tk H);rw[Addr.add_lit,Tm]at h;rw[Nat.add_comm 1 i];exact h
    have i1:(0:Int)<=(i:Int):=U;have i2:(i:Int)<(K g:Int):=U;have i3:(i:Int)<(K g:Int)+1:=U;clear F y u1 u3 N H HI;go_wp2_with fail;refine hu.mono ?_;rintro r w5 ⟨v5,rfl,WA,Y⟩;obtain⟨g5,Xo,rfl,u,ap,ao,R,an⟩:=fS WA sQ;have W:=ak k Y;have B5:=aj o Y;have n:=u.tail;have z5:=B5.size;have au:(2:Nat) ^ 6=64:=rfl;simp only[Tk]at XG R;simp only[List.tail_cons,Tm]at n;have am:¬Xo=1:=U;clear hu WA k Y o ca cb u;go_wp2_with (at_builtin;refine wpList_append_own _ rfl _ _ 60 rfl (G w.heap) 3 i0 (J 0) 1 8 underlying60 hi VZ Wa Wc rfl dQ _ _ _ rfl W (O g5 1) (K x) (Xo-1) (aH x) rfl ?c0 n (mG _) ?c3 ?c4 ?c5 ?_)
    case c0=>rw[jl];omega
    case c3=>unfold maxLen;omega
    case c4=>omega
    case c5=>exact z5
    intro v' w6 VR VQ _;have B6:Bq w w6:=B5.grown VQ z5 (λ q hq=>(W.lt q hq).1);have O6:G' w6 (G w.heap) 3 1 v' (K (c++x)) (aH (c++x)):=by
     rw[p6,Td];exact VR
    clear VR VQ W n;go_wp2;go_roundw
    case rel=>exact⟨i+1,c++x,U,gQ,ab,O6,by rw[Td];omega,by rw[Td];omega,B6⟩
    case measure=>simp[intOf];omega
   ·have e:i=K g:=U;subst e;have HD:=qH (HI.out.done sQ);go_wp2;go_ret;exact⟨_,c,rfl,HD.out,k,U,o⟩
end
section
open Go.RowKit Go.Lib
theorem zT (w:M)(n:Int):Rq 197 #[J n] w (.agg #[J 0,J 0]):=by
 go_enter func197,ntmps197;go_wp2;exact Vxl (v:=.agg #[J 0,J 0]) (by simp[results,results197,go_sem]) rfl ⟨rfl,ae.alloc aa _⟩
theorem Si (w:M)(gf:Nat)(cs:List Vr):(binOp .eql 179 (.func (.func gf) #[] cs.toArray) .nilFunc).run prog w=.ok (.bool Vl) w:=by
 kernel_rfl
theorem ua (a:M):CN a (G a.heap) 197 [] (λ _=>(0,0)):=⟨λ b w=>kQ,λ w n _ _=>zT w n⟩
theorem EK {A:Int->Option Int}(h:∀a,A a=none):ca A=0:=by
 unfold ca;have e:(λ a=>(A a).map λ n=>(n,(0:Int)))=λ _=>none:=by grind
 rw[e,j9]
theorem tu {k:SBk}{a:Vr}(h:M' a=M' v){g:Nat}:sb5 k a g=sb5 k v g:=by unfold sb5 hb3;rw[h]
theorem MI.endsSI {L:Ln}{lv:LSt}{E9:Int->Oi}{x':SS}{c:Mt}(b:fN L lv):∀{k:Nat}{x:SS}{m:Mt},MI L lv g src E9 x m->ng lv g E9 k x m x' c->SI L lv 0 g src (λ _ _=>False) x'
 |0,x,m,h,⟨_,a⟩=>by
  rcases a with⟨_,rfl⟩|⟨n,s,d,a,l,j,rfl⟩
  exact h.si.mono (λ _ _ h _=>h.elim);exact(h.si.pop (n:Int)).mono (λ _ _ h _=>h.elim)
 |_+1,x,m,h,⟨n,s,d,f,_,a⟩=>by
  obtain⟨i,o,e,_⟩:=h.si.key f.1;exact MI.endsSI b (h.go b e) a
theorem PA {L:Ln}{lv:LSt}{x y:SS}{d:Int}{t t2:Ln}(e:fN L lv)(v:SI L lv 0 g src P x)(u:SI L lv 1 g2 Zl P2 y)(m:x.F (n:Int)=Z (s,d))(w:y.F (n:Int)=Z (s2,d2))(r:Bk x.A (n::t))(c:Bk y.A (n::t2)):∃p q,Prc lv.es ((n::t).reverse++t2) p q:=by
 obtain⟨o,H,d0,p,q,X,W,k,V⟩:=v.back e r m;obtain⟨i,C,d1,N,I,T,S,j,R⟩:=u.back e c w;have f:=Prc.rev e.esy k;obtain⟨b,a,h⟩:∃b a,(n::t).reverse=b::a:=by
  cases l:(n::t).reverse with
  |nil=>simp at l
  |cons z a=>exact⟨z,a,rfl⟩
 have B:(b::a).getLast? = Z n:=by rw[<- h];simp
 rw[h]at f ⊢;exact⟨_,_,Prc.join j f B⟩
theorem PB {k b:SBk}{L:Ln}{lv:LSt}{x y:SS}{d:Int}(w:M)(R:fN L lv)(S:bh w N k lb 0 gv v nh (ca x.A) x)(H:bh w Ne b lb 1 gv2 ve ne (ca y.A) y)(p:SI L lv 0 g src P x)(o:SI L lv 1 g2 Zl P2 y)(m:x.F (n:Int)=Z (s,d))(C:y.F (n:Int)=Z (s2,d2)) :
  Zq 203 #[Pq k.sb,Pq b.sb,J (n:Int)] w λ e I=>∃(a cap:Nat) (l:Ln),e=VJ (.slice (Z (O a 0)) (K l) cap)/\pZ I a 0 l/\K l<=cap/\cap<=9223372036854775807/\0<K l/\K l<=600/\Vy (∃t t2,Bk x.A (n::t)/\Bk y.A (n::t2)/\l=(n::t).reverse++t2)/\Bq w I:=by
 refine(JH w R S H p o m C).mono λ e I ⟨v,t,t2,B,z,u,r,V,T,q⟩=>?_;have c:0<K ((n::t).reverse++t2):=by simp;omega
 have j:K ((n::t).reverse++t2)<=600:=by grind
 obtain⟨a,cap,rfl,i,_,_,h,f⟩:=fS r c;exact⟨a,cap,_,B,i,h,f,c,j,⟨t,t2,z,u,rfl⟩,q⟩
theorem p9 {a b j:Nat}(h:¬a=b):D (C' w (O b j) v) (O a i)=D w (O a i):=by grind [Go.World.cell?_setCell_other]
structure JI (w:M) (k:SBk) (v:Vr):Prop where
 a:k.cb<G w.heap
 b:k.ab<G w.heap
 c:k.hb<G w.heap
 d:k.mb<G w.heap
 e:∀q,M' v=Z q->q<G w.heap
theorem JI.lt {k:SBk}(h:JI w k v){g:Nat}(f:sb5 k v g):g<G w.heap:=by
 rcases f with rfl|rfl|rfl|rfl|f
 exact h.a;exact h.b;exact h.c;exact h.d;exact h.e g f
structure ER (w wr:M) (k:SBk) (lb:Nat) (L:Ln) (lv:LSt) (src:Int->Int->Int->Prop) (y0:SS) (gk:Nat) (nv cv mv:Vr):Prop where
 ex:∃(y:SS) (v:Vr) (nh cb:Nat) (n s d:Int) (b:Bool),nv=J n/\cv=Pq cb/\mv=.bool b/\G w.heap<cb/\bz wr (G w.heap) 0 0/\bz wr cb s d/\SI L lv 1 (λ _=>(0,0)) src (λ _ _=>True) y/\(∀j y',Bu lv 1 (λ _=>(0,0)) j y y'->∃j',Bu lv 1 (λ _=>(0,0)) j' y0 y')/\gk=mu y/\¬sb5 k v (G w.heap)/\¬sb5 k v cb /\
  ((b=Vl/\(∀a,y.H a=none)/\bh wr (G w.heap+1) k lb 1 (.func (.func 197) #[] #[]) v nh (ca y.A) y)\/(b=Q/\∃n':Nat,n=(n':Int)/\n'<256/\(∃s d,Bt y.H (n':Int) s d)/\bh wr (G w.heap+1) k lb 1 (.func (.func 197) #[] #[]) v nh (ca y.A) (jG y (n':Int))))
 Y:Below (G w.heap) w wr
theorem JJ {gf cap cap2:Nat}{L:Ln}{lv:LSt}{cz:Nat->List LE}{cs:List Vr}{A A2:Oa}{out B:List IE}(w:M)(V0:cR w N0 lb vb eb top L lv f)(i:fN L lv)(bd:∀n,1<=lv.VE n/\lv.VE n<=7)
  (hU:∀{a e},e∈lv.es a->∃o l,Unp lv.es 6 a e.to o/\o=a::l/\l≠[]/\o.getLast? = Z e.to/\Prc cz o e.s e.d) (hg:CN w (G w.heap) gf cs g) (bk:∀n:Nat,0<=(g n).1/\(g n).1<=1024/\0<=(g n).2/\(g n).2<=1024) (ho:vW w A out) (hi:vW w A2 B) (cm:K out<=1000) (XC:K B<=1000) :
  Zq 147 #[Pq lb,.slice A (K out) cap,.slice A2 (K B) cap2,.func (.func gf) #[] cs.toArray] w λ e I=>∃o s d b v,e=VJ (.tuple #[v,.agg #[J s,J d],.bool b])/\nj L lv g out B o s d b/\G' I (G w.heap) 3 1 v (K o) (aH o)/\K o<=40000/\Bq w I:=by
 have b1:Bq w (E w (VP #[J 0,J 0] 90)):=ae.alloc aa _;have Wa:G (E w (VP #[J 0,J 0] 90)).heap=G w.heap+1:=by simp
 have c:=bz.new w 0 0;have cr:=Si (E w (VP #[J 0,J 0] 90)) gf cs;have YG:=wJ (cap:=cap2) (r:=1) w _ V0 i (ua w) b1 (hi.below aa b1) XC (λ _=>by simp);go_enter func147,ntmps147;go_wp2_with fail;refine YG.mono ?_;rintro e w2 ⟨C,v2,dy,rfl,S,YL,V⟩;rw[Wa]at S V;have F2:=FI.fold i (l':=B) (FI.start L lv 1 (λ _=>(0,0)));have bm:ca (eP L (λ _=>(0,0)) B).A=0:=EK F2.no;rw[<- bm]at S;have aL:=F2.all_in;have B2:Bq w w2:=b1.trans (V.mono U);have bw:=c.below (show Below (G _) _ w2 from by rw[Wa];exact V);have c5:=S.c5;have XI:=p7 w2 S (λ ha=>aL.key256 i ha);have df:Vy (SI L lv 1 (λ _=>(0,0)) (e9 L B) (λ _ _=>True) (eP L (λ _=>(0,0)) B)):=aL;have c6:G w.heap+1<=G w2.heap:=by rw[<- Wa];exact V.size
 clear YG cr bm F2 aL c b1 V;generalize a8:eP L (λ _=>(0,0)) B=y0 at *;have bM:=qH a8;clear a8;go_wp2_with fail;refine XI.mono ?_;rintro e w3 ⟨n3,s3,d3,b3,v3,ce,rfl,_,K3,au,bA⟩;clear XI c5;have dd:Vy (JI w2 C v2):=⟨S.fm.lt,S.am.lt,S.hp.blocks.1,S.hp.blocks.2.1,S.hp.blocks.2.2⟩;have em:=c6;have nR:¬sb5 C v2 (G w.heap):=λ h=>by have:=(S.from _ h).1;omega
 have bs:=bw.X' K3 nR;have B3:Bq w w3:=B2.trans ((S.Z' K3).mono U);have b4:Bq w3 (E w3 (VP #[J s3,J d3] 90)):=ae.alloc aa _;have ea:G w2.heap<=G w3.heap:=K3.size;have Xm:Vy (ER w (E w3 (VP #[J s3,J d3] 90)) C lb L lv (e9 L B) y0 (mu y0) (J n3) (Pq (G w3.heap)) (.bool b3)):=by
  refine⟨⟨y0,v3,ce,G w3.heap,n3,s3,d3,b3,rfl,rfl,rfl,U,bs.below b4,bz.new w3 s3 d3,df.out,λ j y' h=>⟨j,h⟩,rfl,λ h=>?_,λ h=>?_,?_⟩,aj B3 b4⟩
  ·rw[tu au]at h;exact nR h
  ·rw[tu au]at h;have:=dd.out.lt h;omega
  ·rcases bA with⟨P,N,h3⟩|⟨P,n',N,h3,h4,h5⟩
   ·exact SQ ⟨P,N,h3.below b4⟩
   ·exact SP ⟨P,n',N,h3,⟨_,_,h4⟩,h5.below b4⟩
 clear K3 bw bs S B2 B3 b4 bA au nR YL;go_wp2;go_loopg [12,13,14] (mu y0) (λ gk nv cv mv wr=>ER w wr C lb L lv (e9 L B) y0 gk nv cv mv)
 case atStart=>exact Xm.out
 case round =>
  clear Xm;obtain⟨⟨y,v4,dx,cb,n4,s4,d4,b4,rfl,rfl,rfl,ee,c,ab,hY,Xz,WV,nR,nC,Xk⟩,WQ⟩:=hrel;have HG:=qH WV;have HC:=qH Xz;have HY:=qH hY;have HN:Vy (¬sb5 C v4 (G w.heap)/\¬sb5 C v4 cb):=⟨nR,nC⟩;clear WV Xz hY nR nC;rcases Xk with⟨rfl,Wl,R⟩|⟨rfl,n',rfl,ec,u,R⟩
  ·obtain⟨je,bf⟩:=HC.out 0 y ⟨Wl,rfl⟩;have HE:Vy (Bu lv 1 (λ _=>(0,0)) je y0 y/\∀a,y.H a=none):=⟨bf,Wl⟩;clear bf Wl HC;have YG:=wJ (cap:=cap) (r:=0) w wr V0 i hg WQ (ho.below aa WQ) cm bk;have F5:=FI.fold i (l':=out) (FI.start L lv 0 g);have bl:ca (eP L g out).A=0:=EK F5.no;have a2:Vy (MI L lv g (e9 L out) y.F (eP L g out) ⟨0,0,0,Vl⟩):=⟨F5.all_in,λ q=>(by cases q),λ ha hH _=>Q8 hH (F5.all ha)⟩;clear F5;go_wp2_with fail;refine YG.mono ?_;rintro e w5 ⟨kb,v5,cd,rfl,S5,cn,VW⟩;have bI:bh w5 (G wr.heap) kb lb 0 (.func (.func gf) #[] cs.toArray) v5 cd (ca (eP L g out).A) (eP L g out):=(by rw[bl];exact S5);have bb:=JG w wr w5 V0 i bd hg WQ bk R HY.out VW bI a2.out;have a4:=bX WQ;have W:Vy _:=R;have a3:=qH c;clear YG S5 bI VW bl R c ab WQ cn;generalize a9:eP L g out=x0 at *;have bZ:=qH a9;clear a9;go_wp2_with fail;refine bb.mono ?_;rintro e T ⟨jm,x6,⟨mn,k,m,mf⟩,bc,rfl,⟨v6,dv,S6⟩,WR⟩;have ao:=qH bc;clear bb bc;dsimp only;have cy:=a4.out.size;have b7:Bq T (E T (VP #[J k,J m] 90)):=ae.alloc aa _;have B7:=aj WR b7;have a7:=bz.new T k m;have ZY:=a3.out.below B7;have S7:=S6.below b7;have aN:=W.out.below B7;have ap:=a4.out.trans (B7.mono cy);have r0:=ZY.c0;have r1:=ZY.c1;have b9:=ZY.z0;have b8:=ZY.z1;have ei:G wr.heap<=G T.heap:=WR.size;clear S6 WR b7;cases mf with
   |false =>
    have a5:Vy (nj L lv g out B [] 0 0 Vl):=⟨je,y,jm,x6,⟨mn,k,m,Vl⟩,by rw[bM.out];exact HE.out.1,by rw[bZ.out];exact ao.out,rfl,λ _=>⟨rfl,rfl,rfl⟩,λ h=>by cases h⟩;have Yd:=ZY.set 0 0;have q0:=Yd.c0;have q1:=Yd.c1;have KR:=fq (E T (VP #[J k,J m] 90)) (G w.heap) 0 0;have B8:=ap.trans (KR.Z' ap.size (λ q e=>by subst e;exact aa));clear S7 aN;go_wp2_with fail;refine Vxl (v:=.tuple #[.slice none 0 0,.agg #[J 0,J 0],.bool Vl]) ?_ rfl ⟨[],0,0,Vl,.slice none 0 0,rfl,a5.out,World.ownsRow_nil _ _ _ _,by simp,B8⟩;simp[results,results147,go_sem,q0,q1]
   |true =>
    have ay:=a2.out.endsSI i ao.out;obtain⟨z,Z9,zF,zA⟩:=a2.out.ends i ao.out;obtain⟨es,ed,ad,ag,f1,f2⟩:∃es ed ad ag,y.F mn=Z (es,ed)/\z.F mn=Z (ad,ag):=by
     obtain⟨fs,fd,es,ed,ad,ag,f1,f2,_⟩:=Z9.mi.fnd rfl;exact⟨es,ed,ad,ag,f1,f2⟩
    obtain⟨Y,rfl⟩:∃Y:Nat,mn=(Y:Int):=⟨mn.toNat,by have:=(HY.out.lab f1).1;omega⟩;rw[<- zF]at f2;have d7:Bq (E T (VP #[J k,J m] 90)) (E T (VP #[J k,J m] 90)).drew:=ae.drew;have be:=PB _ i (S7.below d7) (aN.below d7) ay HY.out f2 f1;have HJ:Vy (∀t t2,Bk x6.A (Y::t)->Bk y.A (Y::t2)->∃p q,Prc lv.es ((Y::t).reverse++t2) p q):=λ t t2 P N=>PA i ay HY.out f2 f1 P N;have b0:Vy (∀(X:M) (g8 x:Nat) (l8:Ln),Bq w X->pZ X g8 0 l8->K l8<=x->x<=9223372036854775807->0<K l8->K l8<=600->(∃t t2,Bk x6.A (Y::t)/\Bk y.A (Y::t2)/\l8=(Y::t).reverse++t2)->Zq 202 #[Pq lb,.slice (Z (O g8 0)) (K l8) x] X λ e I=>∃v o,e=VJ v/\sZ lv.es l8 o/\G' I (G X.heap) 3 1 v (K o) (aH o)/\K o<=40000/\Bq X I):=λ X g8 x l8 P N h3 h4 h5 h6 ⟨t,t2,h7,h8,h9⟩=>by
     obtain⟨p,q,hp⟩:=HJ.out t t2 h7 h8;rw[<- h9]at hp;exact zS X (V0.below P) i hU N h5 h6 h3 h4 hp
    have dl:=aj ap d7;have aw:=a7.below d7;have bx:=ZY.below d7;have t0:=aw.c0;have t1:=aw.c1;have ej:G w.heap<G T.heap:=(by have:=aB a3.out.c0;simp only at this;omega);have an:¬G T.heap=G w.heap:=U;clear ay Z9 zF zA f1 f2 S7 aN d7 a7 ZY ap B7 r0 r1 b9 b8 W a3 a4;go_wp2_with fail;generalize E T (VP #[VN VO k,VN VO m] 90)=w7 at *;generalize G T.heap=LB at *;have bq:=qH bx;clear bx aw;go_region_held3 (λ I=>D I (O LB 0)=Z (J k)/\Cq I LB 1 (J m)) (first|exact⟨t0,t1⟩|exact⟨u0,u1⟩|exact⟨x0,x1⟩|(exact⟨(p9 an).trans ((p9 an).trans x0),(p9 an).trans ((p9 an).trans x1)⟩)|(go_keep))
     (first
      |(go_at_call 203;refine be.mono ?_;rintro r1 X ⟨g8,x,l8,rfl,cc,cx,c4,cl,cp,b5,X0⟩;have u0:=al X0 t0;have u1:=al X0 t1;have B9:=aj dl X0)
      |(go_at_call 202;refine(b0.out X g8 x l8 B9 cc cx c4 cl cp b5.out).mono ?_;rintro r1 w9 ⟨v9,bp,rfl,c3,Yf,c2,ac⟩;have x0:=al ac u0;have x1:=al ac u1;have Zm:=(bq.out.below X0).below ac;have a0:=Zm.c0;have a1:=Zm.c1;have cS:=Zm.z0;have cN:=Zm.z1))
    have a5:Vy (nj L lv g out B bp k m Q):=by
     obtain⟨t,t2,h7,h8,h9⟩:=b5.out;exact⟨je,y,jm,x6,⟨(Y:Int),k,m,Q⟩,by rw[bM.out];exact HE.out.1,by rw[bZ.out];exact ao.out,rfl,λ h=>(by cases h),λ _=>⟨rfl,rfl,Y,t,t2,rfl,h7,h8,by rw[<- h9];exact c3⟩⟩
    have Yd:=Zm.set k m;have q0:=Yd.c0;have q1:=Yd.c1;have KR:=fq w9 (G w.heap) k m;have BA:=aj B9 ac;have BB:=BA.trans (KR.Z' BA.size (λ q e=>by subst e;exact aa));have cj:G w.heap<G X.heap:=Nat.lt_of_lt_of_le (aB bq.out.c0) X0.size;have OW:=br (cu Yf (Nat.le_of_lt cj)) KR (λ q hq e=>by subst e;have:=(Yf.lt _ hq).1;omega);clear t0 t1 u0 u1 x0 x1 a0 a1 cS cN be b0 Yf;go_wp2_with fail;refine Vxl (v:=.tuple #[v9,.agg #[J k,J m],.bool Q]) ?_ rfl ⟨bp,k,m,Q,v9,rfl,a5.out,OW,c2,BB⟩;simp[results,results147,go_sem,q0,q1]
  ·obtain⟨sp,dp,u⟩:=u;obtain⟨fs,fd,hF⟩:∃fs fd,y.F (n':Int)=Z (fs,fd):=by
    obtain⟨fs,fd,h,_⟩:=HY.out.key u.1;exact⟨fs,fd,h⟩
   have bi:=zP w wr V0 i bd U (ua w) rfl U WQ (λ _=>by simp) R (HY.out.popped n') hF (hJ _ _);have b2:=qH (HY.out.go i hF).1;have dc:=qH (HY.out.mu_go i u.1);have dk:Vy (∀j y',Bu lv 1 (λ _=>(0,0)) j (goS lv 1 (λ _=>(0,0)) n' (jG y (n':Int))) y'->∃j',Bu lv 1 (λ _=>(0,0)) j' y0 y'):=λ j y' h=>HC.out (j+1) y' ⟨n',sp,dp,u,h⟩;have W:Vy _:=R;have ek:Vy (JI wr C v4):=⟨R.fm.lt,R.am.lt,R.hp.blocks.1,R.hp.blocks.2.1,R.hp.blocks.2.2⟩;have dz:cb<G wr.heap:=aB ab.c0;clear R HC HY u;generalize goS lv 1 (λ _=>(0,0)) n' (jG y (n':Int))=yg at *;go_wp2_with fail;refine bi.mono ?_;rintro e w9 ⟨rfl,v9,ds,S9,K9,ba⟩;have Zm:=c.X' K9 HN.out.1;have ax:=ab.X' K9 HN.out.2;have B9:=WQ.trans ((W.out.Z' K9).mono U);have dT:=K9.size;have da:Vy (JI w9 C v9):=⟨S9.fm.lt,S9.am.lt,S9.hp.blocks.1,S9.hp.blocks.2.1,S9.hp.blocks.2.2⟩;have db:Vy (∀q,sb5 C v9 q->sb5 C v4 q\/G wr.heap<=q):=λ q hq=>by
    rcases hq with h|h|h|h|h
    ·exact SQ (SQ h)
    ·exact SQ (SP (SQ h))
    ·exact SQ (SP (SP (SQ h)))
    ·exact SQ (SP (SP (SP (SQ h))))
    ·rcases ba q h with h|h
     ·exact SQ (SP (SP (SP (SP h))))
     ·exact SP h
   have ZK:Bq w9 (E w9 (VP #[J s4,J d4] 90)):=ae.alloc aa _;have ZL:=S9.below ZK;have a6:=bz.new w9 s4 d4;have XI:=p7 _ ZL (λ ha=>b2.out.key256 i ha);have c5:=ZL.c5;have l0:=ax.c0;have l1:=ax.c1;have bD:=Zm.below ZK;have Zk:=aj B9 ZK;have bn:Vy _:=ZL;clear bi K9 ba c ab Zm ax WQ B9 S9 ZL ZK W;go_wp2_with fail;clear c5 l0 l1;generalize E w9 (VP #[VN VO s4,VN VO d4] 90)=YI at *;refine XI.mono ?_;rintro e YT ⟨cg,dq,d11,cK,b6,c8,rfl,_,YJ,ZZ,c9⟩;have Yb:Vy (¬sb5 C v9 (G w.heap)/\¬sb5 C v9 (G w9.heap)):=by
    refine⟨λ h=>?_,λ h=>?_⟩
    ·rcases db.out _ h with h|h
     ·exact HN.out.1 h
     ·omega
    ·have:=da.out.lt h;omega
   have c7:=bD.X' YJ Yb.out.1;have Zn:=a6.X' YJ Yb.out.2;have dn:=Zk.trans ((bn.out.Z' YJ).mono U);clear XI YJ bD a6 Zk bn;go_wp2;go_roundg (mu yg)
   case measure=>have P:=HG.out;have N:=dc.out;omega
   case rel =>
    refine⟨⟨yg,b6,c8,G w9.heap,cg,s4,d4,cK,rfl,rfl,rfl,U,c7,Zn,b2.out,dk.out,rfl,λ h=>?_,λ h=>?_,?_⟩,dn⟩
    ·rw[tu ZZ]at h;exact Yb.out.1 h
    ·rw[tu ZZ]at h;exact Yb.out.2 h
    ·rcases c9 with⟨P,N,h3⟩|⟨P,ci,N,h3,h4,h5⟩
     ·exact SQ ⟨P,N,h3⟩
     ·exact SP ⟨P,ci,N,h3,⟨_,_,h4⟩,h5⟩
end
end Go.Proofs.YtikdmenjibkgiaaGreatDoor
