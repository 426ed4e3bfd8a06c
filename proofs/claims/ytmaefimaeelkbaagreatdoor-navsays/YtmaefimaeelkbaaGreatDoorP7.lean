/- Texts laid together. -/
import Derived.Test.YtmaefimaeelkbaaGreatDoorP6
namespace Go.Proofs.YtmaefimaeelkbaaGreatDoor
open Go.World renaming cell?_alloc_at→ME,block_lt_of_cell?→MK
open _root_.Int renaming tmod_eq_emod_of_nonneg→OA,tdiv_eq_ediv_of_nonneg→Od
open Go.Value renaming int→PE
open Go.IntKind renaming i64→PF
open Go.Proofs.Tryz
open _root_.Option renaming some→OM,none→Pk
open Go renaming World→PG
open Go.RowKit renaming Below→PI
open Go.Ending renaming returned→PM
set_option maxHeartbeats 8000000
set_option maxRecDepth 1000000
section
open Go.RowKit
theorem JF (n:Int)(w:PG)(h1:-2097152<=n)(h2:n<=2097152) :
  Calls prog 219 #[PE PF n] w fun e w'=>e=PM (PE PF (if n<0 then -n else n))/\w'=w:=by
 by_cases h:n<0
 ·rw[if_pos h];go_enter func219,ntmps219;go_wp2;go_ret;exact⟨rfl,rfl⟩
 ·rw[if_neg h];go_enter func219,ntmps219;go_wp2;go_ret;exact⟨rfl,rfl⟩
theorem J5 (a b:Int)(w:PG)(h:eK a)(k:eK b) :
  Calls prog 219 #[PE PF (a-b)] w fun e w'=>e=PM (PE PF (dst a b))/\w'=w:=by
 rw[<- Ix];unfold eK at h k;exact JF (a-b) w (by omega) (by omega)
theorem Ic (x y t u:Int)(w:PG)(hx:eK x)(hy:eK y)(ht:eK t)(hu:eK u) :
  Calls prog 187 #[PE PF x,PE PF y,PE PF t,PE PF u] w fun e w'=>e=PM (.agg #[PE PF (dst (dst x t) (dst y u)),PE PF (les (dst x t) (dst y u))])/\PI w.heap.size w w':=by
 have b1:=ue x t hx ht;have b2:=ue y u hy hu;have ix:=hx;have iy:=hy;have it:=ht;have iu:=hu;unfold eK at ix iy it iu;by_cases h:dst x t<dst y u
 ·have e1:dst (dst x t) (dst y u)=dst y u-dst x t:=by unfold dst at *;rw[if_pos h]
  have e2:les (dst x t) (dst y u)=dst x t:=by unfold les;rw[if_pos h]
  rw[e1,e2];clear e1 e2;generalize hA:dst x t=A at *;generalize hB:dst y u=B at *;go_enter func187,ntmps187;go_wp2_with (go_at_call 219;refine(J5 _ _ _ ?_ ?_).mono ?_;assumption;assumption;rintro e w' ⟨rfl,rfl⟩);exact bodyPost_ret (v:=.agg #[PE PF (B-A),PE PF A]) (by simp[results,results187,go_sem]) rfl ⟨rfl,al.alloc aj _⟩
 ·have e1:dst (dst x t) (dst y u)=dst x t-dst y u:=by unfold dst at *;rw[if_neg h]
  have e2:les (dst x t) (dst y u)=dst y u:=by unfold les;rw[if_neg h]
  rw[e1,e2];clear e1 e2;generalize hA:dst x t=A at *;generalize hB:dst y u=B at *;go_enter func187,ntmps187;go_wp2_with (go_at_call 219;refine(J5 _ _ _ ?_ ?_).mono ?_;assumption;assumption;rintro e w' ⟨rfl,rfl⟩);exact bodyPost_ret (v:=.agg #[PE PF (A-B),PE PF B]) (by simp[results,results187,go_sem]) rfl ⟨rfl,al.alloc aj _⟩
end
section
open Go.RowKit
theorem Mj (w:PG):PI w.heap.size w (w.alloc (.cells #[PE PF 0,PE PF 0] 53)):=al.alloc aj _
theorem Mk (w:PG){w1:PG}{m:Nat}(h:w1=(w.alloc (.cells #[PE PF 0,PE PF 0] 53)).drewN m) :
  w1.cell? ⟨w.heap.size,0,Pk⟩=OM (PE PF 0)/\w1.cell? ⟨w.heap.size,1,Pk⟩=OM (PE PF 0)/\w1.frozen? ⟨w.heap.size,0,Pk⟩=false/\w1.frozen? ⟨w.heap.size,1,Pk⟩=false/\w1.heap.size=w.heap.size+1/\PI w.heap.size w w1:=by
 subst h;have hB:=Mj w;refine⟨ME #[PE PF 0,PE PF 0] 53 w.heap.size 0 rfl,ME #[PE PF 0,PE PF 0] 53 w.heap.size 1 rfl,bE w #[PE PF 0,PE PF 0] 53 w.heap.size aj 0,bE w #[PE PF 0,PE PF 0] 53 w.heap.size aj 1,by simp,⟨hB.os,hB.tape,hB.output,hB.size,hB.block⟩⟩
theorem Ml {M:Nat}{W a b ax ay bx by' cs cd:Int}(w:PG)(c0:w.cell? ⟨M,0,Pk⟩=OM (PE PF W))(PW:W≠0)(t1:Int.tmod a W=ax)(t2:Int.tmod b W=bx)(t3:Int.tdiv a W=ay)(t4:Int.tdiv b W=by')
  (u3:IntKind.i64.wrap ay=ay) (u4:IntKind.i64.wrap by'=by')
  (ho:∀w,Calls prog 187 #[PE PF ax,PE PF ay,PE PF bx,PE PF by'] w fun e w'=>e=PM (.agg #[PE PF cs,PE PF cd])/\PI w.heap.size w w') :
  Calls prog 146 #[.pointer (OM ⟨M,0,Pk⟩),PE PF a,PE PF b] w fun e w'=>e=PM (.agg #[PE PF cs,PE PF cd])/\PI w.heap.size w w':=by
 have hM:M<w.heap.size:=MK w _ c0;go_enter func146,ntmps146;go_wp2;obtain⟨k0,k1,f0,f1,QC,HB⟩:=Mk w (m:=0) rfl;rw[World.drewN_zero]at k0 k1 f0 f1 QC HB;have c0:=(HB.cell (p:=⟨M,0,Pk⟩) hM).trans c0;generalize w.alloc (.cells #[PE PF 0,PE PF 0] 53)=W1 at *;have c0:=bH c0;have k0:=bH k0;have k1:=bH k1;have f0:W1.drew.frozen? ⟨w.heap.size,0,Pk⟩=false:=f0;have f1:W1.drew.frozen? ⟨w.heap.size,1,Pk⟩=false:=f1;have HB:PI w.heap.size w W1.drew:=⟨HB.os,HB.tape,HB.output,HB.size,HB.block⟩;have QC:w.heap.size<W1.drew.heap.size:=MK W1.drew _ k0;go_region_with (first|(go_at_call 187;refine(ho _).mono ?_;rintro e w2 ⟨rfl,hb2⟩;have k0:=(hb2.cell (p:=⟨w.heap.size,0,Pk⟩) QC).trans k0;have k1:=(hb2.cell (p:=⟨w.heap.size,1,Pk⟩) QC).trans k1;have f0:=(hb2.frozen (p:=⟨w.heap.size,0,Pk⟩) QC).trans f0;have f1:=(hb2.frozen (p:=⟨w.heap.size,1,Pk⟩) QC).trans f1;have HB:=ak HB hb2))
 all_goals
  have r0:=rK w2 w.heap.size cs cd k0 k1;go_wp2;exact bodyPost_ret (v:=.agg #[PE PF cs,PE PF cd]) (by simp[results,results146,go_sem,r0.1,r0.2]) rfl ⟨rfl,(HB.setCell (p:=⟨w.heap.size,0,Pk⟩) aj _).setCell (p:=⟨w.heap.size,1,Pk⟩) aj _⟩
theorem yp {M:Nat}{W H V:Int}{bl:Nat->Bool}(a b:Int)(w:PG)(g:bg w M W H V bl)(ha:inB W H a=true)(hb:inB W H b=true) :
  Calls prog 146 #[.pointer (OM ⟨M,0,Pk⟩),PE PF a,PE PF b] w fun e w'=>e=PM (.agg #[PE PF (aO W a b),PE PF (aK W a b)])/\PI w.heap.size w w':=by
 have Qa:=g.w1;have Xs:=g.w2;have Xt:=g.h2;have qa:0<=a/\a<W*H:=of_decide_eq_true ha;have qb:0<=b/\b<W*H:=of_decide_eq_true hb;obtain⟨m1,m3,d1,d3⟩:=dA Qa ha;obtain⟨m2,m4,d2,d4⟩:=dA Qa hb;have t1:Int.tmod a W=a%W:=OA qa.1;have t2:Int.tmod b W=b%W:=OA qb.1;have t3:Int.tdiv a W=a/W:=Od qa.1;have t4:Int.tdiv b W=b/W:=Od qb.1;refine Ml w g.c0 (by omega) t1 t2 t3 t4 (fk (by omega) (by omega)) (fk (by omega) (by omega)) (fun w=>?_);exact Ic _ _ _ _ w (jQ m1 (by omega)) (jQ d1 (by omega)) (jQ m2 (by omega)) (jQ d2 (by omega))
def Thr (w:PG) (C I p:Nat) (b:Bool) (s d:Int):Prop :=
 w.cell? ⟨I,p,Pk⟩=OM (.bool b)/\w.cell? ⟨C,p*2,Pk⟩=OM (PE PF s)/\w.cell? ⟨C,p*2+1,Pk⟩=OM (PE PF d)
theorem Thr.below {w w':PG}{C I p:Nat}{b:Bool}{s d:Int}(h:Thr w C I p b s d)(hb:PI w.heap.size w w'):Thr w' C I p b s d:=by
 obtain⟨h1,h2,h3⟩:=h;have k:∀{a:Addr}{v:Value},w.cell? a=OM v->w'.cell? a=OM v:=fun {a v} h=>(hb.cell (MK w a h)).trans h;exact⟨k h1,k h2,k h3⟩
end
end Go.Proofs.YtmaefimaeelkbaaGreatDoor
