/- Texts laid together. -/
import Derived.WalkKit
import Derived.WalkSpells
import Derived.WalkLawsBesides
import Derived.Deep.QuietTactic
import Derived.BigQuiet
import Derived.Test.YtmaefimaeelkbaaGreatDoorProg
namespace Go.Proofs.YtmaefimaeelkbaaGreatDoor
open _root_.Int renaming mul_le_mul_of_nonneg_right→N3,neg_mul→Of,mul_assoc→Pc
open Go.Value renaming int→PE
open Go.IntKind renaming i64→PF
open Go.Proofs.Tryz
open Go renaming World→PG
open Go.RowKit renaming Below→PI
open Go.Ending renaming returned→PM
variable {w:PG}{a:Addr}{v:Value}
set_option maxHeartbeats 8000000
set_option maxRecDepth 1000000
section
open Go.RowKit
theorem ae {p:Prop}(h:p):Hid p:=h
theorem aJ (h:w.cell? a=some v):a.block<w.heap.size:=World.block_lt_of_cell? w a h
theorem ar {w2:PG}(h:PI w.heap.size w w2)(k:w.cell? a=some v):w2.cell? a=some v:=(h.cell (World.block_lt_of_cell? _ _ k)).trans k
theorem ch (n:Nat)(h:w.cell? a=some v):(w.drewN n).cell? a=some v:=h
theorem bH (h:w.cell? a=some v):w.drew.cell? a=some v:=h
theorem aQ (w:PG)(o:Obj):PI w.heap.size w (w.alloc o):=(Below.refl _ _).alloc (Nat.le_refl _) _
theorem cI (w:PG):PI w.heap.size w w.drew:=(Below.refl _ _).drew
theorem al {n:Nat}:PI n w w:=Below.refl _ _
theorem aj {n:Nat}:n<=n:=Nat.le_refl _
theorem ak {a b c:PG}(h:PI a.heap.size a b)(k:PI b.heap.size b c):PI a.heap.size a c:=h.trans (k.mono h.size)
structure bU (w:PG) where
 u:PG
 h:PI w.heap.size w u
theorem qg (w:PG):Nonempty (bU w):=⟨⟨w,al⟩⟩
theorem bU.cell (x:bU w)(b o:Nat)(hb:b<w.heap.size):x.u.cell? ⟨b,o,none⟩=w.cell? ⟨b,o,none⟩:=x.h.cell (p:=⟨b,o,none⟩) hb
theorem bM {P:Program}{id:Nat}{Q:Exit->Act->PG->Prop}{a:Act}{l:List Oper}(hm:P.follows .mixedOrders=true)(hB:Region.lexB .any l.toArray=true)
  (h:wpQuiet P l.toArray (fun w'=>∃x:bU w,w'=x.u) (fun a'=>∀w',(∃x:bU w,w'=x.u)->Q .normal a' w') l a):(Code.region id l.toArray true).wp P Q a w :=
 wp_region_quiet (C:=fun w'=>∃x:bU w,w'=x.u) hm hB ⟨⟨{ w with drawn:=w.drawn+1 },(Below.refl _ w).drew⟩,rfl⟩ (by simpa using h)
theorem Calls.since_of {P:Program}{f:FuncId}{args:Array Value}{x:bU w}
  (h:Calls P f args x.u fun e w'=>e=PM v/\PI x.u.heap.size x.u w'):Calls P f args x.u fun e Q2=>e=PM v/\∃y:bU w,Q2=y.u :=
 h.mono fun _ w' ⟨he,hb⟩=>⟨he,⟨w',x.h.trans (hb.mono x.h.size)⟩,rfl⟩
theorem EK {W w1:PG}(hb:PI W.heap.size W w1):(∀b o,b<W.heap.size->w1.cell? ⟨b,o,none⟩=W.cell? ⟨b,o,none⟩)/\(∀b o,b<W.heap.size->w1.frozen? ⟨b,o,none⟩=W.frozen? ⟨b,o,none⟩) :=
 ⟨fun b o h=>hb.cell (p:=⟨b,o,none⟩) h,fun b o h=>hb.frozen (p:=⟨b,o,none⟩) h⟩
end
def sqs (n:Int):Int:=if n<0 then -n*n else n*n
def fy (a b:Int):Int:=if a<b then -1 else if b<a then 1 else 0
def iU (s d t e:Int):Int:=fy (sqs (s-t)) (2*sqs (e-d))
def val (s d:Int):Int:=38613965*s+54608393*d
theorem eV (n:Int):0<=n*n:=by
 rcases Int.le_total 0 n with h|h
 ·exact Int.mul_nonneg h h
 ·exact Int.mul_nonneg_of_nonpos_of_nonpos h h
theorem iJ (n:Int)(h1:-8388608<=n)(h2:n<=8388608):0<=n*n/\n*n<=70368744177664:=by
 refine⟨eV n,?_⟩;rcases Int.le_total 0 n with h|h
 ·have:=N3 h2 h;omega
 ·have:=Int.mul_le_mul_of_nonpos_right h1 h;omega
theorem J9 (n:Int)(h1:-8388608<=n)(h2:n<=8388608):-70368744177664<=sqs n/\sqs n<=70368744177664:=by
 have:=iJ n h1 h2;unfold sqs;have e:-n*n=-(n*n):=Of n n;split<;>omega
theorem ud (n:Int):sqs (-n)=-sqs n:=by
 unfold sqs;have e1:-n*n=-(n*n):=Of n n;have e2:- -n*-n=-(n*n):=by rw[Int.neg_neg,Int.mul_neg]
 have e3:-n*-n=n*n:=by rw[Of,Int.mul_neg,Int.neg_neg]
 split
 ·split
  ·omega
  ·omega
 ·split
  ·omega
  ·have:n=0:=(by omega);subst this;rfl
theorem EL (k x:Int):k*x*(k*x)=k*k*(x*x):=by
 rw[Pc,Pc,Int.mul_left_comm x k x]
theorem Ka (y:Int):54608393*y*(54608393*y)=2982076586042449*(y*y):=by
 rw[EL];rfl
theorem Kc (y:Int):38613965*y*(38613965*y)=1491038293021225*(y*y):=by
 rw[EL];rfl
theorem vN (a b:Int)(h0:0<=a)(h:a<=b):a*a<=b*b:=Int.mul_le_mul h h h0 (by omega)
theorem yW (x y:Int)(hx:0<=x)(hy:0<=y)(hq:y<38613965):x*x<2*(y*y)↔38613965*x<54608393*y:=by
 constructor
 ·intro h;by_cases g:38613965*x<54608393*y
  ·exact g
  ·have g:54608393*y<=38613965*x:=(by omega);have k:=vN (54608393*y) (38613965*x) (by omega) g;have e1:=Ka y;have e2:=Kc x;have k2:=vN y 38613964 hy (by omega);have e3:(38613964*38613964:Int)=1491038215793296:=(by decide);rw[e1,e2]at k;rw[e3]at k2;clear e1 e2 e3 g hx hy hq;generalize x*x=X at *;generalize y*y=Y at *;omega
 ·intro g;have PO:38613965*x+1<=54608393*y:=by omega
  have k:=vN (38613965*x) (54608393*y) (by omega) (by omega);have e1:=Ka y;have e2:=Kc x;have XT:1<=y:=by omega
  have k3:=vN 1 y (by omega) XT;rw[e1,e2]at k;clear e1 e2 g hx hy hq PO XT;generalize x*x=X at *;generalize y*y=Y at *;omega
theorem yX (x y:Int)(h:38613965*x=54608393*y)(h1:-38613965<y)(h2:y<38613965):x=0/\y=0:=by
 have e0:54608393*(38613965*x)=54608393*(54608393*y):=by rw[h]
 have e:y=38613965*(77227930*y-54608393*x):=by
  rw[Int.mul_sub,<- Pc,<- Pc];rw[<- Pc,<- Pc]at e0;have n1:(54608393*38613965:Int)=2108646576008245:=by decide
  have n2:(54608393*54608393:Int)=2982076586042449:=by decide
  have n3:(38613965*77227930:Int)=2982076586042450:=by decide
  have n4:(38613965*54608393:Int)=2108646576008245:=by decide
  rw[n1,n2]at e0;rw[n3,n4,e0];clear e0 h n1 n2 n3 n4;omega
 have hy:y=0:=by
  clear e0 h;generalize 77227930*y-54608393*x=k at e;omega
 subst hy;exact⟨by clear e e0;omega,rfl⟩
theorem AY (n:Int)(h:n*n=0):n=0:=by
 rcases Int.mul_eq_zero.mp h with h|h<;>exact h
theorem EM (x y:Int)(hx:0<=x)(hy:0<=y)(hq:y<38613965):2*(y*y)<x*x↔54608393*y<38613965*x:=by
 have h:=yW x y hx hy hq;constructor
 ·intro g;rcases Int.lt_trichotomy (38613965*x) (54608393*y) with k|k|k
  ·have:=h.mpr k;omega
  ·obtain⟨rfl,rfl⟩:=yX x y k (Int.lt_of_lt_of_le (by decide) hy) hq;clear k;omega
  ·exact k
 ·intro g;rcases Int.lt_trichotomy (x*x) (2*(y*y)) with k|k|k
  ·have:=h.mp k;omega
  ·exfalso;have k1:=vN (54608393*y+1) (38613965*x) (by omega) (by omega);have e2:=Kc x;have e1:(54608393*y+1)*(54608393*y+1)=2982076586042449*(y*y)+109216786*y+1:=by
    have:=Ka y;rw[Int.add_mul,Int.mul_add,this];omega
   rw[e1,e2]at k1;have k2:y*y<=38613964*y:=N3 (by omega) hy;clear e1 e2 g hx h;generalize x*x=X at *;generalize y*y=Y at *;omega
  ·exact k
theorem EP (x y:Int)(h1:-38613965<y)(h2:y<38613965):sqs x<2*sqs y↔38613965*x<54608393*y:=by
 have ex:=eV x;have ey:=eV y;have nx:-x*x=-(x*x):=Of x x;have ny:-y*y=-(y*y):=Of y y;have mx:-x*-x=x*x:=by rw[Of,Int.mul_neg,Int.neg_neg]
 have my:-y*-y=y*y:=by rw[Of,Int.mul_neg,Int.neg_neg]
 unfold sqs;by_cases hx:x<0<;>by_cases hy:y<0
 ·rw[if_pos hx,if_pos hy];have:=EM (-x) (-y) (by omega) (by omega) (by omega);rw[mx,my]at this;constructor
  ·intro g;have:=this.mp (by omega);omega
  ·intro g;have:=this.mpr (by omega);omega
 ·rw[if_pos hx,if_neg hy];constructor
  ·intro _;omega
  ·intro _;by_cases g:0<x*x
   ·omega
   ·have:=AY x (by omega);omega
 ·rw[if_neg hx,if_pos hy];constructor
  ·intro _;omega
  ·intro _;omega
 ·rw[if_neg hx,if_neg hy];exact yW x y (by omega) (by omega) h2
theorem Kd (x y:Int)(h1:-38613965<y)(h2:y<38613965):2*sqs y<sqs x↔54608393*y<38613965*x:=by
 have h:=EP (-x) (-y) (by omega) (by omega);rw[ud,ud]at h;constructor
 ·intro g;have:=h.mp (by omega);omega
 ·intro g;have:=h.mpr (by omega);omega
theorem ES (s d t u:Int)(h1:-38613965<u-d)(h2:u-d<38613965):iU s d t u=fy (val s d) (val t u):=by
 have a:=EP (s-t) (u-d) h1 h2;have b:=Kd (s-t) (u-d) h1 h2;unfold iU fy val;have a':(sqs (s-t)<2*sqs (u-d))=(38613965*s+54608393*d<38613965*t+54608393*u):=by
  rw[propext a];apply propext;constructor<;>intro _<;>omega
 have b':(2*sqs (u-d)<sqs (s-t))=(38613965*t+54608393*u<38613965*s+54608393*d):=by
  rw[propext b];apply propext;constructor<;>intro _<;>omega
 simp only[a',b']
theorem Ls (a b c d:Int)(h:a+b=c+d):a-c=d-b:=by omega
theorem gL (s d t u:Int)(h1:-38613965<u-d)(h2:u-d<38613965)(h:val s d=val t u):s=t/\d=u:=by
 unfold val at h;have:=yX (s-t) (u-d) (by rw[Int.mul_sub,Int.mul_sub];exact Ls _ _ _ _ h) h1 h2;clear h;omega
theorem mQ (a b:Int):fy a b<0↔a<b:=by
 unfold fy;split
 ·omega
 ·split<;>omega
theorem sK (a b:Int):fy a b=0↔a=b:=by
 unfold fy;split
 ·omega
 ·split<;>omega
section
open Go.RowKit
def okC (s d:Int):Prop:=0<=s/\s<=8388608/\0<=d/\d<=8388608
theorem jF (s d t u:Int)(w:PG)(h:okC s d)(k:okC t u) :
  Calls prog 177 #[.agg #[PE PF s,PE PF d],.agg #[PE PF t,PE PF u]] w fun e w'=>e=PM (.agg #[PE PF (s+t),PE PF (d+u)])/\PI w.heap.size w w':=by
 obtain⟨h1,h2,h3,h4⟩:=h;obtain⟨k1,k2,k3,k4⟩:=k;go_enter func177,ntmps177;go_wp2;exact bodyPost_ret (v:=.agg #[PE PF (s+t),PE PF (d+u)]) (by simp[results,results177,go_sem]) rfl ⟨rfl,(((al.alloc aj _).alloc (by simp) _).alloc (by simp;omega) _)⟩
theorem iV (s d t u:Int)(h:okC s d)(k:okC t u):iU s d t u=fy (val s d) (val t u):=by
 obtain⟨h1,h2,h3,h4⟩:=h;obtain⟨k1,k2,k3,k4⟩:=k;exact ES s d t u (by omega) (by omega)
def inC (s d:Int):Prop:=0<=s/\s<=1048576/\0<=d/\d<=1048576
def ltB (s d t u:Int):Bool:=decide (iU s d t u<0)
end
section
open Go.RowKit
def dst (a b:Int):Int:=if a<b then b-a else a-b
def les (a b:Int):Int:=if a<b then a else b
def eK (a:Int):Prop:=-1048576<=a/\a<=1048576
theorem ue (a b:Int)(h:eK a)(k:eK b):0<=dst a b/\dst a b<=2097152:=by
 unfold eK at h k;unfold dst;split<;>omega
theorem AZ (a b:Int)(w:PG)(h:eK a)(k:eK b) :
  Calls prog 126 #[PE PF a,PE PF b] w fun e w'=>e=PM (PE PF (dst a b))/\w'=w:=by
 obtain⟨h1,h2⟩:=h;obtain⟨h3,h4⟩:=k;by_cases h:a<b
 ·have e:dst a b=b-a:=by unfold dst;rw[if_pos h]
  rw[e];clear e;go_enter func126,ntmps126;go_wp2;go_ret;exact⟨rfl,rfl⟩
 ·have e:dst a b=a-b:=by unfold dst;rw[if_neg h]
  rw[e];clear e;by_cases g:b<a
  ·clear h;go_enter func126,ntmps126;go_wp2;go_ret;exact⟨rfl,rfl⟩
  ·have:a=b:=(by omega);subst this;rw[Int.sub_self];go_enter func126,ntmps126;go_wp2;go_ret;exact⟨rfl,rfl⟩
theorem JT {a b r:Int}(hr:dst a b=r)(w:PG)(h:eK a)(k:eK b) :
  Calls prog 126 #[PE PF a,PE PF b] w fun e w'=>e=PM (PE PF r)/\w'=w:=hr▸AZ a b w h k
theorem kY (x y t u:Int)(w:PG)(hx:eK x)(hy:eK y)(ht:eK t)(hu:eK u) :
  Calls prog 86 #[PE PF x,PE PF y,PE PF t,PE PF u] w fun e w'=>e=PM (.agg #[PE PF (dst (dst x t) (dst y u)),PE PF (les (dst x t) (dst y u))])/\PI w.heap.size w w':=by
 have b1:=ue x t hx ht;have b2:=ue y u hy hu;by_cases h:dst x t<dst y u
 ·have e1:dst (dst x t) (dst y u)=dst y u-dst x t:=by unfold dst at *;rw[if_pos h]
  have e2:les (dst x t) (dst y u)=dst x t:=by unfold les;rw[if_pos h]
  rw[e1,e2];clear e1 e2;generalize hA:dst x t=A at *;generalize hB:dst y u=B at *;go_enter func86,ntmps86;go_wp2_with (go_at_call 126;refine(AZ _ _ _ ?_ ?_).mono ?_;assumption;assumption;rintro e w' ⟨rfl,rfl⟩);exact bodyPost_ret (v:=.agg #[PE PF (B-A),PE PF A]) (by simp[results,results86,go_sem]) rfl ⟨rfl,al.alloc aj _⟩
 ·have e1:dst (dst x t) (dst y u)=dst x t-dst y u:=by unfold dst at *;rw[if_neg h]
  have e2:les (dst x t) (dst y u)=dst y u:=by unfold les;rw[if_neg h]
  rw[e1,e2];clear e1 e2;generalize hA:dst x t=A at *;generalize hB:dst y u=B at *;by_cases g:B<A
  ·clear h;go_enter func86,ntmps86;go_wp2_with (go_at_call 126;refine(JT (by assumption) _ (by assumption) (by assumption)).mono ?_;rintro e w' ⟨rfl,rfl⟩);exact bodyPost_ret (v:=.agg #[PE PF (A-B),PE PF B]) (by simp[results,results86,go_sem]) rfl ⟨rfl,al.alloc aj _⟩
  ·have:A=B:=(by omega);subst this;rw[Int.sub_self];go_enter func86,ntmps86;go_wp2_with (go_at_call 126;refine(JT (by assumption) _ (by assumption) (by assumption)).mono ?_;rintro e w' ⟨rfl,rfl⟩);exact bodyPost_ret (v:=.agg #[PE PF 0,PE PF A]) (by simp[results,results86,go_sem]) rfl ⟨rfl,al.alloc aj _⟩
theorem Ix (a b:Int):(if a-b<0 then -(a-b) else a-b)=dst a b:=by
 unfold dst;split<;>split<;>omega
end
end Go.Proofs.YtmaefimaeelkbaaGreatDoor
