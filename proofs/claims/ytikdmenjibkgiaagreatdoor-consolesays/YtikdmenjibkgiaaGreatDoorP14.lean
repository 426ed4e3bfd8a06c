/- Texts laid together. -/
import Derived.Test.YtikdmenjibkgiaaGreatDoorP13
import Derived.Laws.IdiomStrings
import Derived.Laws.BitsAllLaws
import Derived.Deep.RegionHeld
namespace Go.Proofs.YtikdmenjibkgiaaGreatDoor
open _root_.Array renaming size->G
open Go.World renaming cell?_alloc_new->Tb,cell?_setCell_other->SY,cell?->D,alloc->E,setCell->C',ownsRow->G'
open _root_.Bool renaming and_eq_true->TB,false_and->Un
open _root_.Nat renaming eq_zero_or_pos->UT,pow_le_pow_right->UM,succ_mul->UX
open _root_.Option renaming isSome_iff_exists->Uj
open _root_.List renaming append_cancel_left->VM,take_of_length_le->TM,length_append->Td,take_add_one->Ty,getElem?_eq_getElem->SU,all_eq_true->Uu,getElem_mem->TY,take_length->Tl,length_cons->Tk,take_append_drop->UU,length_take->Ts,mem_cons->TD,cons_append->Uw,getD_eq_getElem?_getD->Tt,append_assoc->TC,length->K
open Go.Proofs.Tryz
open _root_.Option renaming some->Z,none->UP
open _root_.Bool renaming true->Q,false->Vl
open Go renaming World->M
open Go.RowKit renaming Hid->Vy
open Go.Ending renaming returned->VJ
open Go.Obj renaming cells->VP
variable {n b j W H:Nat}{v:Int}{w:M}{cs:List Bool}
set_option maxHeartbeats 8000000
set_option maxRecDepth 1000000
open Go.RowKit
theorem Aj (b:Nat)(c:UInt8)(x:Int)(a:x=c.toNat)(w:M)(h:D w (O b 0)=Z (.int .u8 x)):(convert 80 9 (.slice (Z (O b 0)) 1 1)).run prog w=.ok (.string (str [c])) w:=by
 subst a;refine run_convert_bytes_back w 80 9 5 (O b 0) 1 [c] underlying80 underlying5 underlying9 ?_;intro j d
 match j,d with
 |0,_=>simpa [Addr.add]using h
theorem wX (n:Nat)(h:n<10)(w:M) :
  Rq 34 #[J n] w (.string (str (Lib.decDigits n))):=by
 rw[Lib.decDigits_one h];have a:=eo h;have c:(n:Int)<10:=U;have d:¬(n:Int)<0:=U;have b:=Aj (G w.heap) (UInt8.ofNat (48+n)) (48+(n:Int)) (by rw[a];omega) (E w (VP #[.int .u8 (48+(n:Int))] 5)) (by rw[Tb];rfl);clear a;go_enter func34,ntmps34;go_wp2_with fail;go_ret;exact⟨rfl,ae.alloc aa _⟩
theorem nW:∀(k n:Nat),n<=k->n<1000000000000000000->∀w:M,
  Rq 34 #[J n] w (.string (str (Lib.decDigits n))):=by
 intro k
 induction k with
 |zero=>exact λ n m _ w=>wX n U w
 |succ k l =>
  intro n m x w;by_cases h:n<10
  ·exact wX n h w
  ·rw[jP h];have s:=eo (show n%10<10 by omega);have R:¬(n:Int)<10:=U;have S:¬(n:Int)<0:=U;have N:(n:Int).tdiv 10=((n/10:Nat):Int):=(by rw[Int.ofNat_tdiv];rfl);have I:(n:Int).tmod 10=((n%10:Nat):Int):=(by rw[Int.ofNat_tmod];rfl);have j:=λ w=>l (n/10) U U w;have o:K (Lib.decDigits (n/10))<=20:=by
    have:=gO ((n/10:Nat):Int) U U;unfold Lib.itoa at this;rw[Q6 U,Int.toNat_natCast]at this;exact this
   have e:=λ b w h=>Aj b (UInt8.ofNat (48+n%10)) (48+((n%10:Nat):Int)) (by rw[s];omega) w h;generalize Lib.decDigits (n/10)=L at *;generalize UInt8.ofNat (48+n%10)=c at *;have u:n%10<10:=U;have v:n/10<1000000000000000000:=U;generalize n%10=r at *;generalize n/10=q at *;clear s;have C:IntKind.i64.wrap (q:Int)=q:=IntWalk.i64_in _ U;have wr:IntKind.i64.wrap (r:Int)=r:=IntWalk.i64_in _ U;have wr2:IntKind.i64.wrap (48+(r:Int))=48+r:=IntWalk.i64_in _ U;have t:IntKind.u8.wrap (48+(r:Int))=48+r:=(by rw[IntKind.wrap_u8'];omega);rw[<- bV];have F:(str L).size<=20:=(by rw[ar];exact o);have H:(str [c]).size=1:=(by rw[ar];rfl);generalize str L=T at *;generalize str [c]=i at *;have z:∀a:M,(convert 80 9 (.slice (Z (O (G a.heap) 0)) 1 1)).run prog (E a (VP #[.int .u8 (48+(r:Int))] 5))=.ok (.string i) (E a (VP #[.int .u8 (48+(r:Int))] 5)):=λ a=>e _ _ (by rw[Tb];rfl);have A:∀a:M,(convert 80 9 (.slice (Z (O (G a.heap) 0)) 1 1)).run prog (E a (VP #[.int .u8 (48+(r:Int))] 5)).drew=.ok (.string i) (E a (VP #[.int .u8 (48+(r:Int))] 5)).drew:=λ a=>e _ _ (by rw[show ∀(X:M) p,D X.drew p=D X p from λ _ _=>rfl,Tb];rfl);have g:∀{a d:M},Bq (E a (VP #[.int .u8 (48+(r:Int))] 5)).drew d->(convert 80 9 (.slice (Z (O (G a.heap) 0)) 1 1)).run prog d=.ok (.string i) d:=λ {a d} y=>e _ _ ((y.cell (p:=O (G a.heap) 0) sQ).trans (by rw[show ∀(X:M) p,D X.drew p=D X p from λ _ _=>rfl,Tb];rfl));have B:Vy (∀{a d:M},Bq (E a (VP #[.int .u8 (48+(r:Int))] 5)).drew d->(convert 80 9 (.slice (Z (O (G a.heap) 0)) 1 1)).run prog d=.ok (.string i) d):=g;clear e g l m x o;go_enter func34,ntmps34;go_wp2_with fail;go_region_held (λ _=>True) (trivial) ((go_at_call 34;refine Q9 (j _) λ d f=>?_;first|(have P:=B.out f)|skip))
   all_goals
    go_wp2_with fail;go_ret
    first|exact⟨rfl,(((Below.refl (G w.heap) w).drew).trans f).alloc f.size _⟩|exact⟨rfl,(((Below.refl (G w.heap) w).alloc aa _).drew).trans (f.mono (Nat.le_trans (Nat.le_succ _) (Nat.le_of_eq (World.size_alloc _ _).symm)))⟩
theorem OX {l:Lu}(b:Lib.decDigits n=l)(a:n<1000000000000000000)(w:M) :
  Rq 34 #[J n] w (.string (str l)):=b▸nW n n aa a w
theorem sD (t:Lu)(b:Bool)(w:M) :
  Eq9 108 #[.string (str t),.bool b] w (.bool (fT t b)):=by
 have k:=ar t;have f:=aD t;have a:=aD (ik Q);have c:=aD (ik Vl);unfold ik str at a c;simp only[if_true,Bool.false_eq_true,if_false]at a c;have j:(⟨#[57,50,50,51,51,55,50,48,51,54,56,53,52,55,55,53,56,48,55]⟩:ByteArray).size=19:=rfl;have i:(⟨#[57,50,50,51,51,55,50,48,51,54,56,53,52,55,55,53,56,48,56]⟩:ByteArray).size=19:=rfl;rcases Nat.lt_trichotomy (K t) 19 with h|h|h
 ·have e:fT t b=true:=by unfold fT;simp[h]
  rw[e];have d:(K t:Int)<19:=U;cases b
  all_goals
   go_enter func108,ntmps108;go_wp2;go_ret;exact⟨rfl,rfl⟩
 ·have e:fT t b=(Op.bytesLess t (ik b) || t==ik b):=by unfold fT;simp[h]
  rw[e];have d:¬(K t:Int)<19:=U;have g:((K t:Int)==19)=true:=by rw[beq_iff_eq];omega
  cases b
  all_goals
   go_enter func108,ntmps108;go_wp2;go_ret;exact⟨by first|rfl|(unfold ik;simp),rfl⟩
 ·have e:fT t b=false:=by
   unfold fT;rw[Q3 U,Q3 U];rfl
  rw[e];have d:¬(K t:Int)<19:=U;have g:((K t:Int)==19)=false:=by rw[Q4];omega
  cases b
  all_goals
   go_enter func108,ntmps108;go_wp2;go_ret;exact⟨rfl,rfl⟩
section
open Go.Lib
def iw (c:UInt8):Bool:=decide (48<=c.toNat/\c.toNat<=57)
def iP (u:Lu) (below:Bool):Bool:=!(u.head?==Z 48&&decide (1<K u))&&(u.all iw&&fT u below)
def Nu (t:Lu):Bool:=if t.head? = Z 45 then (decide (t.tail≠[])&&decide (t.tail≠[48]))&&iP t.tail Q else iP t Vl
theorem qp {u:Lu}:u.all iw=Q↔∀c∈u,isD c:=by grind [iw,isD]
theorem rK {u:Lu}(o:u≠[])(b:Bool):iP u b=Q↔∃n,n<=sh b/\u=decDigits n:=by
 unfold iP;rw[TB,TB,qp];constructor;rintro⟨l,f,s⟩;have a:2<=K u->∀c r,u=c::r->49<=c.toNat:=by
  intro d c r e;subst e;have q:=f c List.mem_cons_self;unfold isD at q;have i:¬c=48:=by grind
  have:c.toNat≠48:=λ e=>i (UInt8.toNat_inj.1 e);omega
 refine⟨cE 0 u,(ug u b f a).1 s,?_⟩;obtain⟨k,p⟩:∃k,K u=k+1:=⟨K u-1,by
  have:K u≠0:=by simpa using o
  omega⟩
 exact(qe k u p f a).symm;rintro⟨n,i,rfl⟩;have j:=nT n;have a:2<=K (decDigits n)->∀c r,decDigits n=c::r->49<=c.toNat:=by
  intro d c r e;have l:1<=n:=by
   rcases UT n with g|g
   subst g;rw[decDigits_one dQ]at d;simp at d;exact g
  obtain⟨w,v,m,t⟩:=uf n l;rw[e]at m;cases m;exact t
 refine⟨?_,j,(ug _ b j a).2 (by grind [mI])⟩;obtain⟨c,r,e,_⟩:=ud n;rw[Bool.not_eq_true',Bool.and_eq_false_iff];by_cases d:1<K (decDigits n);left;have:=a U c r e;rw[e];simp;intro h;subst h;simp at this
 grind
theorem J1 {t:Lu}(m:t≠[]):Nu t=Q↔∃v:Int,-9223372036854775808<=v/\v<=9223372036854775807/\t=itoa v:=by
 unfold Nu;split
 rename_i b
 obtain⟨u,rfl⟩:∃u,t=45::u:=by
  cases t with
  |nil=>cases b
  |cons c r =>
   simp at b;exact⟨r,by rw[b]⟩
 rw[List.tail_cons,TB,TB,decide_eq_true_eq,decide_eq_true_eq];constructor;rintro⟨⟨w,s⟩,q⟩;obtain⟨n,o,rfl⟩:=(rK w Q).1 q;have p:sh Q=9223372036854775808:=rfl;have i:1<=n:=by
  rcases UT n with h|h
  subst h;exact Q8 (decDigits_one dQ) s;exact h
 refine⟨-(n:Int),U,U,?_⟩;unfold itoa;rw[Q5 U]
 congr 2
 omega;rintro⟨v,l,k,e⟩;unfold itoa at e;split at e
 rename_i x
 simp only[List.cons.injEq,true_and]at e;have i:1<=v.natAbs:=U;have j:u≠[]:=by rw[e];exact mH _
 refine⟨⟨j,?_⟩,(rK j Q).2 ⟨v.natAbs,by show _<=9223372036854775808;omega,e⟩⟩;intro g;obtain⟨c,r,a,f⟩:=uf v.natAbs i;rw[<- e,g]at a;cases a;simp at f;obtain⟨c,r,a,d⟩:=ud v.toNat;rw[a]at e;simp at e;unfold isD at d;rw[<- e.1]at d;simp at d
 rename_i b
 rw[rK m Vl];constructor;rintro⟨n,o,rfl⟩;have p:sh Vl=9223372036854775807:=rfl;refine⟨n,U,U,?_⟩;unfold itoa;rw[Q6 U,Int.toNat_natCast];rintro⟨v,l,k,e⟩;unfold itoa at e;split at e
 grind
 exact⟨v.toNat,by show _<=9223372036854775807;omega,e⟩
theorem GG {word t:Lu}(a:t≠[]):(dM (word++t) word).isSome=Nu t:=by
 rw[Bool.eq_iff_iff,Uj,J1 a];constructor
 grind [ft,VM]
 rintro⟨v,c,b,e⟩;exact⟨v,ft.2 ⟨by rw[e],c,b⟩⟩
theorem yE (v:Int):itoa v≠[]:=by
 unfold itoa;split;simp;exact mH _
theorem uu {s word:Lu}(h:∀v:Int,-9223372036854775808<=v->v<=9223372036854775807->s≠word++itoa v):dM s word=none:=by
 cases a:dM s word with
 |none=>rfl
 |some v =>
  obtain⟨e,c,b⟩:=ft.1 a;exact Q8 e (h v c b)
end
theorem jA (s:Lu)(n:Nat):(str s).extract 0 n=str (s.take n):=by
 rw[Lib.extract_eq,mK];simp[str]
theorem kq (s:Lu)(n:Nat):(str s).extract n (K s)=str (s.drop n):=by grind [str,Go.Lib.extract_eq,mK,TM,List.length_drop,Std.instReflLeOfIsPreorder]
theorem yF {s word:Lu}(h:K s<=K word)(w:M) :
  Eq9 64 #[.string (str s),.string (str word)] w (.bool Vl):=by
 have c:=ar s;have b:=ar word;have a:(K s:Int)<=(K word:Int):=U;go_enter func64,ntmps64;go_wp2;go_ret;exact⟨rfl,rfl⟩
theorem Ak {s word:Lu}(h:K word<K s)(a:s.take (K word)≠word)(w:M) :
  Eq9 64 #[.string (str s),.string (str word)] w (.bool Vl):=by
 have j:=ar s;have i:=ar word;have g:¬(K s:Int)<=(K word:Int):=U;have f:(K word:Int)<=(K s:Int):=U;have e:=jA s (K word);have d:=aD (s.take (K word));have c:=aD word;have b:(s.take (K word)==word)=false:=by simpa using a
 go_enter func64,ntmps64;go_wp2;go_ret;exact⟨rfl,rfl⟩
theorem Al {s word t:Lu}(e:s=word++t)(h:20<K t)(b:K s<=1000)(w:M) :
  Eq9 64 #[.string (str s),.string (str word)] w (.bool Vl):=by
 have a:K s=K word+K t:=by rw[e,Td]
 have k:=ar s;have j:=ar word;have i:¬(K s:Int)<=(K word:Int):=U;have g:(K word:Int)<=(K s:Int):=U;have f:(str s).extract 0 (K word)=str word:=by rw[jA,e,List.take_left]
 have d:=aD word;have c:(20:Int)<(K s:Int)-(K word:Int):=U;clear e a;go_enter func64,ntmps64;go_wp2;go_ret;exact⟨rfl,rfl⟩
theorem uv (u:Lu)(h:u≠[])(w:M):(Instr.index 9 (.string (str u)) (J 0)).run prog w=.ok (.int .u8 (u.headD 0).toNat) w:=by
 obtain⟨c,r,rfl⟩:∃c r,u=c::r:=by
  cases u with
  |nil=>exact Q8 rfl h
  |cons c r=>exact⟨c,r,rfl⟩
 exact fe (c::r) 0 sQ w
structure GH (s word t:Lu):Prop where
 h1:(str s).size=K s
 h2:(str word).size=K word
 h3:¬(K s:Int)<=(K word:Int)
 h4:(K word:Int)<=(K s:Int)
 h5:(str s).extract 0 (K word)=str word
 h7:(str word).toList=word
 h8:¬(20:Int)<(K s:Int)-(K word:Int)
 h9:(str s).extract (K word) (K s)=str t
 ht:(str t).size=K t
 hb:K t<=20
 hi:∀w,(Instr.index 9 (.string (str t)) (J 0)).run prog w=.ok (.int .u8 ((t.headD 0).toNat)) w
 hj:∀w,(Instr.index 9 (.string (str s)) (J (K word))).run prog w=.ok (.int .u8 ((t.headD 0).toNat)) w
theorem Nv {s word t:Lu}(e:s=word++t)(h:t≠[])(a:K t<=20):GH s word t:=by
 have b:K s=K word+K t:=by rw[e,Td]
 have d:K t≠0:=by simpa using h
 obtain⟨c,r,rfl⟩:∃c r,t=c::r:=by
  cases t with
  |nil=>exact Q8 rfl h
  |cons c r=>exact⟨c,r,rfl⟩
 refine⟨ar s,ar word,U,U,by rw[jA,e,List.take_left],aD word,U,by rw[kq,e,List.drop_left],ar _,a,λ w=>fe (c::r) 0 sQ w,λ w=>?_⟩;rw[fe s (K word) (by rw[b];simp) w]
 congr 3
 simp[e]
theorem yG {s word u:Lu}(L:GH s word u)(m:u≠[])(A:u.headD 0≠45)(g:(u.head?==Z 48&&decide (1<K u))=Vl)(w:M) :
  Eq9 64 #[.string (str s),.string (str word)] w (.bool (iP u Vl)):=by
 obtain⟨h1,h2,h3,h4,Y,X,W,V,R,T,S,F⟩:=L;have B:K u≠0:=by simpa using m
 have N:=qH g;have z:((u.headD 0).toNat==45)=false:=by
  rw[Q4];exact λ e=>A (UInt8.toNat_inj.1 e)
 have e1:(((u.headD 0).toNat:Int)==45)=false:=by
  rw[Q4]at z ⊢;omega
 have o:(((u.headD 0).toNat:Int)==48)=Vl\/((((u.headD 0).toNat:Int)==48)=Q/\¬(1:Int)<(K u:Int)):=by
  cases t:(((u.headD 0).toNat:Int)==48) with
  |false=>exact .inl rfl
  |true =>
   refine .inr ⟨rfl,?_⟩;rw[beq_iff_eq]at t;obtain⟨c,r,rfl⟩:∃c r,u=c::r:=by
    cases u with
    |nil=>exact Q8 rfl m
    |cons c r=>exact⟨c,r,rfl⟩
   have C:(c.toNat:Int)=48:=by simpa using t
   have:c=48:=UInt8.toNat_inj.1 (by show c.toNat=48;omega);subst this;simp at g;subst g;simp
 clear g A z m;generalize ((u.headD 0).toNat:Int)=x at *;rcases o with o|⟨o,WH⟩
 all_goals
  go_enter func64,ntmps64;go_wp2;go_loopw [6] (λ i wr=>∃j:Nat,j<=K u/\i=J j/\wr=w/\(u.take j).all iw=Q)
   (λ i _=>K u-(intOf i).toNat)
  case atStart=>exact⟨0,U,rfl,rfl,rfl⟩
  case round =>
   obtain⟨j,F,rfl,rfl,p⟩:=hrel;by_cases q:j<K u
   ·have n:=fe u j q;have f:(u.take (j+1)).all iw=iw u[j]:=by
     rw[Ty,SU q,List.all_append,p];simp
    have k:iw u[j]=Vl->u.all iw=false:=λ h=>by
     rw[Bool.eq_false_iff];intro y;rw[Uu]at y;have:=y u[j] (TY q);rw[h]at this;cases this
    generalize u[j]=c at n f k;have P:(0:Int)<=(j:Int)/\(j:Int)<(K u:Int):=U;cases a:iw c with
    |true =>
     rw[a]at f;have v:48<=c.toNat/\c.toNat<=57:=Q1 a;have d1:¬(c.toNat:Int)<48:=U;have d2:¬(57:Int)<(c.toNat:Int):=U;have I:=qH f;clear f k a v;go_wp2;go_roundw
     case rel=>exact⟨j+1,U,gQ,by first|rfl|trivial,I.out⟩
     case measure=>simp[intOf];omega
    |false =>
     have d:=k a;have v:¬(48<=c.toNat/\c.toNat<=57):=of_decide_eq_false a;have b:iP u Vl=false:=by
      unfold iP;rw[d,Un,Bool.and_false]
     have l:=qH b;clear f k d a b;by_cases d1:(c.toNat:Int)<48
     ·go_wp2;go_ret;exact⟨by rw[l.out];rfl,rfl⟩
     ·have d2:(57:Int)<(c.toNat:Int):=U;go_wp2;go_ret;exact⟨by rw[l.out];rfl,rfl⟩
   ·have H:j=K u:=U;subst H;rw[Tl]at p;have b:iP u Vl=fT u false:=by
     unfold iP;rw[p,N.out];simp
    have l:=qH b;clear b;go_wp2_with (go_at_call 108;refine Q0 (sD u Vl _) ?_);go_ret;exact⟨by rw[l.out];rfl,rfl⟩
theorem vZ {s word u:Lu}(L:GH s word u)(a:u.headD 0=48)(e:1<K u)(w:M) :
  Eq9 64 #[.string (str s),.string (str word)] w (.bool Vl):=by
 obtain⟨n,m,l,k,j,i,h,g,d,f,c,b⟩:=L;rw[a]at c b;have o:(1:Int)<(K u:Int):=U;go_enter func64,ntmps64;go_wp2;go_ret;exact⟨rfl,rfl⟩
structure EX (t u:Lu):Prop where
 e1:(str t).extract 1 (K t)=str u
 hu:(str u).size=K u
 ul:(str u).toList=u
 t1:(1:Int)<=(K t:Int)
 ln:K u<K t
theorem J2 (u:Lu):EX (45::u) u:=by
 refine⟨by rw[kq];rfl,ar u,aD u,?_,by simp⟩;rw[Tk];omega
theorem sE {s word t u:Lu}(L:GH s word t)(d:EX t u)(c:t.headD 0=45)(h:u=[]\/u=[48])(w:M) :
  Eq9 64 #[.string (str s),.string (str word)] w (.bool Vl):=by
 obtain⟨x,v,r,q,p,o,n,m,k,l,b,a⟩:=L;obtain⟨j,i,g,f,e⟩:=d;rw[c]at b a;rcases h with rfl|rfl
 all_goals
  go_enter func64,ntmps64;go_wp2;go_ret;exact⟨rfl,rfl⟩
theorem v8 {s word t u:Lu}(L:GH s word t)(k:EX t u)(j:t.headD 0=45)(b:u.headD 0=48)(a:1<K u)(w:M) :
  Eq9 64 #[.string (str s),.string (str word)] w (.bool Vl):=by
 obtain⟨H,F,C,B,A,z,y,x,q,v,i,h⟩:=L;obtain⟨p,o,n,m,l⟩:=k;rw[j]at i h;have f:(u.isEmpty)=false:=by cases u with
  |nil=>simp at a
  |cons c r=>rfl
 have d:(u == [48])=false:=by
  rw[Q4];intro e;rw[e]at a;simp at a
 have g:=uv u (by intro e;rw[e]at a;simp at a);rw[b]at g;have I:(1:Int)<(K u:Int):=U;clear b;go_enter func64,ntmps64;go_wp2;go_ret;exact⟨rfl,rfl⟩
theorem yH {s word t u:Lu}(L:GH s word t)(V:EX t u)(N:t.headD 0=45)(d:u≠[])(a:u≠[48])(k:(u.head?==Z 48&&decide (1<K u))=Vl)(w:M) :
  Eq9 64 #[.string (str s),.string (str word)] w (.bool (iP u Q)):=by
 obtain⟨h1,h2,h3,h4,h5,h7,h8,h9,ht,S,I,v⟩:=L;obtain⟨m1,m2,m3,Y,X⟩:=V;rw[N]at I v;have n:K u≠0:=by simpa using d
 have hb:K u<=20:=U;have W:=qH k;have B:(u.isEmpty)=false:=by cases u with
  |nil=>exact Q8 rfl d
  |cons c r=>rfl
 have A:(u == [48])=false:=by rw[Q4];exact a
 have H:=uv u d;have T:(((u.headD 0).toNat:Int)==48)=false:=by
  rw[Q4];intro F;obtain⟨c,r,rfl⟩:∃c r,u=c::r:=by
   cases u with
   |nil=>exact Q8 rfl d
   |cons c r=>exact⟨c,r,rfl⟩
  have C:(c.toNat:Int)=48:=by simpa using F
  have:c=48:=UInt8.toNat_inj.1 (by show c.toNat=48;omega);subst this;simp at k;subst k;exact a rfl
 have Wc:(K u=0)=False:=by simp[n]
 clear k d a S;generalize ((u.headD 0).toNat:Int)=x at H T
 all_goals
  go_enter func64,ntmps64;go_wp2;go_loopw [6] (λ i wr=>∃j:Nat,j<=K u/\i=J j/\wr=w/\(u.take j).all iw=Q)
   (λ i _=>K u-(intOf i).toNat)
  case atStart=>exact⟨0,U,rfl,rfl,rfl⟩
  case round =>
   obtain⟨j,v,rfl,rfl,p⟩:=hrel;by_cases q:j<K u
   ·have o:=fe u j q;have g:(u.take (j+1)).all iw=iw u[j]:=by
     rw[Ty,SU q,List.all_append,p];simp
    have l:iw u[j]=Vl->u.all iw=false:=λ h=>by
     rw[Bool.eq_false_iff];intro z;rw[Uu]at z;have:=z u[j] (TY q);rw[h]at this;cases this
    generalize u[j]=c at o g l;have j1:(0:Int)<=(j:Int)/\(j:Int)<(K u:Int):=U;cases b:iw c with
    |true =>
     rw[b]at g;have y:48<=c.toNat/\c.toNat<=57:=Q1 b;have d1:¬(c.toNat:Int)<48:=U;have d2:¬(57:Int)<(c.toNat:Int):=U;have R:=qH g;clear g l b y;go_wp2;go_roundw
     case rel=>exact⟨j+1,U,gQ,by first|rfl|trivial,R.out⟩
     case measure=>simp[intOf];omega
    |false =>
     have f:=l b;have y:¬(48<=c.toNat/\c.toNat<=57):=of_decide_eq_false b;have e:iP u Q=false:=by
      unfold iP;rw[f,Un,Bool.and_false]
     have m:=qH e;clear g l f b e;by_cases d1:(c.toNat:Int)<48
     ·go_wp2;go_ret;exact⟨by rw[m.out];rfl,rfl⟩
     ·have d2:(57:Int)<(c.toNat:Int):=U;go_wp2;go_ret;exact⟨by rw[m.out];rfl,rfl⟩
   ·have P:j=K u:=U;subst P;rw[Tl]at p;have e:iP u Q=fT u true:=by
     unfold iP;rw[p,W.out];simp
    have m:=qH e;clear e;go_wp2_with (go_at_call 108;refine Q0 (sD u Q _) ?_);go_ret;exact⟨by rw[m.out];rfl,rfl⟩
theorem EY {u:Lu}{b:Bool}(h:(u.head?==Z 48&&decide (1<K u))=Q):iP u b=false:=by grind [iP]
theorem yI {u:Lu}(a:u≠[])(c:UInt8):u.head? = Z c↔u.headD 0=c:=by
 cases u with
 |nil=>exact Q8 rfl a
 |cons x r=>simp
theorem uw {s word:Lu}(j:K s<=1000)(w:M) :
  Eq9 64 #[.string (str s),.string (str word)] w (.bool (dM s word).isSome):=by
 by_cases m:K s<=K word
 ·have d:dM s word=none:=uu λ v _ _ e=>by
   have:=yE v;have k:K s=K word+K (Lib.itoa v):=(by rw[e,Td]);have:K (Lib.itoa v)≠0:=by simpa using this
   omega
  rw[d];exact yF m w
 ·by_cases i:s.take (K word)=word
  ·obtain⟨t,e⟩:∃t,s=word++t:=⟨s.drop (K word),by conv=>lhs;rw[<- UU (K word) s,i]⟩;have k:K s=K word+K t:=(by rw[e,Td]);have b:t≠[]:=(by grind);by_cases l:20<K t
   ·have d:dM s word=none:=uu λ v o n p=>by grind [VM,gO]
    rw[d];exact Al e l j w
   ·have L:=Nv e b U;rw[show dM s word=dM (word++t) word by rw[e],GG b];unfold Nu;by_cases f:t.head? = Z 45
    ·rw[Q5 f];obtain⟨u,rfl⟩:∃u,t=45::u:=by
      cases t with
      |nil=>exact Q8 rfl b
      |cons c r =>
       simp at f;exact⟨r,by rw[f]⟩
     rw[List.tail_cons];have g:=J2 u;by_cases u1:u=[]
     ·rw[show (decide (u≠[])&&decide (u≠[48]))=Vl by simp[u1],Un];exact sE L g rfl (.inl u1) w
     ·by_cases u2:u=[48]
      ·rw[show (decide (u≠[])&&decide (u≠[48]))=Vl by simp[u2],Un];exact sE L g rfl (.inr u2) w
      ·rw[Q2 u1,Q2 u2,Bool.and_self,Bool.true_and];cases a:(u.head?==Z 48&&decide (1<K u)) with
       |false=>exact yH L g rfl u1 u2 a w
       |true =>
        rw[EY a];rw[TB,beq_iff_eq,decide_eq_true_eq]at a;exact v8 L g rfl ((yI u1 48).1 a.1) a.2 w
    ·rw[Q6 f];cases a:(t.head?==Z 48&&decide (1<K t)) with
     |false=>exact yG L b (λ h=>f ((yI b 45).2 h)) a w
     |true =>
      rw[EY a];rw[TB,beq_iff_eq,decide_eq_true_eq]at a;exact vZ L ((yI b 48).1 a.1) a.2 w
  ·have d:dM s word=none:=uu λ v _ _ e=>by grind
   rw[d];exact Ak U i w
theorem tB {s:Lu}{r:Bool}(b:(dM s aZ).isSome=r)(a:K s<=1000)(w:M) :
  Eq9 64 #[.string (str s),.string ⟨#[104,101,105,103,104,116,32]⟩] w (.bool r):=b▸uw (word:=aZ) a w
theorem tD {s:Lu}{r:Bool}(b:(dM s bR).isSome=r)(a:K s<=1000)(w:M) :
  Eq9 64 #[.string (str s),.string ⟨#[119,105,100,116,104,32]⟩] w (.bool r):=b▸uw (word:=bR) a w
structure EZ (s word t:Lu):Prop where
 h1:(str s).size=K s
 h2:(str word).size=K word
 h3:¬(K s:Int)<=(K word:Int)
 h4:(K word:Int)<=(K s:Int)
 h5:(str s).extract 0 (K word)=str word
 h7:(str word).toList=word
 h9:(str s).extract (K word) (K s)=str t
 ht:(str t).size=K t
 hl:K s=K word+K t
theorem J3 {s word t:Lu}(e:s=word++t)(h:t≠[]):EZ s word t:=by
 have a:K s=K word+K t:=by rw[e,Td]
 have b:K t≠0:=by simpa using h
 exact⟨ar s,ar word,U,U,by rw[jA,e,List.take_left],aD word,by rw[kq,e,List.drop_left],ar _,a⟩
theorem Dd {s word t:Lu}(L:EZ s word t)(h:9<K t)(c:K s<=1000)(w:M) :
  Rq 65 #[.string (str s),.string (str word)] w (J (-1)):=by
 obtain⟨l,k,j,i,g,f,d,b,a⟩:=L;have e:(9:Int)<(K s:Int)-(K word:Int):=U;clear a;go_enter func65,ntmps65;go_wp2;go_ret;exact⟨rfl,ae⟩
theorem Am {s word t:Lu}(L:EZ s word t)(h:¬9<K t)(b:t≠[])(a:t.headD 0=45)(_hs:K s<=1000)(w:M) :
  Rq 65 #[.string (str s),.string (str word)] w (J (-1)):=by
 obtain⟨p,o,m,l,k,j,f,e,c⟩:=L;have g:¬(9:Int)<(K s:Int)-(K word:Int):=U;have d:=uv t b;rw[a]at d;have q:K t≠0:=by simpa using b
 have t0:(0:Int)<(K t:Int):=U;clear c a;go_enter func65,ntmps65;go_wp2;go_loopw [6,7] (λ n i wr=>n=J 0/\i=J 0/\wr=w) (λ _ _ _=>1)
 case atStart=>exact⟨rfl,rfl,rfl⟩
 case round =>
  obtain⟨rfl,rfl,rfl⟩:=hrel;go_wp2;go_ret;exact⟨rfl,ae⟩
theorem ux {t:Lu}(a:j<K t):cE 0 (t.take (j+1))=cE 0 (t.take j)*10+(t[j].toNat-48):=by grind [cE,Ty,SU,pw]
theorem Ao {s word:Lu}{n:Nat}(L:EZ s word (Lib.decDigits n))(h:¬9<K (Lib.decDigits n))(_hs:K s<=1000)(w:M) :
  Rq 65 #[.string (str s),.string (str word)] w (J n):=by
 obtain⟨P,h2,h3,h4,h5,h7,N,C,z⟩:=L;have l:=nT n;have g:=mI n;have f:=lF (Lib.decDigits n) l;have R:n<1000000000:=by
  rw[g]at f;have:10 ^ K (Lib.decDigits n)<=10 ^ 9:=UM dQ U;omega
 have h8:¬(9:Int)<(K s:Int)-(K word:Int):=U;have e:=λ w=>OX (n:=n) rfl U w;have o:=aD (Lib.decDigits n);obtain⟨t,d⟩:∃t,Lib.decDigits n=t:=⟨_,rfl⟩;rw[d]at N C z l g h e o;have V:=qH g;have S:∀j,j<=K t->cE 0 (t.take j)<1000000000:=λ j A=>by
  have P:=lF (t.take j) (λ c I=>l c (List.mem_of_mem_take I));have:10 ^ K (t.take j)<=10 ^ 9:=UM dQ (by rw[Ts];omega);omega
 clear z f g d;go_enter func65,ntmps65;go_wp2;go_loopw [6,7] (λ x i wr=>∃(j q:Nat),j<=K t/\i=J j/\x=J q/\q=cE 0 (t.take j)/\wr=w)
  (λ _ i _=>K t-(intOf i).toNat)
 case atStart=>exact⟨0,0,U,rfl,rfl,by simp[kg],rfl⟩
 case round =>
  obtain⟨j,q,A,rfl,rfl,b,rfl⟩:=hrel;have p:=S j A;rw[<- b]at p;by_cases y:j<K t
  ·have u:=fe t j y;have m:=ux y;have a:=l t[j] (TY y);unfold isD at a;rw[<- b]at m;have Y:(0:Int)<=(j:Int)/\(j:Int)<(K t:Int):=U;generalize t[j]=c at u m a;have d1:¬(c.toNat:Int)<48:=U;have d2:¬(57:Int)<(c.toNat:Int):=U;have B:IntKind.u8.wrap ((c.toNat:Int)-48)=((c.toNat-48:Nat):Int):=(by rw[IntKind.wrap_u8'];omega);have HS:=qH m;have H:K t<=9:=U;obtain⟨k,r⟩:∃k,c.toNat-48=k:=⟨_,rfl⟩;have F:k<=9:=U;have W:=qH r;rw[r]at B;clear m a r b;go_wp2;go_roundw
   case rel=>exact⟨j+1,q*10+k,U,gQ,gQ,by rw[HS.out,W.out],by first|rfl|trivial⟩
   case measure=>simp[intOf];omega
  ·have T:j=K t:=U;subst T;rw[Tl,V.out]at b;subst b;go_wp2_with (go_at_call 34;refine Q9 (e _) λ X v=>?_);go_ret;exact⟨rfl,v⟩
def bT:Lu->List Lu×Lu
 |[]=>([],[])
 |c::r=>if c=10 then ([]::(bT r).1,(bT r).2) else match bT r with
  |([],x)=>([],c::x)
  |(a::l,x)=>((c::a)::l,x)
theorem uy (b:Lu):∀(a:Lu),10∉a->bT (a++10::b)=(a::(bT b).1,(bT b).2)
 |[],_=>by simp[bT]
 |c::r,h=>by
  simp only[TD,not_or]at h;rw[Uw];simp only[bT,uy b r h.2];rw[Q6 (λ e=>h.1 e.symm)]
theorem yJ:∀(s:Lu),10∉s->bT s=([],s)
 |[],_=>rfl
 |c::r,h=>by
  simp only[TD,not_or]at h;unfold bT;rw[Q6 (λ e=>h.1 e.symm),yJ r h.2]
theorem fI (s:Lu):bT s=match eU s with|none=>([],s)|some p=>(p.1::(bT p.2).1,(bT p.2).2):=by
 cases h:eU s with
 |none=>exact yJ s (wM h)
 |some p =>
  obtain⟨e,c⟩:=kh (a:=p.1) (b:=p.2) h
  conv=>lhs;rw[e]
  exact uy p.2 p.1 c
def cQ (ls:List Lu):List Value:=ls.map λ l=>Value.string (str l)
theorem nX:(prog.info? 9).map (λ i=>(i.zero,i.size,i.bytes))=Z (Z (.string ⟨#[]⟩),1,16):=kQ
theorem Ap {s:Lu}{f:Nat}(d:f<=j)(a:j<K s):s.drop f=(s.drop f).take (j-f)++s[j]::s.drop (j+1):=by
 have c:(s.drop f).drop (j-f)=s.drop j:=by grind [List.drop_drop]
 have b:s.drop j=s[j]::s.drop (j+1):=List.drop_eq_getElem_cons a;rw[<- b,<- c,UU]
theorem wY {s:Lu}{f:Nat}(b:f<=j)(a:j<K s):(s.drop f).take (j+1-f)=(s.drop f).take (j-f)++[s[j]]:=by
 rw[show j+1-f=(j-f)+1 by omega,Ty,List.getElem?_drop,show f+(j-f)=j by omega,SU a];rfl
theorem nY (s:Lu)(f j:Nat):(str s).extract f j=str ((s.drop f).take (j-f)):=by
 rw[Lib.extract_eq,mK];rfl
theorem GI (s:Lu)(hs:K s<=1000)(w:M) :
  Zq 63 #[.string (str s)] w λ e I=>∃v,e=VJ (.tuple #[v,.string (str (bT s).2)])/\G' I (G w.heap) 9 1 v (K (bT s).1) (cQ (bT s).1)/\Bq w I:=by
 obtain⟨T,W,B⟩:=Option.map_eq_some_iff.1 nX;simp only[Prod.mk.injEq]at B;obtain⟨VZ,Wa,Wc⟩:=B;have Ws:=ar s;go_enter func63,ntmps63;go_wp2;go_loopw [4,5,6] (λ l f i wr=>∃(j a:Nat) (d:List Lu),j<=K s/\a<=j/\K d<=a/\i=J j/\f=J a/\10∉(s.drop a).take (j-a)/\bT s=(d++(bT (s.drop a)).1,(bT (s.drop a)).2) /\
   wr.ownsRow (G w.heap) 9 1 l (K d) (cQ d)/\Bq w wr)
  (λ _ _ i _=>K s-(intOf i).toNat)
 case atStart=>exact⟨0,0,[],U,U,by simp,rfl,rfl,by simp,by simp,⟨by simp[cQ],.inl ⟨rfl,rfl⟩⟩,ae⟩
 case round =>
  obtain⟨j,f,d,hj,H,Yn,rfl,rfl,n,m,b,p⟩:=hrel;have x:=p.size;by_cases z:j<K s
  ·have r:=fe s j z;have k:=Ap H z;have g:=wY H z;have j1:(0:Int)<=(j:Int)/\(j:Int)<(K s:Int):=U;generalize s[j]=c at r k g;by_cases t:c=10
   ·subst t;have C:=nY s f j;have y:bT s=((d++[(s.drop f).take (j-f)])++(bT (s.drop (j+1))).1,(bT (s.drop (j+1))).2):=by
     have X:bT (s.drop f)=((s.drop f).take (j-f)::(bT (s.drop (j+1))).1,(bT (s.drop (j+1))).2):=by
      conv=>lhs;rw[k]
      exact uy _ _ n
     rw[m,X];simp
    have Y:K d+1<=j+1:=U;generalize (s.drop f).take (j-f)=l at C y;have o:=qH y;have f1:(0:Int)<=(f:Int)/\(f:Int)<=(j:Int)/\(j:Int)<=(K s:Int):=U;clear y m n k g;go_wp2_with (at_builtin;refine wpList_append_own _ rfl _ _ 22 rfl (G w.heap) 9 T (.string ⟨#[]⟩) 1 16 underlying22 W VZ Wa Wc rfl dQ _ _ _ rfl (b.alloc _) (O (G wr.heap) 0) 1 1 [.string (str l)] rfl rfl ?c1 ?c2 ?c3 ?c4 ?c5 ?_)
    case c1=>exact cell_one_new _ _ _
    case c2=>intro u F;simp at F;subst F;rfl
    case c3=>unfold maxLen;omega
    case c4=>omega
    case c5=>simp;omega
    intro S A P R _;have VV:=λ q V=>(b.lt q V).1;have B1:Bq w A:=(p.alloc x _).grown R sU VV;have O1:G' A (G w.heap) 9 1 S (K (d++[l])) (cQ (d++[l])):=by simpa [cQ]using P
    clear P R b p;go_wp2;go_roundw
    case rel=>exact⟨j+1,j+1,d++[l],U,U,by simp;omega,gQ,gQ,by simp,o.out,O1,B1⟩
    case measure=>simp[intOf];omega
   ·have YU:((c.toNat:Int)==10)=false:=by
     rw[Q4];intro e;exact t (UInt8.toNat_inj.1 (by show c.toNat=10;omega))
    have N:10∉(s.drop f).take (j+1-f):=by
     rw[g,List.mem_append];rintro (h|h)
     ·exact n h
     ·exact t (List.mem_singleton.1 h).symm
    have HN:=qH N;have o:=qH m;clear N m n k g;go_wp2;go_roundw
    case rel=>exact⟨j+1,f,d,U,U,Yn,gQ,rfl,HN.out,o.out,b,p⟩
    case measure=>simp[intOf];omega
  ·have YX:j=K s:=U;subst YX;have L:10∉s.drop f:=by
    rw[TM sQ]at n;exact n
   rw[yJ _ L]at m;simp only[List.append_nil]at m;have C:=kq s f;have o:=qH m;have f1:(0:Int)<=(f:Int)/\(f:Int)<=(K s:Int):=U;clear m n L;go_wp2;go_quiet (fail);go_wp2;go_ret2;exact⟨_,by rw[o.out];rfl,by rw[o.out];exact b,below_drewN p _⟩
def szv (v:Int):Int:=if 0<=v/\K (Lib.itoa v)<=9 then v else -1
theorem uA (h:aT v=Q):szv v=v:=by grind [aT,szv,js]
theorem E8 (h:aT v=Vl):aT (szv v)=false:=by
 unfold szv;split;exact h;decide
theorem yK {s word:Lu}{r:Int}{a:ByteArray}(c:Vy (a=str word))(h:Vy (dM s word=Z v))(b:Vy (szv v=r))(i:K s<=1000)(w:M) :
  Rq 65 #[.string (str s),.string a] w (J r):=by
 rw[c.out,<- b.out];obtain⟨e,f,d⟩:=ft.1 h.out;have L:=J3 e (yE v);unfold szv;by_cases j:9<K (Lib.itoa v)
 grind [Dd]
 by_cases g:0<=v
 grind [Lib.itoa,Lib.decDigits,Ao]
 grind [Am,yE,Lib.itoa]
def PG (w:M) (bb:Nat) (ls:List Lu):Prop:=bb<G w.heap/\∀i,i<K ls->D w (O bb i)=Z (.string (str (ls.getD i [])))
theorem oe {base:Nat}{v:Value}{ls:List Lu}(h:G' w base 9 1 v (K ls) (cQ ls))(m:K ls≠0):∃c a,v=.slice (Z (O c 0)) (K ls) a/\base<=c/\PG w c ls:=by
 rcases h.2 with⟨b,k⟩|⟨g,a,l,b,j,f,_,_,n,e⟩
 exact Q8 k m;refine⟨g,a,b,j,(Array.getElem?_eq_some_iff.1 f).1,λ i d=>?_⟩;subst b;have:=h.cellAt i U;rw[this];unfold cQ;rw[List.getElem?_map,SU d];rw[Tt,SU d];rfl
theorem Nw {base:Nat}{v:Value}{ls:List Lu}(h:G' w base 9 1 v (K ls) (cQ ls)):∃A a,v=.slice A (K ls) a:=by
 rcases h.2 with⟨b,d⟩|⟨g,a,c,b,_⟩
 grind
 exact⟨_,_,b⟩
theorem uB {s a b c d r:Lu}(h:jr s=Z (a,b,c,d,r)):bT s=(a::b::c::d::(bT r).1,(bT r).2):=by
 unfold jr at h;split at h;cases h
 rename_i i
 split at h;cases h
 rename_i g
 split at h;cases h
 rename_i f
 split at h;cases h
 rename_i e
 simp at h;obtain⟨rfl,rfl,rfl,rfl,rfl⟩:=h;rw[fI,i];simp only;rw[fI,g];simp only;rw[fI,f];simp only;rw[fI,e]
theorem J4 {s:Lu}(h:jr s=UP):K (bT s).1<4:=by
 unfold jr at h;rw[fI];cases d:eU s with
 |none=>simp
 |some p =>
  simp only[d]at h ⊢;rw[fI];cases c:eU p.2 with
  |none=>simp
  |some q =>
   simp only[c]at h ⊢;rw[fI];cases b:eU q.2 with
   |none=>simp
   |some x =>
    simp only[b]at h ⊢;rw[fI];cases a:eU x.2 with
    |none=>simp
    |some y=>simp[a]at h
structure GJ (w:M) (s:Lu) (e:Ending) (I:M):Prop where
 ex:∃v,e=VJ (.tuple #[v,.string (str (bT s).2)])/\G' I (G w.heap) 9 1 v (K (bT s).1) (cQ (bT s).1)/\Below (G w.heap) w I
theorem uC (s:Lu)(a:K s<=1000)(w:M):Zq 63 #[.string (str s)] w (GJ w s):=(GI s a w).mono λ _ _ h=>⟨h⟩
theorem Aq {s:Lu}(h:1000<K s)(w:M) :
  Rq 35 #[.string (str s)] w (.tuple #[.pointer UP,J 2]):=by
 have b:=ar s;have a:(1000:Int)<(K s:Int):=U;go_enter func35,ntmps35;go_wp2;go_ret2;exact⟨rfl,ae⟩
theorem De {s:Lu}(h:¬1000<K s)(c:jr s=UP)(w:M) :
  Rq 35 #[.string (str s)] w (.tuple #[.pointer UP,J 3]):=by
 have k:=ar s;have j:¬(1000:Int)<(K s:Int):=U;have i:=J4 c;clear c;go_enter func35,ntmps35;go_wp2_with (go_at_call 63;refine(uC s U _).mono ?_);rintro e g ⟨v,rfl,a,b⟩;obtain⟨A,f,rfl⟩:=Nw a;have d:(K (bT s).1:Int)<4:=U;generalize K (bT s).1=n at *;go_wp2;go_ret2;exact⟨rfl,b⟩
theorem Ar {s a b c d r:Lu}(h:¬1000<K s)(B:jr s=Z (a,b,c,d,r))(j:sizeOf4 a b c d=UP)(w:M) :
  Rq 35 #[.string (str s)] w (.tuple #[.pointer UP,J 3]):=by
 have Ws:=ar s;have h1:¬(1000:Int)<(K s:Int):=U;obtain⟨l1,l2,l3⟩:=mM B;have z:=uB B;obtain⟨F,m⟩:∃x,(dM b aZ).isSome=x:=⟨_,rfl⟩;obtain⟨C,l⟩:∃x,(dM c bR).isSome=x:=⟨_,rfl⟩;have ta:=aD a;have td:=aD d;have L:=aD eL;have N:=aD iG;unfold str eL at L;unfold str iG at N;have q:((a == [116,121,112,101,32,111,99,116,105,108,101])=Vl)\/(((a == [116,121,112,101,32,111,99,116,105,108,101])=Q)/\(F=Vl\/(F=Q/\(C=Vl\/(C=Q/\(d == [109,97,112])=Vl))))):=by
  cases k:(a == [116,121,112,101,32,111,99,116,105,108,101]) with
  |false=>exact .inl rfl
  |true =>
   refine .inr ⟨rfl,?_⟩;cases A:F with
   |false=>exact .inl rfl
   |true =>
    refine .inr ⟨rfl,?_⟩;cases W:C with
    |false=>exact .inl rfl
    |true =>
     refine .inr ⟨rfl,?_⟩;rw[A]at m;rw[W]at l;obtain⟨x,R⟩:=Uj.1 m;obtain⟨y,P⟩:=Uj.1 l;rw[Q4];intro H;rw[beq_iff_eq]at k;unfold sizeOf4 at j;rw[R,P]at j;simp[k,H,eL,iG]at j
 have Y:=qH m;have X:=qH l;clear m l j B;have t:K (bT s).1=4+K (bT r).1:=by rw[z];simp;omega
 have p:Vy ((bT s).1=a::b::c::d::(bT r).1):=by show _=_;rw[z]
 clear z;go_enter func35,ntmps35;go_wp2_with (go_at_call 63;refine(uC s U _).mono ?_);rintro e i ⟨v,rfl,f,u⟩;obtain⟨o,V,rfl,T,Wv,g⟩:=oe f U;have c0:D i (O o 0)=Z (.string (str a)):=by rw[g 0 U,p.out];rfl
 have c1:D i (O o 1)=Z (.string (str b)):=by rw[g 1 U,p.out];rfl
 have c2:D i (O o 2)=Z (.string (str c)):=by rw[g 2 U,p.out];rfl
 have c3:D i (O o 3)=Z (.string (str d)):=by rw[g 3 U,p.out];rfl
 have S:¬(K (bT s).1:Int)<4:=U;have q1:(4:Int)<=(K (bT s).1:Int):=U;clear f g t;generalize K (bT s).1=n at *;generalize (bT s).2=rs at *;rcases q with k|⟨k,rfl|⟨rfl,rfl|⟨rfl,H⟩⟩⟩
 all_goals
  go_wp2_with (go_at_call 64;refine(tB Y.out U _).mono ?_);rintro e I ⟨rfl,rfl⟩;go_wp2_with (go_at_call 64;refine(tD X.out U _).mono ?_);rintro e I ⟨rfl,rfl⟩;go_wp2;go_ret2;exact⟨rfl,u⟩
structure pB (s a b c d r:Lu) (W H:Int):Prop where
 h1:¬(1000:Int)<(K s:Int)
 lb:K b<=1000
 lc:K c<=1000
 lr:K r<=1000
 ta:(a == [116,121,112,101,32,111,99,116,105,108,101])=Q
 td:(d == [109,97,112])=Q
 nb:Vy (dM b aZ=Z H)
 nc:Vy (dM c bR=Z W)
 n4:K (bT s).1=4+K (bT r).1
 ll:Vy ((bT s).1=a::b::c::d::(bT r).1)
 l2:(bT s).2=(bT r).2
theorem Df {s a b c d r:Lu}{W H:Int}(h:¬1000<K s)(f:jr s=Z (a,b,c,d,r))(j:sizeOf4 a b c d=Z (W,H)):pB s a b c d r W H:=by
 obtain⟨o,n,m⟩:=mM f;have e:=uB f;obtain⟨l,q,p,k,i,g⟩:=qg j;exact⟨U,U,U,U,by rw[l];rfl,by rw[k];rfl,i,g,by rw[e];simp;omega,by show _=_;rw[e],by rw[e]⟩
theorem yL {s a b c d r:Lu}{W H:Int}(K9:pB s a b c d r W H)(C:aT W=Vl\/(aT W=Q/\aT H=Vl))(w:M) :
  Rq 35 #[.string (str s)] w (.tuple #[.pointer UP,J 1]):=by
 have Ws:=ar s;obtain⟨h1,lb,lc,lr,ha,hd,R,P,S,t,T⟩:=K9;have ta:=aD a;have td:=aD d;have L:=aD eL;have N:=aD iG;unfold str eL at L;unfold str iG at N;have E1:Vy ((dM b aZ).isSome=Q):=by show _=_;rw[R.out];rfl
 have E2:Vy ((dM c bR).isSome=Q):=by show _=_;rw[P.out];rfl
 have P1:Vy ((⟨#[104,101,105,103,104,116,32]⟩:ByteArray)=str aZ):=rfl;have P2:Vy ((⟨#[119,105,100,116,104,32]⟩:ByteArray)=str bR):=rfl;obtain⟨B,g⟩:∃z,szv W=z:=⟨_,rfl⟩;obtain⟨F,l⟩:∃z,szv H=z:=⟨_,rfl⟩;have WZ:aT B=Vl\/(aT B=Q/\aT F=Vl):=by
  rcases C with h|⟨h,k⟩
  ·exact .inl (by rw[<- g];exact E8 h)
  ·exact .inr ⟨by rw[<- g,uA h];exact h,by rw[<- l];exact E8 k⟩
 have Z1:=qH g;have Z2:=qH l;clear g l C;go_enter func35,ntmps35;go_wp2_with (go_at_call 63;refine(uC s U _).mono ?_);rintro e m ⟨v,rfl,i,o⟩;obtain⟨j,Y,rfl,X,u,q⟩:=oe i U;have c0:D m (O j 0)=Z (.string (str a)):=by rw[q 0 U,t.out];rfl
 have y:D m (O j 1)=Z (.string (str b)):=by rw[q 1 U,t.out];rfl
 have x:D m (O j 2)=Z (.string (str c)):=by rw[q 2 U,t.out];rfl
 have c3:D m (O j 3)=Z (.string (str d)):=by rw[q 3 U,t.out];rfl
 have V:¬(K (bT s).1:Int)<4:=U;have q1:(4:Int)<=(K (bT s).1:Int):=U;have z1:=o.size;have A:Bq w m.drew:=o.drew;clear i q S T;generalize K (bT s).1=n at *;generalize (bT s).2=rs at *;go_wp2_with (go_at_call 64;refine(tB E1.out U _).mono ?_);rintro e I ⟨rfl,rfl⟩;go_wp2_with (go_at_call 64;refine(tD E2.out U _).mono ?_);rintro e I ⟨rfl,rfl⟩;go_wp2;go_region_held (λ I=>D I (O j 1)=Z (.string (str b))/\D I (O j 2)=Z (.string (str c))) (first|(exact⟨y,x⟩)) (first|(go_at_call 65;refine Q9 (yK aQ aQ aQ U _) λ w2 f=>?_;have y:=(f.cell (p:=O j 1) u).trans y;have x:=(f.cell (p:=O j 2) u).trans x;have u:=Nat.lt_of_lt_of_le u f.size;have A:=aj A f)|(go_at_call 36;refine Q0 (zG _ _ _ WZ) ?_))
 all_goals
  go_wp2;go_ret2;exact⟨rfl,A⟩
section
open Go.RowKit Go.Lib
def Fz (w:M) (b:Nat):Prop:=gL w b/\D w (O b 259)=UP
theorem Fz.below {I:M}(h:Fz w b)(c:Bq w I)(a:b<G w.heap):Fz I b:=by grind [Fz,gL,Go.RowKit.Below.frozen,Go.RowKit.Below.cell]
theorem Fz.X' {F:Nat->Prop}{I:M}(h:Fz w b)(d:ai F w I)(c:b<G w.heap)(a:¬F b):Fz I b:=by grind [Fz,gL,ai.frozen,Go.World.cell?_of_block,ai.block]
theorem QU (W H:Int)(w:M):Fz (E w (.cells (pW W H) 37)) (G w.heap):=by
 refine⟨bC w _ _ _ aa,?_⟩;rw[Tb];exact Array.getElem?_eq_none (by simp[pW])
theorem J5 {W H V:Int}{Y:Bn}(c:Nat)(v:Bool)(w:M)(g:bo w b W H V Y)(f:Fz w b)(a:inB W H c=Q)(d:Y c=!v)(v1:0<=V)(v2:V<=1000000) :
  Zq 66 #[Pq b,J c,.bool v] w λ e I=>e=VJ (.tuple #[.bool Q,J 0])/\cV b w I/\bo I b W H (V+1) (upd Y c v)/\Fz I b:=by
 have i:0<=(c:Int)/\(c:Int)<W*H:=Q1 a;obtain⟨u,t⟩:=bG g.w1 g.w2 g.h1 g.h2;obtain⟨s,r⟩:=i;have q:(c:Int)<256:=U;have h:=g.cs c U;have k:=g.c2;have n:=qH f.2
 replace f:=f.1
 have f1:=f 258;have f2:=f (2+c);rw[d]at h;have z:((!v)==v)=false:=by cases v<;>rfl
 have j:=λ m=>Gc (g.drewN m) c U v;have l:(O b (2+c):Addr)≠O b 258:=ck U;have A:D (C' w (O b (2+c)) (.bool v)) (O b 258)=Z (J V):=by rw[SY _ _ _ _ l];exact k
 have p:Vy (∀m x y,D ((C' (w.drewN m) (O b (2+c)) x).setCell (O b 258) y) (O b 259)=UP):=λ m x y=>by
  rw[SY _ _ _ _ (ck U),SY _ _ _ _ (ck U)];exact n.out
 go_enter func66,ntmps66;go_wp2_with (go_at_call 38;refine QQ (pj _ _ g a) λ m=>?_);go_ret2;exact⟨rfl,(((cV.refl b w).drewN m).setCell _ _).setCell _ _,j m,λ o=>by simpa using f o,p.out m _ _⟩
end
def eN (W:Nat):List Lu->Option (List Bool)
 |[]=>Z []
 |l::t=>if K l=W then (match eM l with
  |none=>UP
  |some a=>match eN W t with
   |none=>UP
   |some x=>Z (a++x)) else UP
theorem uD (W:Nat):∀(k:Nat) (r:Lu),dN W k r=if K (bT r).1=k/\(bT r).2=[] then eN W (bT r).1 else UP
 |0,r=>by
  unfold dN;rw[fI];cases h:eU r with
  |none =>
   simp only[List.length_nil,true_and];by_cases c:r=[];simp[c,eN];simp[c]
  |some p =>
   have:=(kh (a:=p.1) (b:=p.2) h).1;have c:r≠[]:=(by rw[this];simp);simp[c]
 |k+1,r=>by
  rw[fI];cases h:eU r with
  |none =>
   simp only[dN,h];simp
  |some p =>
   simp only[dN,h,uD W k p.2,Tk,Nat.add_right_cancel_iff,eN];by_cases d:K (bT p.2).1=k/\(bT p.2).2=[]
   grind
   grind
theorem wZ :∀{R:List Lu}{a:List Bool},eN W R=Z a->K a=K R*W
 |[],a,h=>by simp[eN]at h;subst h;simp
 |l::t,a,h=>by
  unfold eN at h;split at h
  rename_i d
  split at h;cases h
  rename_i x c
  split at h;cases h
  rename_i y b
  simp at h;subst h;rw[Td,kn c,d,wZ b,Tk,UX];omega;cases h
theorem xf (l:Lu):∀(R:List Lu) (a:List Bool),eN W R=Z a->eN W (R++[l])=if K l=W then (eM l).map (λ x=>a++x) else UP
 |[],a,h=>by
  simp[eN]at h;subst h;simp only[List.nil_append,eN];split;cases eM l<;>simp;rfl
 |m::R,a,h=>by
  unfold eN at h;split at h
  rename_i e
  split at h;cases h
  rename_i x d
  split at h;cases h
  rename_i y c
  simp at h;subst h;rw[Uw];simp only[eN,e,if_true,d,xf l R y c];by_cases b:K l=W;simp only[b,if_true];cases eM l<;>simp;simp[b];cases h
theorem xh (S:List Lu):∀(R:List Lu),eN W R=UP->eN W (R++S)=UP
 |[],h=>by simp[eN]at h
 |m::R,h=>by
  rw[Uw];simp only[eN]at h ⊢;split at h
  rename_i c
  simp only[c,if_true];cases b:eM m with
  |none=>rfl
  |some x =>
   simp only[b]at h ⊢;cases a:eN W R with
   |none=>rw[xh S R a]
   |some y=>simp[a]at h
  grind
theorem J6 {R:List Lu}{y:Nat}(h:eN W (R.take (y+1))=UP):eN W R=none:=by grind [xh,UU]
def gP (w:M) (b:Nat) (W H:Nat) (cs:List Bool):Prop:=bo w b W H (blocks cs) (dZ cs)/\Fz w b
theorem gP.false (g:gP w b W H cs):gP w b W H (cs++[Vl]):=by grind [gP,qi,qj]
theorem GK {i:Int}(c:i=K cs)(w:M)(g:gP w b W H cs)(j:K cs<W*H)(k:K cs<=1000000) :
  Zq 66 #[Pq b,J i,.bool Q] w λ e I=>e=VJ (.tuple #[.bool Q,J 0])/\cV b w I/\gP I b W H (cs++[Q]):=by
 subst c;have l:=nU cs;refine(J5 (K cs) Q w g.1 g.2 (yC j) (rG cs) U U).mono λ e I ⟨d,f,a,h⟩=>⟨d,f,?_,h⟩;rw[sq,<- su]at a;exact a
theorem Dh (h:aT W=Q)(k:aT H=Q)(w:M):gP (E w (.cells (pW W H) 37)) (G w.heap) W H [] :=
 ⟨wD W H w h k,QU W H w⟩
structure J7 (w:M) (W H:Nat) (e:Ending) (I:M):Prop where
 ex:e=VJ (.tuple #[Pq (G w.heap),J 0])/\Below (G w.heap) w I/\gP I (G w.heap) W H []/\G w.heap<G I.heap
theorem J8 (h:aT W=Q)(k:aT H=Q)(w:M):Zq 36 #[J W,J H] w (J7 w W H):=by
 have a:1<=(W:Int)/\(W:Int)<=16:=Q1 h;have b:1<=(H:Int)/\(H:Int)<=16:=Q1 k;exact(EA _ _ w a.1 a.2 b.1 b.2).mono λ e I ⟨d,c⟩=>⟨d,by rw[c];exact ae.alloc aa _,by rw[c];exact Dh h k w,by rw[c];simp⟩
theorem uE {s a b c d r:Lu}(K9:pB s a b c d r W H)(x:aT W=Q)(B:aT H=Q)(y:K (bT r).1≠H\/(K (bT r).1=H/\(bT r).2≠[]))(w:M) :
  Rq 35 #[.string (str s)] w (.tuple #[.pointer UP,J 3]):=by
 have Ws:=ar s;obtain⟨h1,lb,lc,lr,ha,hd,nb,Y,C,k,F⟩:=K9;have ta:=aD a;have td:=aD d;have T:=aD eL;have X:=aD iG;unfold str eL at T;unfold str iG at X;have E1:Vy ((dM b aZ).isSome=Q):=by show _=_;rw[nb.out];rfl
 have E2:Vy ((dM c bR).isSome=Q):=by show _=_;rw[Y.out];rfl
 have P1:Vy ((⟨#[104,101,105,103,104,116,32]⟩:ByteArray)=str aZ):=rfl;have P2:Vy ((⟨#[119,105,100,116,104,32]⟩:ByteArray)=str bR):=rfl;have Z1:=qH (uA x);have Z2:=qH (uA B);have a1:1<=(W:Int)/\(W:Int)<=16:=Q1 x;have a2:1<=(H:Int)/\(H:Int)<=16:=Q1 B;go_enter func35,ntmps35;go_wp2_with (go_at_call 63;refine(uC s U _).mono ?_);rintro e j ⟨v,rfl,h,m⟩;obtain⟨f,ag,rfl,ad,t,l⟩:=oe h U;have c0:D j (O f 0)=Z (.string (str a)):=by rw[l 0 U,k.out];rfl
 have q:D j (O f 1)=Z (.string (str b)):=by rw[l 1 U,k.out];rfl
 have o:D j (O f 2)=Z (.string (str c)):=by rw[l 2 U,k.out];rfl
 have c3:D j (O f 3)=Z (.string (str d)):=by rw[l 3 U,k.out];rfl
 have P:=qH q;have N:=qH o;have CR:Vy (∀i,i<K (bT r).1->D j (O f (4+i))=Z (.string (str ((bT r).1.getD i [])))):=λ i hi=>by rw[l (4+i) U,k.out,Nat.add_comm];rfl
 have S:=m.size;have g:Bq j j.drew:=ae.drew;clear h l k;rw[C,F];clear C F;generalize (bT r).1=R at *;generalize (bT r).2=u at *;have V:=aD u;obtain⟨n,A⟩:∃n,K R=n:=⟨_,rfl⟩;rw[A]at y CR ⊢;have EN:=qH A;clear A;rcases y with y|⟨rfl,L⟩
 have VY:¬(n:Int)=(H:Int):=U
 rotate_left
 have ab:u.isEmpty=false:=by cases u with
  |nil=>exact Q8 rfl L
  |cons _ _=>rfl
 clear L
 all_goals
  have ac:¬(4+(n:Int))<4:=U;have q1:(4:Int)<=(4+(n:Int)):=U;go_wp2_with (go_at_call 64;refine(tB E1.out U _).mono ?_);rintro e I ⟨rfl,rfl⟩;go_wp2_with (go_at_call 64;refine(tD E2.out U _).mono ?_);rintro e I ⟨rfl,rfl⟩;go_wp2;go_region_held (λ I=>D I (O f 1)=Z (.string (str b))/\D I (O f 2)=Z (.string (str c))) (first|(exact⟨q,o⟩)) (first|(go_at_call 65;refine Q9 (yK aQ aQ aQ U _) λ w2 z=>?_;have g:=aj g z;have q:=(g.cell (p:=O f 1) t).trans P.out;have o:=(g.cell (p:=O f 2) t).trans N.out)|(go_at_call 36;refine(J8 x B _).mono ?_;rintro e w3 ⟨rfl,hb3,hR,an⟩;have am:=g.size;have g:=aj g hb3;have q:=(g.cell (p:=O f 1) t).trans P.out;have o:=(g.cell (p:=O f 2) t).trans N.out))
  all_goals
   have r1:=hR.1.c1;go_wp2;go_ret2;exact⟨rfl,m.trans (g.mono S)⟩
theorem Di {s a b c d r:Lu}(h:pB s a b c d r W H)(e:aT W=Q)(g:aT H=Q)(f:K (bT r).1≠H)(w:M) :
  Rq 35 #[.string (str s)] w (.tuple #[.pointer UP,J 3]):=uE h e g (Or.inl f) w
theorem As {s a b c d r:Lu}(h:pB s a b c d r W H)(e:aT W=Q)(g:aT H=Q)(f:K (bT r).1=H/\(bT r).2≠[])(w:M) :
  Rq 35 #[.string (str s)] w (.tuple #[.pointer UP,J 3]):=uE h e g (Or.inr f) w
theorem Au {s a b c d r:Lu}(K9:pB s a b c d r W H)(hs:aT W=Q)(X2:aT H=Q){o:Option (List Bool)}(hl:K (bT r).1=H/\(bT r).2=[])(ho:eN W (bT r).1=o)(w:M) :
  Zq 35 #[.string (str s)] w λ e I=>((o=UP/\e=VJ (.tuple #[.pointer UP,J 3]))\/(∃cs,o=Z cs/\∃B,G w.heap<=B/\B<G I.heap/\e=VJ (.tuple #[Pq B,J 0])/\gP I B W H cs))/\Bq w I:=by
 have Ws:=ar s;obtain⟨h1,lb,lc,lr,ha,hd,nb,nc,n4,Xt,l2⟩:=K9;have ta:=aD a;have td:=aD d;have tt:=aD eL;have tm:=aD iG;unfold str eL at tt;unfold str iG at tm;have E1:Vy ((dM b aZ).isSome=Q):=by show _=_;rw[nb.out];rfl
 have E2:Vy ((dM c bR).isSome=Q):=by show _=_;rw[nc.out];rfl
 have P1:Vy ((⟨#[104,101,105,103,104,116,32]⟩:ByteArray)=str aZ):=rfl;have P2:Vy ((⟨#[119,105,100,116,104,32]⟩:ByteArray)=str bR):=rfl;have Z1:=qH (uA hs);have Z2:=qH (uA X2);have a1:1<=(W:Int)/\(W:Int)<=16:=Q1 hs;have a2:1<=(H:Int)/\(H:Int)<=16:=Q1 X2;go_enter func35,ntmps35;go_wp2_with (go_at_call 63;refine(uC s U _).mono ?_);rintro e F ⟨v,rfl,A,ad⟩;obtain⟨f,bd,rfl,bc,Wv,Wx⟩:=oe A U;have c0:D F (O f 0)=Z (.string (str a)):=by rw[Wx 0 U,Xt.out];rfl
 have c1:D F (O f 1)=Z (.string (str b)):=by rw[Wx 1 U,Xt.out];rfl
 have c2:D F (O f 2)=Z (.string (str c)):=by rw[Wx 2 U,Xt.out];rfl
 have c3:D F (O f 3)=Z (.string (str d)):=by rw[Wx 3 U,Xt.out];rfl
 have C1:=qH c1;have C2:=qH c2;have CR:Vy (∀i,i<K (bT r).1->D F (O f (4+i))=Z (.string (str ((bT r).1.getD i [])))):=λ i hi=>by rw[Wx (4+i) U,Xt.out,Nat.add_comm];rfl
 have z1:=ad.size;have u:Bq F F.drew:=ae.drew;clear A Wx Xt;rw[n4,l2];clear n4 l2;generalize (bT r).1=R at *;generalize (bT r).2=rs at *;have a9:=aD rs;obtain⟨n,en⟩:∃n,K R=n:=⟨_,rfl⟩;rw[en]at hl CR ⊢;have EN:=qH en;clear en;obtain⟨rfl,rfl⟩:=hl;have T:=qH ho;clear ho;have ba:¬(4+(n:Int))<4:=U;have q1:(4:Int)<=(4+(n:Int)):=U;go_wp2_with (go_at_call 64;refine(tB E1.out U _).mono ?_);rintro e I ⟨rfl,rfl⟩;go_wp2_with (go_at_call 64;refine(tD E2.out U _).mono ?_);rintro e I ⟨rfl,rfl⟩;go_wp2;go_region_held (λ I=>D I (O f 1)=Z (.string (str b))/\D I (O f 2)=Z (.string (str c))) (first|(exact⟨c1,c2⟩)) (first|(go_at_call 65;refine Q9 (yK aQ aQ aQ U _) λ w2 a4=>?_;have u:=aj u a4;have c1:=(u.cell (p:=O f 1) Wv).trans C1.out;have c2:=(u.cell (p:=O f 2) Wv).trans C2.out)|(go_at_call 36;refine(J8 hs X2 _).mono ?_;rintro e w3 ⟨rfl,hb3,hR,an⟩;have am:=u.size;have u:=aj u hb3;have c1:=(u.cell (p:=O f 1) Wv).trans C1.out;have c2:=(u.cell (p:=O f 2) Wv).trans C2.out))
 all_goals
  have r0:=hR.1.c0;have r1:=hR.1.c1;obtain⟨B,hB⟩:∃B,G w2.heap=B:=⟨_,rfl⟩;rw[hB]at hR an am r0 r1 ⊢;have V:=ad.trans (u.mono z1);have a3:f≠B:=U;have z:G w.heap<=B:=U;have a8:Vy (∀i,i<n->D w3 (O f (4+i))=Z (.string (str (R.getD i [])))):=λ i hi=>(u.cell (p:=O f (4+i)) Wv).trans (CR.out i hi);clear hB hb3 am z1 CR C1 C2 c1 c2 c0 c3;go_wp2;clear r0 r1;go_loopg [10] n (λ q y wr=>∃(j:Nat) (cs:List Bool),j<=n/\q=n-j/\y=J j/\eN W (R.take j)=Z cs/\gP wr B W n cs/\cV B w3 wr)
  case atStart=>exact⟨0,[],U,rfl,rfl,by simp[eN],hR,cV.refl _ _⟩
  case round =>
   obtain⟨j,cs,hj,WV,rfl,S,t,k⟩:=hrel;have HG:=qH WV;clear WV;have r0:=t.1.c0;have r1:=t.1.c1;by_cases VS:j<n
   ·have cr:=(k.cell (p:=O f (4+j)) a3).trans (a8.out j VS);have ag:R.take (j+1)=R.take j++[R.getD j []]:=(by rw[Ty,Tt,SU (by rw[EN.out];exact VS)];rfl);have WH:K cs=j*W:=(by have:=wZ S;rw[Ts,Nat.min_eq_left (by rw[EN.out];exact hj)]at this;exact this);have C:=xf (R.getD j []) _ _ S;rw[<- ag]at C;have WZ:eN W (R.take (j+1))=UP->eN W R=none:=J6;have ab:=ar (R.getD j []);generalize R.getD j []=l at cr C ab;have j1:(j:Int)<(n:Int):=U;have j2:(0:Int)<=4+(j:Int):=U;have j3:4+(j:Int)<4+(n:Int):=U;have t4:(4+(j:Int)).toNat=4+j:=U;clear ag;by_cases hw:K l=W
    ·rw[Q5 hw]at C;have ap:=qH C;have a6:=qH WZ;rw[hw]at ab;have HW:=qH hw;have a7:=qH WH;have be:=qH S;clear C hw WH S WZ;go_wp2;clear r0 r1 cr;go_loopg [12] W (λ q x wr=>∃(i:Nat) (a:List Bool),i<=W/\q=W-i/\x=J i/\eM (l.take i)=Z a/\gP wr B W n (cs++a)/\cV B w3 wr)
     case atStart=>exact⟨0,[],U,rfl,rfl,rfl,by simpa using t,k⟩
     case round =>
      clear t k;obtain⟨i,L,hi,ac,rfl,g,t,k⟩:=hrel;have au:=qH ac;clear ac;have r0:=t.1.c0;have r1:=t.1.c1;by_cases XC:i<W
      ·have P:i<K l:=(by rw[HW.out];exact XC);have aL:=fe l i P;have Y:=wQ g P;have Wl:eM (l.take (i+1))=UP->eM l=none:=wR;have Y5:=kn g;rw[Ts,Nat.min_eq_left U]at Y5;generalize l[i]=c at aL Y;have N:K (cs++L)=j*W+i:=(by rw[Td,Y5,a7.out]);have ay:j*W+W<=W*n:=(by rw[<- UX,Nat.mul_comm W n];exact Nat.mul_le_mul_right W VS);have We:K (cs++L)<W*n:=(by rw[N];omega);have a5:W*n<=16*16:=Nat.mul_le_mul U U;have aN:K (cs++L)<=1000000:=U;have HI:Vy ((j:Int)*(W:Int)+(i:Int)=(K (cs++L):Nat)):=(by show _=_;rw[N,Int.natCast_add,Int.natCast_mul]);have e1:(0:Int)<=(j:Int)*(W:Int)/\(j:Int)*(W:Int)<=1000:=(by rw[<- Int.natCast_mul];omega);have e2:(i:Int)<(W:Int):=U;have e3:(i:Int)<16:=U;have e4:(0:Int)<=(i:Int):=U;have Y6:=qH Wl;clear N ay a5 Y5 P Wl g;cases X:jq c with
       |none =>
        have Yu:o=none:=(by rw[<- T.out];exact a6.out (by rw[ap.out,Y6.out (by rw[Y,X];rfl)];rfl));obtain⟨b1,b2,b3,b4,b5,b6,b7⟩:=uh X;clear Y X;generalize (c.toNat:Int)=m at *;go_wp2;go_ret2;exact⟨.inl ⟨Yu,rfl⟩,k.below V z⟩
       |some v =>
        rw[X]at Y;have ao:=bX Y;clear Y;have h:=ui X;clear X;rcases h with⟨rfl,h⟩|⟨rfl,h⟩
        ·rcases h with rfl|rfl|rfl
         all_goals
          go_wp2;go_roundg (W-(i+1))
          case measure=>have:=au.out;omega
          case rel=>exact⟨i+1,L++[Vl],U,rfl,gQ,ao.out,by rw[<- TC];exact t.false,k⟩
        ·rcases h with rfl|rfl|rfl|rfl
         all_goals
          go_wp2_with (go_at_call 66;refine(GK HI.out _ t We aN).mono ?_;rintro e w5 ⟨rfl,T5,C5⟩);go_roundg (W-(i+1))
          case measure=>have:=au.out;omega
          case rel=>exact⟨i+1,L++[Q],U,rfl,gQ,ao.out,by rw[<- TC];exact C5,k.trans T5⟩
      ·have a0:i=W:=U;subst a0;go_wp2;go_roundg (n-(j+1))
       case measure=>have:=HG.out;omega
       case rel=>exact⟨j+1,cs++L,U,rfl,gQ,by rw[ap.out,<- Tl (l:=l),HW.out,g];rfl,t,k⟩
    ·rw[Q6 hw]at C;have Wl:=WZ C;rw[T.out]at Wl;have Yt:¬(K l:Int)=(W:Int):=U;clear C WZ WH S;go_wp2;go_ret2;exact⟨.inl ⟨Wl,rfl⟩,k.below V z⟩
   ·have aw:j=n:=U;subst aw;have g:o=Z cs:=(by rw[<- T.out,<- S,<- EN.out,Tl]);clear S;go_wp2;go_ret2;exact⟨.inr ⟨cs,g,B,z,by rw[k.size];exact an,rfl,t⟩,k.below V z⟩
theorem sG {s a b c d r:Lu}{o:Option (List Bool)}(k:pB s a b c d r W H)(i:aT W=Q)(j:aT H=Q)(f:dN W H r=o)(w:M) :
  Zq 35 #[.string (str s)] w λ e I=>((o=UP/\e=VJ (.tuple #[.pointer UP,J 3]))\/(∃cs,o=Z cs/\∃B,G w.heap<=B/\B<G I.heap/\e=VJ (.tuple #[Pq B,J 0])/\gP I B W H cs))/\Bq w I:=by
 rw[uD]at f;by_cases h:K (bT r).1=H;by_cases g:(bT r).2=[];rw[Q5 ⟨h,g⟩]at f;exact Au k i j ⟨h,g⟩ f w
 grind [As]
 grind [Di]
structure GL (w:M) (W H:Nat) (cs:List Bool) (e:Ending) (I:M):Prop where
 ex:∃B,G w.heap<=B/\B<G I.heap/\e=VJ (.tuple #[Pq B,J 0])/\gP I B W H cs/\Below (G w.heap) w I
structure Ka (w:M) (n:Nat) (e:Ending) (I:M):Prop where
 ex:e=VJ (.tuple #[.pointer UP,J n])/\Below (G w.heap) w I
theorem Dj {s:Lu}(h:cH s=.bad n)(w:M):Zq 35 #[.string (str s)] w (Ka w n):=by
 unfold cH at h;split at h
 rename_i g
 cases h;exact(Aq g w).mono λ _ _ h=>⟨h⟩
 rename_i g
 split at h
 rename_i j
 cases h;exact(De g j w).mono λ _ _ h=>⟨h⟩
 rename_i a b c d r j
 split at h
 rename_i i
 cases h;exact(Ar g j i w).mono λ _ _ h=>⟨h⟩
 rename_i W H i
 split at h
 rename_i f
 split at h
 rename_i m
 cases h;have l:=ir f.1;have k:=ir f.2;rw[<- l,<- k]at i;exact(sG (Df g j i) (by rw[l];exact f.1) (by rw[k];exact f.2) m w).mono λ e I ⟨o,t⟩=>by
  rcases o with⟨_,q⟩|⟨cs,p,_⟩
  exact⟨q,t⟩;cases p
 cases h
 rename_i f
 cases h;exact(yL (Df g j i) (uq f) w).mono λ _ _ h=>⟨h⟩
theorem Av {s:Lu}(h:cH s=.good W H cs)(w:M):Zq 35 #[.string (str s)] w (GL w W H cs):=by
 unfold cH at h;split at h;cases h
 rename_i x
 split at h;cases h
 rename_i a b c d r v
 split at h;cases h
 rename_i C F i
 split at h
 rename_i f
 split at h;cases h
 rename_i y o
 injection h with n m l
 subst n m l;have k:=ir f.1;have j:=ir f.2;rw[<- k,<- j]at i;exact(sG (Df x v i) (by rw[k];exact f.1) (by rw[j];exact f.2) o w).mono λ e I ⟨p,t⟩=>by
  rcases p with⟨g,_⟩|⟨cs,g,B,A,z,q,u⟩
  cases g;cases g;exact⟨B,A,z,q,u,t⟩
 cases h
theorem Fa {s:Lu}(h:cH s=.bad n):0<n:=by grind [cH]
end Go.Proofs.YtikdmenjibkgiaaGreatDoor
