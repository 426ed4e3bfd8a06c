/-
  Texts laid together: SdD, SdE, SdF, Rev, SdG, SdH.
-/
import Derived.Test.YtmaefimaeelkbaaGreatDoorP19
import Derived.Test.YtmaefimaeelkbaaGreatDoorP5
import Derived.Test.YtmaefimaeelkbaaGreatDoorP1
import Derived.Test.YtmaefimaeelkbaaGreatDoorP8
import Derived.Deep.CutRange
import Derived.Deep.LoopGhost
import Derived.Deep.Light
namespace Go.Proofs.YtmaefimaeelkbaaGreatDoor
section
open Go.RowKit
def vl (x:SS) (a:Nat):Int:=val ((x.F (a:Int)).getD (0,0)).1 ((x.F (a:Int)).getD (0,0)).2
theorem vl_some {x:SS}{a:Nat}{s d:Int}(h:x.F (a:Int)=some (s,d)):vl x a=val s d:=by unfold vl;rw [h];rfl
structure BkI (x:SS) (L:List Nat) (n:Nat) (l:List Nat) (c:Nat):Prop where
 last:∃ pre,l=pre++[c]
 head:∃ t,l=n::t
 down:l.Pairwise (fun a b=>vl x b<vl x a)
 inL:∀ a ∈ l,a ∈ L
 cont:∀ t,Bk x.A (c::t)->Bk x.A (l++t)
theorem BkI.start {x:SS}{L:List Nat}{n:Nat}(hn:n ∈ L):BkI x L n [n] n :=
 ⟨⟨[],rfl⟩,⟨[],rfl⟩,List.pairwise_singleton _ _,fun a ha=>by rw [List.mem_singleton.1 ha];exact hn,fun _ h=>h⟩
theorem BkI.step {x:SS}{L:List Nat}{n c m:Nat}{l:List Nat}(h:BkI x L n l c)(hA:x.A (c:Int)=some (m:Int))(hv:vl x m<vl x c)(hm:m ∈ L):BkI x L n (l++[m]) m:=by
 obtain ⟨pre,hp⟩:=h.last
 obtain ⟨t,ht⟩:=h.head
 refine ⟨⟨l,rfl⟩,⟨t++[m],by rw [ht];rfl⟩,?_,fun a ha=>?_,fun t' ht'=>?_⟩
 ·rw [List.pairwise_append]
  refine ⟨h.down,List.pairwise_singleton _ _,fun a ha b hb=>?_⟩
  rw [List.mem_singleton.1 hb]
  rw [hp] at ha
  rcases List.mem_append.1 ha with ha|ha
  ·have hd:=h.down
   rw [hp,List.pairwise_append] at hd
   have:=hd.2.2 a ha c (List.mem_singleton.2 rfl)
   omega
  ·rw [List.mem_singleton.1 ha];exact hv
 ·rcases List.mem_append.1 ha with ha|ha
  ·exact h.inL a ha
  ·rw [List.mem_singleton.1 ha];exact hm
 ·have:=h.cont (m::t') ⟨hA,ht'⟩
  rw [List.append_assoc]
  exact this
theorem BkI.len {x:SS}{L:List Nat}{n c:Nat}{l:List Nat}(h:BkI x L n l c)(hs:∀ n ∈ L,n<256):l.length<=256 :=
 nodup_len 256 (h.down.imp (fun h e=>by subst e;omega)) (fun a ha=>hs a (h.inL a ha))
theorem BkI.done {x:SS}{L:List Nat}{n c:Nat}{l:List Nat}(h:BkI x L n l c)(hA:x.A (c:Int)=none):∃ t,l=n::t/\Bk x.A (n::t):=by
 obtain ⟨t,ht⟩:=h.head
 have:=h.cont [] hA
 rw [List.append_nil,ht] at this
 exact ⟨t,ht,this⟩
theorem SI.ahead {L:List Nat}{lv:LSt}{r:Nat}{g:Int->Int × Int}{src:Int->Int->Int->Prop}{P:Int->Int->Prop}{x:SS}(O:LvOk L lv)(h:SI L lv r g src P x){c:Nat}{m:Int}(hA:x.A (c:Int)=some m):∃ m':Nat,m=(m':Int)/\m' ∈ L/\vl x m'<vl x c/\0<=vl x m':=by
 obtain ⟨s,d,s',d',t,u,k1,k2,⟨e,k3,_,k5,k6,_⟩,k7⟩:=h.ptr hA
 obtain ⟨l1,l2,l3,l4,_⟩:=h.lab k1
 refine ⟨m.toNat,by omega,l2,?_,?_⟩
 ·rw [vl_some (a:=m.toNat) (by rw [show ((m.toNat:Nat):Int)=m by omega];exact k1),vl_some k2]
  have hb:=O.bd k3
  subst k5 k6
  unfold val at *
  omega
 ·rw [vl_some (a:=m.toNat) (by rw [show ((m.toNat:Nat):Int)=m by omega];exact k1)]
  unfold val
  omega
theorem SideAt.lookA {w:World}{N:Nat}{k:SBk}{lb r:Nat}{gv v:Value}{nh na:Nat}{x:SS}(S:SideAt w N k lb r gv v nh na x){c:Int}(hc:(Lit.int .i64 c).wf=true):(Instr.lookup 129 (.map (some k.ab)) (.int .i64 c) true).run Tryz.prog w=.ok (.tuple #[.int .i64 ((x.A c).getD 0),.bool (x.A c).isSome]) w:=by
 cases h:x.A c with
 |none=>exact S.am.look_none law3 Tryz.underV (zero3 w) hc (av_none h) true
 |some m=>exact S.am.look_some law3 Tryz.underV (zero3 w) hc (av_some h) true
theorem rowOne (w:World)(n:Nat):(w.alloc (.cells #[.int .i64 (n:Int)] 3)).ownsRow w.heap.size 3 1 (.slice (some ⟨w.heap.size,0,none⟩) 1 1) ([n]:List Nat).length (vals [n]) :=
 ⟨rfl,Or.inr ⟨w.heap.size,1,#[.int .i64 (n:Int)],rfl,Nat.le_refl _,heap_alloc_new w _,Nat.le_refl _,by unfold maxLen;omega,rfl,rfl⟩⟩
set_option maxHeartbeats 2000000 in
set_option maxRecDepth 1000000 in
theorem back_any {N lb r n nh:Nat}{k:SBk}{L:List Nat}{lv:LSt}{gv v:Value}{g:Int->Int × Int}{src:Int->Int->Int->Prop}{P:Int->Int->Prop}{x:SS}{s d:Int}(w:World)(O:LvOk L lv)(S:SideAt w N k lb r gv v nh (ca x.A) x)(hSI:SI L lv r g src P x)(hn:x.F (n:Int)=some (s,d)) :
  Calls Tryz.prog 180 #[.pointer (some ⟨k.sb,0,none⟩),.int .i64 (n:Int)] w fun e w'=>∃ v t,e=.returned v/\Bk x.A (n::t)/\w'.ownsRow w.heap.size 3 1 v (n::t).length (vals (n::t))/\(n::t).length<=256/\Below w.heap.size w w':=by
 have hnL:n ∈ L:=by have h:=(hSI.lab hn).2.1;rw [Int.toNat_natCast] at h;exact h
 obtain ⟨i0,hi,hz0,hz1,hz2⟩:=info_parts Tryz.info3
 have b1:Below w.heap.size w (w.alloc (.cells #[.int .i64 (n:Int)] 3)):=(Below.refl _ _).alloc (Nat.le_refl _) _
 have S1:=S.below b1
 have own1:=rowOne w n
 have hl1:=S1.lookA (c:=(n:Int)) (wf_small (by omega) (by have:=O.small _ hnL;omega))
 have m1:=S1.c4
 have I1:BkI x L n [n] n:=BkI.start hnL
 go_enter Tryz.func180,Tryz.ntmps180
 go_wp2_with fail
 clear hl1 m1
 go_loopg [5,6,7] (vl x n).toNat (fun gk cv bv mv wr=>∃ l c,gk=(vl x c).toNat/\BkI x L n l c/\wr.ownsRow w.heap.size 3 1 cv l.length (vals l)/\bv=.int .i64 ((x.A (c:Int)).getD 0)/\mv=.bool (x.A (c:Int)).isSome/\Below w.heap.size w wr)
 case atStart=>exact ⟨[n],n,rfl,I1,own1,rfl,rfl,b1⟩
 case round =>
  clear own1 I1 S1 b1
  obtain ⟨l,c,hgk,I,own,rfl,rfl,hB⟩:=hrel
  have HG:Hid (gk=(vl x c).toNat):=hgk
  clear hgk
  have hll:=I.len O.small
  cases hA:x.A (c:Int) with
  |none =>
   obtain ⟨t,ht,hbk⟩:=I.done hA
   subst ht
   have HBK:Hid (Bk x.A (n::t)):=hbk
   clear hbk I hA
   go_wp2
   go_ret
   exact ⟨_,t,rfl,HBK.out,own,hll,hB⟩
  |some m =>
   obtain ⟨m',rfl,hm1,hm2,hm3⟩:=hSI.ahead O hA
   have I':=I.step hA hm2 hm1
   have HI:Hid (BkI x L n (l++[m']) m'):=I'
   have HM:Hid (vl x m'<vl x c/\0<=vl x m'):=⟨hm2,hm3⟩
   have hz5:=hB.size
   have hm256:=O.small _ hm1
   clear I I' hA hm2 hm3
   go_wp2_with (at_builtin;refine wpList_append_own _ rfl _ _ 51 rfl w.heap.size 3 i0 (.int .i64 0) 1 8 Tryz.underlying51 hi hz0 hz1 hz2 rfl (by decide) _ _ _ rfl (own.alloc _) ⟨wr.heap.size,0,none⟩ 1 1 [.int .i64 (m':Int)] rfl rfl ?c1 ?c2 ?c3 ?c4 ?c5 ?_)
   case c1 =>
    intro j u hj
    match j,hj with
    |0,hj =>
     simp at hj;subst hj;simp only [Addr.add]
     exact World.cell?_alloc_at (w:=wr) #[.int .i64 (m':Int)] 3 wr.heap.size 0 rfl
   case c2=>intro u hu;simp at hu;subst hu;rfl
   case c3=>unfold maxLen;omega
   case c4=>omega
   case c5=>simp;omega
   intro v' w6 hown' hgrow _
   have hbase:=fun q hq=>(own.lt q hq).1
   have B6:Below w.heap.size w w6:=(hB.alloc hz5 _).grown hgrow (by simp;omega) hbase
   have O6:w6.ownsRow w.heap.size 3 1 v' (l++[m']).length (vals (l++[m'])):=by
    rw [vals_app]
    simpa [vals] using hown'
   have S6:=S.below B6
   have hl6:=S6.lookA (c:=(m':Int)) (wf_small (by omega) (by omega))
   have m6:=S6.c4
   clear hown' hgrow own hbase hB
   go_wp2
   go_roundg (vl x m').toNat
   case measure=>have:=HG.out;have:=HM.out;omega
   case rel=>exact ⟨l++[m'],m',rfl,HI.out,O6,rfl,rfl,B6⟩
end
section
theorem cnt_del_same (F:Int->Option (Int × Int))(a:Int)(N:Nat)(h:(N:Int)<=a):cnt (delH F a) N=cnt F N:=by
 induction N with
 |zero=>rfl
 |succ N ih =>
  unfold cnt
  rw [ih (by omega),delH_off F (by omega)]
theorem cnt_del (F:Int->Option (Int × Int))(a:Int)(N:Nat)(h0:0<=a)(h:a<N)(hs:(F a).isSome=true):cnt (delH F a) N+1=cnt F N:=by
 induction N with
 |zero=>omega
 |succ N ih =>
  unfold cnt
  by_cases e:a=N
  ·rw [cnt_del_same F a N (by omega),<- e,delH_at,hs]
   rfl
  ·have:=ih (by omega)
   rw [delH_off F (fun q=>e q.symm)]
   omega
theorem cnt_put_le (F:Int->Option (Int × Int))(a s d:Int)(N:Nat):cnt (putH F a s d) N<=cnt F N+1:=by
 by_cases h0:0<=a/\a<N
 ·cases e:F a with
  |none=>rw [cnt_put F a s d N h0.1 h0.2 e];exact Nat.le_refl _
  |some c=>rw [cntG_again F a s d N (by rw [e];rfl)];omega
 ·have key:∀ M:Nat,(M:Int)<=N->cnt (putH F a s d) M=cnt F M:=fun M hM=>by
   induction M with
   |zero=>rfl
   |succ M ih =>
    unfold cnt
    rw [ih (by omega),putH_off F s d (by omega)]
  rw [key N (Int.le_refl _)];omega
def mu (x:SS):Nat:=2*potG 109969568169985 x.F 256+cnt x.H 256
section
variable {L : List Nat} {lv : LSt} {r : Nat} {g : Int → Int × Int} {src : Int → Int → Int → Prop} {x : SS}
theorem SI.mu_step (O:LvOk L lv){n:Nat}{D:Int->Prop}(h:SI L lv r g src (fun a b=>a≠(n:Int)\/D b) x){s d:Int}(hn:x.F (n:Int)=some (s,d))(hH:x.H (n:Int)=none){e:LE}(he:e ∈ lv.es n):mu (stepS lv r g n x e)<=mu x:=by
 by_cases hl:lv.lev n+r<=lv.lev e.to
 ·rw [stepS_up hn hl]
  by_cases hb:pushB x.F (e.to:Int) (s+e.s) (d+e.d)=true
  ·rw [if_pos hb]
   obtain ⟨_,k2,k3⟩:=h.low O hn hH he hl hb
   rw [k2]
   have k4:=cnt_put_le x.H (e.to:Int) (s+e.s+(g e.to).1) (d+e.d+(g e.to).2) 256
   unfold mu
   show 2*potG 109969568169985 (putH x.F (e.to:Int) (s+e.s) (d+e.d)) 256+cnt (putH x.H (e.to:Int) (s+e.s+(g e.to).1) (d+e.d+(g e.to).2)) 256<=_
   omega
  ·rw [if_neg hb];exact Nat.le_refl _
 ·rw [stepS_no hl];exact Nat.le_refl _
theorem SI.mu_fold (O:LvOk L lv){n:Nat}{s d:Int}:∀ {l:List LE}{D:Int->Prop}{x:SS},(∀ e ∈ l,e ∈ lv.es n)->SI L lv r g src (fun a b=>a≠(n:Int)\/D b) x->x.F (n:Int)=some (s,d)->x.H (n:Int)=none->mu (l.foldl (stepS lv r g n) x)<=mu x
 |[],_,_,_,_,_,_=>Nat.le_refl _
 |e::l,D,x,hl,h,hn,hH=>by
  obtain ⟨h1,h2,h3⟩:=h.step O hn hH (hl e (List.mem_cons_self ..))
  have k1:=h.mu_step O hn hH (hl e (List.mem_cons_self ..))
  have k2:=SI.mu_fold O (fun e' he'=>hl e' (List.mem_cons_of_mem _ he')) h1 h2 h3
  exact Nat.le_trans k2 k1
theorem SI.mu_go (O:LvOk L lv)(h:SI L lv r g src (fun _ _=>True) x){n:Nat}{p q:Int}(hp:x.H (n:Int)=some (p,q)):mu (goS lv r g n (popS x (n:Int)))<mu x:=by
 obtain ⟨s,d,k1,_⟩:=h.key hp
 have h1:=(h.pop (n:Int)).mono (P':=fun a b=>a≠(n:Int)\/False) (fun _ _ hP _=>⟨by rcases hP with q|q;exact q;exact q.elim,trivial⟩)
 have k2:=SI.mu_fold O (l:=lv.es n) (fun _ h=>h) h1 k1 (delH_at _ _)
 have hn:=(h.lab k1).2.1
 rw [Int.toNat_natCast] at hn
 have hs:=O.small _ hn
 have k3:=cnt_del x.H (n:Int) 256 (by omega) (by omega) (by rw [hp];rfl)
 unfold goS
 refine Nat.lt_of_le_of_lt k2 ?_
 unfold mu
 show 2*potG 109969568169985 x.F 256+cnt (delH x.H (n:Int)) 256<_
 omega
theorem SI.popped (h:SI L lv r g src (fun _ _=>True) x)(n:Nat):SI L lv r g src (fun a _=>a≠(n:Int)\/False) (popS x (n:Int)) :=
 (h.pop (n:Int)).mono (fun _ _ hP _=>⟨by rcases hP with q|q;exact q;exact q.elim,trivial⟩)
end
end
section
open Go.RowKit
def Pops (w w':World) (N:Nat) (k:SBk) (lb r:Nat) (gv v:Value) (na:Nat) (x:SS) (e:Ending):Prop :=
 ∃ (n s d:Int) (b:Bool) (v':Value) (nh':Nat),e=.returned (.tuple #[.int .i64 n,.agg #[.int .i64 s,.int .i64 d],.bool b])/\okC s d/\Keep (sb5 k v) w w'/\v'.ownBlock=v.ownBlock /\
  ((b=false/\(∀ a,x.H a=none)/\SideAt w' N k lb r gv v' nh' na x)\/(b=true/\∃ n':Nat,n=(n':Int)/\n'<256/\PopR x.H (n':Int) s d/\SideAt w' N k lb r gv v' nh' na (popS x (n':Int))))
theorem pop_side {N lb r nh na:Nat}{k:SBk}{gv v:Value}{x:SS}(w:World)(S:SideAt w N k lb r gv v nh na x)(hk:∀ {a s d},x.H a=some (s,d)->0<=a/\a<256) :
  Calls Tryz.prog 132 #[.pointer (some ⟨k.hb,0,none⟩)] w fun e w'=>Pops w w' N k lb r gv v na x e:=by
 have hNw:N<=w.heap.size:=by have:=S.nb.1;have:k.sb<w.heap.size:=World.block_lt_of_cell? _ _ S.c0;omega
 cases nh with
 |zero=>exact (pop_none w S.hp).mono fun e w' ⟨h1,h2⟩=>⟨0,0,0,false,v,0,h1,by unfold okC;omega,Keep.of_below h2,rfl,Or.inl ⟨rfl,fun a=>S.hp.empty a,S.below h2⟩⟩
 |succ m =>
  refine (pop_one w S.hp).mono fun e w' ⟨a,s,d,h1,h2,h3,⟨v',h4,h5⟩,K⟩=>?_
  have hka:=hk h2
  have hok:=(S.hp.fits h2).1
  obtain ⟨n,rfl⟩:∃ n:Nat,a=(n:Int):=⟨a.toNat,by omega⟩
  exact ⟨(n:Int),s,d,true,v',m,h1,hok,K.mono (fun _ _ h=>Or.inr (Or.inr h)),h5,Or.inr ⟨rfl,n,rfl,by omega,⟨h2,h3⟩,S.heap K h4 (fun g hg=>Or.inl (by rw [<- h5];exact hg)) hNw⟩⟩
theorem SI.key256 {L:List Nat}{lv:LSt}{r:Nat}{g:Int->Int × Int}{src:Int->Int->Int->Prop}{P:Int->Int->Prop}{z:SS}(O:LvOk L lv)(h:SI L lv r g src P z){a s d:Int}(ha:z.H a=some (s,d)):0<=a/\a<256:=by
 obtain ⟨s',d',k1,_⟩:=h.key ha
 obtain ⟨l1,l2,_⟩:=h.lab k1
 have:=O.small _ l2
 omega
structure MR (w wE wr:World) (k:SBk) (lb gf:Nat) (cs:List Value) (L:List Nat) (lv:LSt) (g:Int->Int × Int) (src:Int->Int->Int->Prop) (y x0:SS) (gk:Nat) (mid fnd nv cv mv:Value):Prop where
 ex:∃ (x:SS) (m:Mt) (v:Value) (nh cb:Nat) (n s d:Int) (b:Bool),mid=.int .i64 m.n/\fnd=.bool m.f/\nv=.int .i64 n/\cv=.pointer (some ⟨cb,0,none⟩)/\mv=.bool b/\w.heap.size+1<cb/\Slot wr w.heap.size 0 0/\Slot wr (w.heap.size+1) m.s m.d/\Slot wr cb s d/\(∀ q,v.ownBlock=some q->q≠w.heap.size/\q≠w.heap.size+1/\q≠cb)/\MI L lv g src y.F x m/\(∀ j x' m',MeetN lv g y.F j x m x' m'->∃ j',MeetN lv g y.F j' x0 ⟨0,0,0,false⟩ x' m')/\gk=mu x/\okC s d /\
  ((b=false/\(∀ a,x.H a=none)/\SideAt wr wE.heap.size k lb 0 (.func (.func gf) #[] cs.toArray) v nh (ca x.A) x)\/(b=true/\∃ n':Nat,n=(n':Int)/\n'<256/\PopR x.H (n':Int) s d/\SideAt wr wE.heap.size k lb 0 (.func (.func gf) #[] cs.toArray) v nh (ca x.A) (popS x (n':Int))))
 bl:Below wE.heap.size wE wr
theorem SideAt.lookF {w:World}{N:Nat}{k:SBk}{lb r:Nat}{gv v:Value}{nh na:Nat}{x:SS}(S:SideAt w N k lb r gv v nh na x){c:Int}(hc:(Lit.int .i64 c).wf=true):(Instr.lookup 225 (.map (some k.cb)) (.int .i64 c) true).run Tryz.prog w=.ok (.tuple #[.agg #[.int .i64 ((x.F c).getD (0,0)).1,.int .i64 ((x.F c).getD (0,0)).2],.bool (x.F c).isSome]) w:=by
 cases h:x.F c with
 |none=>exact S.fm.look_none law3 Tryz.underK (zeroK _) hc (fv_none h) true
 |some m=>exact S.fm.look_some law3 Tryz.underK (zeroK _) hc (fv_some (s:=m.1) (d:=m.2) h) true
def cB (E:Int->Option (Int × Int)) (n:Nat) (fs fd ms md:Int) (mf:Bool):Bool:=(E (n:Int)).isSome&&(!mf || decide (val (fs+((E (n:Int)).getD (0,0)).1) (fd+((E (n:Int)).getD (0,0)).2)<val ms md))
theorem mtS_cB {E:Int->Option (Int × Int)}{x:SS}{n:Nat}{fs fd mn ms md:Int}{mf:Bool}(hF:x.F (n:Int)=some (fs,fd)):mtS E x n ⟨mn,ms,md,mf⟩=if cB E n fs fd ms md mf=true then ⟨(n:Int),fs+((E (n:Int)).getD (0,0)).1,fd+((E (n:Int)).getD (0,0)).2,true⟩ else ⟨mn,ms,md,mf⟩:=by
 unfold mtS cB
 rw [hF]
 cases hE:E (n:Int) with
 |none=>rfl
 |some e =>
  show (if mf=false\/val (fs+e.1) (fd+e.2)<val ms md then (⟨(n:Int),fs+e.1,fd+e.2,true⟩:Mt) else ⟨mn,ms,md,mf⟩)=if (true&&(!mf || decide (val (fs+e.1) (fd+e.2)<val ms md)))=true then (⟨(n:Int),fs+e.1,fd+e.2,true⟩:Mt) else ⟨mn,ms,md,mf⟩
  by_cases hv:val (fs+e.1) (fd+e.2)<val ms md
  ·rw [if_pos (Or.inr hv),if_pos (by rw [decide_eq_true hv];simp)]
  ·cases mf with
   |false =>
    rw [if_pos (Or.inl rfl)]
    exact (if_pos (by simp)).symm
   |true=>rw [if_neg (by rintro (h|h);cases h;exact hv h),if_neg (by rw [decide_eq_false hv];simp)]
set_option maxHeartbeats 8000000 in
set_option maxRecDepth 1000000 in
theorem meet_any {N0 lb vb eb top gf nh ne Ne:Nat}{k ke:SBk}{L:List Nat}{lv:LSt}{f:Int->Option Value}{v ve gv2:Value}{cs:List Value}{g g2:Int->Int × Int}{src src2:Int->Int->Int->Prop}{x y:SS}(w0 wE w:World)(V0:LvAt w0 N0 lb vb eb top L lv f)(O:LvOk L lv)(hlv:∀ n,1<=lv.lev n/\lv.lev n<=7)(hg:GsOk w0 w0.heap.size gf cs g)(hB0:Below w0.heap.size w0 wE)(hgb:∀ n:Nat,0<=(g n).1/\(g n).1<=1024/\0<=(g n).2/\(g n).2<=1024)
  (SE:SideAt wE Ne ke lb 1 gv2 ve ne (ca y.A) y) (hY:SI L lv 1 g2 src2 (fun _ _=>True) y) (hBE:Below wE.heap.size wE w) (S:SideAt w wE.heap.size k lb 0 (.func (.func gf) #[] cs.toArray) v nh (ca x.A) x) (hM:MI L lv g src y.F x ⟨0,0,0,false⟩) :
  Calls Tryz.prog 134 #[.pointer (some ⟨k.sb,0,none⟩),.pointer (some ⟨ke.sb,0,none⟩)] w fun e w'=>∃ (j:Nat) (x':SS) (m:Mt),MeetN lv g y.F j x ⟨0,0,0,false⟩ x' m/\e=.returned (.tuple #[.int .i64 m.n,.agg #[.int .i64 m.s,.int .i64 m.d],.bool m.f])/\(∃ v' nh',SideAt w' wE.heap.size k lb 0 (.func (.func gf) #[] cs.toArray) v' nh' (ca x'.A) x')/\Below wE.heap.size wE w':=by
 have hNw:wE.heap.size<=w.heap.size:=hBE.size
 have b1:Below w.heap.size w ((w.alloc (.cells #[.int .i64 0,.int .i64 0] 53)).alloc (.cells #[.int .i64 0,.int .i64 0] 53)):=((Below.refl _ _).alloc (Nat.le_refl _) _).alloc (by simp) _
 have S1:=S.below b1
 have sl1:Slot ((w.alloc (.cells #[.int .i64 0,.int .i64 0] 53)).alloc (.cells #[.int .i64 0,.int .i64 0] 53)) w.heap.size 0 0:=(Slot.new w 0 0).below ((Below.refl _ _).alloc (Nat.le_refl _) _)
 have sl2:Slot ((w.alloc (.cells #[.int .i64 0,.int .i64 0] 53)).alloc (.cells #[.int .i64 0,.int .i64 0] 53)) (w.heap.size+1) 0 0:=by
  have h:=Slot.new (w.alloc (.cells #[.int .i64 0,.int .i64 0] 53)) 0 0
  have e:(w.alloc (.cells #[.int .i64 0,.int .i64 0] 53)).heap.size=w.heap.size+1:=by simp
  rw [e] at h;exact h
 have hsz1:((w.alloc (.cells #[.int .i64 0,.int .i64 0] 53)).alloc (.cells #[.int .i64 0,.int .i64 0] 53)).heap.size=w.heap.size+2:=by simp
 have m5:=S1.c5
 have hpop:=pop_side _ S1 (fun ha=>hM.si.key256 O ha)
 have HKB:Hid (k.cb<w.heap.size/\k.ab<w.heap.size/\k.hb<w.heap.size/\k.mb<w.heap.size/\∀ q,v.ownBlock=some q->q<w.heap.size):=⟨S.fm.lt,S.am.lt,S.hp.blocks.1,S.hp.blocks.2.1,S.hp.blocks.2.2⟩
 have HKS:Hid (k.sb≠w.heap.size/\k.sb≠w.heap.size+1):=by
  have:k.sb<w.heap.size:=World.block_lt_of_cell? _ _ S.c0
  exact ⟨by omega,by omega⟩
 have HKS2:Hid (k.sb<w.heap.size):=World.block_lt_of_cell? _ _ S.c0
 go_enter Tryz.func134,Tryz.ntmps134
 go_wp2_with fail
 generalize (w.alloc (.cells #[.int .i64 0,.int .i64 0] 53)).alloc (.cells #[.int .i64 0,.int .i64 0] 53)=w1 at *
 refine hpop.mono ?_
 rintro e w2 ⟨n,s,d,b,v2,nh2,rfl,hok,K2,ho2,hcase⟩
 have nZ:¬ sb5 k v w.heap.size:=fun h=>by
  obtain ⟨h1,h2,h3,h4,h5⟩:=HKB.out
  rcases h with h|h|h|h|h
  ·omega
  ·omega
  ·omega
  ·omega
  ·have:=h5 _ h;omega
 have nC:¬ sb5 k v (w.heap.size+1):=fun h=>by
  obtain ⟨h1,h2,h3,h4,h5⟩:=HKB.out
  rcases h with h|h|h|h|h
  ·omega
  ·omega
  ·omega
  ·omega
  ·have:=h5 _ h;omega
 have sl3:=sl1.keep K2 nZ
 have sl4:=sl2.keep K2 nC
 have hz2:w.heap.size+2<=w2.heap.size:=by have:=K2.size;omega
 have b3:Below w2.heap.size w2 (w2.alloc (.cells #[.int .i64 s,.int .i64 d] 53)):=(Below.refl _ _).alloc (Nat.le_refl _) _
 have B2:Below wE.heap.size wE (w2.alloc (.cells #[.int .i64 s,.int .i64 d] 53)):=((hBE.trans (b1.mono hNw)).trans (S1.to_below K2)).trans (b3.mono (by omega))
 have HST:Hid (MR w wE (w2.alloc (.cells #[.int .i64 s,.int .i64 d] 53)) k lb gf cs L lv g src y x (mu x) (.int .i64 0) (.bool false) (.int .i64 n) (.pointer (some ⟨w2.heap.size,0,none⟩)) (.bool b)):=by
  refine ⟨⟨x,⟨0,0,0,false⟩,v2,nh2,w2.heap.size,n,s,d,b,rfl,rfl,rfl,rfl,rfl,by omega,sl3.below b3,sl4.below b3,Slot.new w2 s d,fun q hq=>?_,hM,fun j x' m' h=>⟨j,h⟩,rfl,hok,?_⟩,B2⟩
  ·rw [ho2] at hq
   have:=HKB.out.2.2.2.2 q hq
   omega
  ·rcases hcase with ⟨h1,h2,h3⟩|⟨h1,n',h2,h3,h4,h5⟩
   ·exact Or.inl ⟨h1,h2,h3.below b3⟩
   ·exact Or.inr ⟨h1,n',h2,h3,h4,h5.below b3⟩
 clear hpop K2 sl1 sl2 sl3 sl4 S1 b1 b3 B2 hcase ho2 m5 hok nZ nC
 go_wp2
 go_loopg [7,9,10,11,12] (mu x) (fun gk mid fnd nv cv mv wr=>MR w wE wr k lb gf cs L lv g src y x gk mid fnd nv cv mv)
 case atStart=>exact HST.out
 case round =>
  clear HST
  obtain ⟨⟨xi,⟨mn,ms,md,mf⟩,v3,nh3,cb,n3,s3,d3,b3,rfl,rfl,rfl,rfl,rfl,hcb,slR,slM,slC,hvo,hMI,hcont,hgk,hok3,hcase⟩,hBw⟩:=hrel
  dsimp only at slM
  have HG:Hid (gk=mu xi):=hgk
  have HC:Hid (∀ j x' m',MeetN lv g y.F j xi ⟨mn,ms,md,mf⟩ x' m'->∃ j',MeetN lv g y.F j' x ⟨0,0,0,false⟩ x' m'):=hcont
  have HMI:Hid (MI L lv g src y.F xi ⟨mn,ms,md,mf⟩):=hMI
  have HVO:Hid (∀ q,v3.ownBlock=some q->q≠w.heap.size/\q≠w.heap.size+1/\q≠cb):=hvo
  have HR:Hid (∀ (v':Value) (nh':Nat) (x':SS) (w':World),MeetN lv g y.F 0 xi ⟨mn,ms,md,mf⟩ x' ⟨mn,ms,md,mf⟩->SideAt w' wE.heap.size k lb 0 (.func (.func gf) #[] cs.toArray) v' nh' (ca x'.A) x'->Below wE.heap.size wE w'->∃ (j:Nat) (x':SS) (m':Mt),MeetN lv g y.F j x ⟨0,0,0,false⟩ x' m'/\Ending.returned (.tuple #[.int .i64 mn,.agg #[.int .i64 ms,.int .i64 md],.bool mf])=.returned (.tuple #[.int .i64 m'.n,.agg #[.int .i64 m'.s,.int .i64 m'.d],.bool m'.f])/\(∃ v' nh',SideAt w' wE.heap.size k lb 0 (.func (.func gf) #[] cs.toArray) v' nh' (ca x'.A) x')/\Below wE.heap.size wE w'):=fun v' nh' x' w' h1 h2 h3=>by
   obtain ⟨j,hj⟩:=hcont 0 x' _ h1
   exact ⟨j,x',_,hj,rfl,⟨v',nh',h2⟩,h3⟩
  have HNZ:Hid (¬ sb5 k v3 w.heap.size/\¬ sb5 k v3 (w.heap.size+1)/\¬ sb5 k v3 cb):=by
   obtain ⟨h1,h2,h3,h4,_⟩:=HKB.out
   refine ⟨fun h=>?_,fun h=>?_,fun h=>?_⟩
   ·rcases h with h|h|h|h|h
    ·omega
    ·omega
    ·omega
    ·omega
    ·exact (hvo _ h).1 rfl
   ·rcases h with h|h|h|h|h
    ·omega
    ·omega
    ·omega
    ·omega
    ·exact (hvo _ h).2.1 rfl
   ·rcases h with h|h|h|h|h
    ·omega
    ·omega
    ·omega
    ·omega
    ·exact (hvo _ h).2.2 rfl
  have HOM:Hid (mf=true->okC ms md):=fun h=>by
   obtain ⟨fs,fd,es,ed,_,_,f1,_,_,f4,f5,f6,f7,f8,f9⟩:=hMI.fnd h
   have:=hY.big f1
   dsimp only at f4 f5
   unfold okC
   omega
  clear hgk hcont hMI hvo
  have r0:=slR.c0
  have r1:=slR.c1
  have rz0:=slR.z0
  have rz1:=slR.z1
  have k0:=slM.c0
  have k1:=slM.c1
  have l0:=slC.c0
  have l1:=slC.c1
  rcases hcase with ⟨rfl,hno,S3⟩|⟨rfl,n',rfl,hn',hpr,S3⟩
  ·clear l0 l1
   go_wp2
   have hset:=slR.set ms md
   have q0:((wr.setCell ⟨w.heap.size,0,none⟩ (.int .i64 ms)).setCell ⟨w.heap.size,1,none⟩ (.int .i64 md)).drew.cell? ⟨w.heap.size,0,none⟩=some (.int .i64 ms):=hset.c0
   have q1:((wr.setCell ⟨w.heap.size,0,none⟩ (.int .i64 ms)).setCell ⟨w.heap.size,1,none⟩ (.int .i64 md)).drew.cell? ⟨w.heap.size,1,none⟩=some (.int .i64 md):=hset.c1
   have KR:=set_keep wr w.heap.size ms md
   have hSZ:k.sb≠w.heap.size:=HKS.out.1
   have S5:=(S3.keep KR hSZ (fun q hq e=>HNZ.out.1 (by subst e;exact hq))).below (w':=((wr.setCell ⟨w.heap.size,0,none⟩ (.int .i64 ms)).setCell ⟨w.heap.size,1,none⟩ (.int .i64 md)).drew) ((Below.refl _ _).drew)
   have B5:=(hBw.trans (KR.to_below hBw.size (fun q e=>by subst e;exact hNw))).drew
   have k0':wr.drew.cell? ⟨w.heap.size+1,0,none⟩=some (.int .i64 ms):=k0
   have k1':wr.drew.cell? ⟨w.heap.size+1,1,none⟩=some (.int .i64 md):=k1
   have r0':wr.drew.cell? ⟨w.heap.size,0,none⟩=some (.int .i64 0):=r0
   have r1':wr.drew.cell? ⟨w.heap.size,1,none⟩=some (.int .i64 0):=r1
   have rz0':wr.drew.frozen? ⟨w.heap.size,0,none⟩=false:=rz0
   have rz1':wr.drew.frozen? ⟨w.heap.size,1,none⟩=false:=rz1
   go_region
   go_wp2
   refine bodyPost_ret (v:=.tuple #[.int .i64 mn,.agg #[.int .i64 ms,.int .i64 md],.bool mf]) ?_ rfl (HR.out v3 nh3 xi _ ⟨rfl,Or.inl ⟨hno,rfl⟩⟩ S5 B5)
   simp [results,Tryz.results134,go_sem,q0,q1]
  ·obtain ⟨fs,fd,hF⟩:∃ fs fd,xi.F (n':Int)=some (fs,fd):=by
    obtain ⟨fs,fd,h,_⟩:=HMI.out.si.key hpr.1
    exact ⟨fs,fd,h⟩
   have hbF:=HMI.out.si.big hF
   by_cases hcn:mf=false\/val s3 d3<val ms md
   ·have HCN:Hid (mf=false\/val s3 d3<val ms md):=hcn
    go_upto_region 5 with fail
    go_cut [34] from 25 to 76 (fun bv wc=>bv=.bool true/\Below wr.heap.size wr wc)
    case first =>
     cases mf with
     |false =>
      go_wp2_with fail
      go_meet
      exact ⟨rfl,Below.refl _ _⟩
     |true =>
      have hokM:okC ms md:=HOM.out rfl
      have hlt:=less_v (r:=true) (s:=s3) (d:=d3) (t:=ms) (u:=md) ((ltB_val hok3 hokM).2 (by rcases hcn with h|h;cases h;exact h)) wr hok3 hokM
      go_wp2_with fail
      refine hlt.mono ?_
      rintro e w5 ⟨rfl,hb5⟩
      clear hlt
      go_wp2_with fail
      go_meet
      exact ⟨rfl,hb5⟩
    case rest =>
     obtain ⟨rfl,hbc⟩:=hcut
     have hwn:=wf_small (a:=(n':Int)) (by omega) (by omega)
     have hNr:wE.heap.size<=wr.heap.size:=hBw.size
     have Bc:=hBw.trans (hbc.mono hNr)
     have SEc:=SE.below Bc
     have S5:=S3.below hbc
     have slR5:=slR.below hbc
     have slM5:=slM.below hbc
     have slC5:=slC.below hbc
     have hlE:=SEc.lookF hwn
     have e3:=SEc.c3
     obtain ⟨es,ed,hes⟩:∃ es ed,(y.F (n':Int)).getD (0,0)=(es,ed):=⟨_,_,rfl⟩
     have HES:Hid ((y.F (n':Int)).getD (0,0)=(es,ed)):=hes
     have hbE:0<=es/\es<=2847923/\0<=ed/\ed<=2847923:=by
      cases hq:y.F (n':Int) with
      |none=>rw [hq] at hes;cases hes;omega
      |some c =>
       rw [hq] at hes
       have:=hY.big (s:=es) (d:=ed) (by rw [hq];exact congrArg some hes)
       omega
     rw [hes] at hlE
     generalize hic:(y.F (n':Int)).isSome=ic at *
     have HIC:Hid ((y.F (n':Int)).isSome=ic):=hic
     clear hes hic SEc S3 slR slM slC r0 r1 rz0 rz1 k0 k1 l0 l1 hBw hbc
     have bd:Below wc.heap.size wc (wc.alloc (.cells #[.int .i64 es,.int .i64 ed] 53)):=(Below.refl _ _).alloc (Nat.le_refl _) _
     have slD:=Slot.new wc es ed
     go_upto_region 8 with fail
     clear hlE e3
     have S6:=S5.below bd
     have Bd:=Bc.trans (bd.mono Bc.size)
     have slR6:=slR5.below bd
     have slM6:=slM5.below bd
     have slC6:=slC5.below bd
     generalize wc.heap.size=D at *
     generalize wc.alloc (.cells #[.int .i64 es,.int .i64 ed] 53)=wd at *
     clear S5 Bc slR5 slM5 slC5 bd
     go_cut [15] from 25 to 76 (fun bp wf=>∃ DB,bp=.pointer (some ⟨DB,0,none⟩)/\Slot wf DB (fs+es) (fd+ed)/\wd.heap.size<=DB/\Below wd.heap.size wd wf)
     case first =>
      have dd:Below wd.heap.size wd wd.drew:=(Below.refl _ _).drew
      have S7:=S6.below dd
      have x3:=S7.c3
      have hlF:(Instr.lookup 225 (.map (some k.cb)) (.int .i64 (n':Int)) false).run Tryz.prog wd.drew=.ok (.agg #[.int .i64 fs,.int .i64 fd]) wd.drew:=S7.fm.look_some law3 Tryz.underK (zeroK _) hwn (fv_some hF) false
      have hlF2:(Instr.lookup 225 (.map (some k.cb)) (.int .i64 (n':Int)) false).run Tryz.prog (wd.alloc (.cells #[.int .i64 0,.int .i64 0] 53)).drew=.ok (.agg #[.int .i64 fs,.int .i64 fd]) (wd.alloc (.cells #[.int .i64 0,.int .i64 0] 53)).drew:=((S6.below ((Below.refl _ _).alloc (Nat.le_refl _) (.cells #[.int .i64 0,.int .i64 0] 53))).below ((Below.refl _ _).drew)).fm.look_some law3 Tryz.underK (zeroK _) hwn (fv_some hF) false
      have x0:=(slD.below dd).c0
      have x1:=(slD.below dd).c1
      have CC:Hid (∀ w',Below wd.drew.heap.size wd.drew w'->w'.cell? ⟨k.sb,3,none⟩=some (.map (some k.cb))/\w'.cell? ⟨D,0,none⟩=some (.int .i64 es)/\w'.cell? ⟨D,1,none⟩=some (.int .i64 ed)) :=
       fun w' hb'=>⟨(hb'.cell (World.block_lt_of_cell? _ _ x3)).trans x3,(hb'.cell (World.block_lt_of_cell? _ _ x0)).trans x0,(hb'.cell (World.block_lt_of_cell? _ _ x1)).trans x1⟩
      have HBx:Below wd.drew.heap.size wd.drew wd.drew:=Below.refl _ _
      have hadd:Hid (∀ w10,_):=fun w10=>add_any fs fd es ed w10 (by unfold okC;omega) (by unfold okC;omega)
      have hDw:wd.drew.heap.size=wd.heap.size:=rfl
      clear slD slR6 slM6 slC6 S6 S7
      go_region_held3 (fun w'=>w'.cell? ⟨k.sb,3,none⟩=some (.map (some k.cb))/\w'.cell? ⟨D,0,none⟩=some (.int .i64 es)/\w'.cell? ⟨D,1,none⟩=some (.int .i64 ed))
       (first|(exact CC.out _ HBx)|(exact CC.out _ (HBx.alloc HBx.size _))|(exact CC.out _ ((HBx.setCell (p:=⟨wd.heap.size,0,none⟩) (Nat.le_refl _) _).setCell (p:=⟨wd.heap.size,1,none⟩) (Nat.le_refl _) _))|(exact CC.out _ ((HBx.alloc HBx.size _).setCell HBx.size _))|(exact CC.out _ (((HBx.alloc HBx.size _).setCell HBx.size _).setCell HBx.size _))|(go_keep))
       (first|(go_at_call 177;refine (hadd.out _).mono ?_;rintro e w5 ⟨rfl,hb5⟩;have HBx:Below wd.drew.heap.size wd.drew w5:=(by first|exact hb5|exact (HBx.alloc HBx.size _).trans (hb5.mono (by simp)));obtain ⟨hc5,hf5⟩:=bcell hb5;have hz5:=hb5.size;simp at hz5))
      all_goals
       first
        |(have z0:w5.cell? ⟨wd.heap.size,0,none⟩=some (.int .i64 0):=(hc5 _ _ (by simp)).trans (World.cell?_alloc_at (w:=wd) #[.int .i64 0,.int .i64 0] 53 wd.heap.size 0 rfl)
          have z1:w5.cell? ⟨wd.heap.size,1,none⟩=some (.int .i64 0):=(hc5 _ _ (by simp)).trans (World.cell?_alloc_at (w:=wd) #[.int .i64 0,.int .i64 0] 53 wd.heap.size 1 rfl)
          have z2:w5.frozen? ⟨wd.heap.size,0,none⟩=false:=(hf5 _ _ (by simp)).trans (free_alloc wd #[.int .i64 0,.int .i64 0] 53 wd.heap.size (Nat.le_refl _) 0)
          have z3:w5.frozen? ⟨wd.heap.size,1,none⟩=false:=(hf5 _ _ (by simp)).trans (free_alloc wd #[.int .i64 0,.int .i64 0] 53 wd.heap.size (Nat.le_refl _) 1)
          have Sl:=(Slot.mk z0 z1 z2 z3).set (fs+es) (fd+ed)
          have B6:=(HBx.setCell (p:=⟨wd.heap.size,0,none⟩) (Nat.le_refl _) (.int .i64 (fs+es))).setCell (p:=⟨wd.heap.size,1,none⟩) (Nat.le_refl _) (.int .i64 (fd+ed))
          clear z0 z1 z2 z3
          have hDB:wd.heap.size<=wd.heap.size:=Nat.le_refl _
          generalize (w5.setCell ⟨wd.heap.size,0,none⟩ (.int .i64 (fs+es))).setCell ⟨wd.heap.size,1,none⟩ (.int .i64 (fd+ed))=W6 at *)
        |(have Sl:=Slot.new w5 (fs+es) (fd+ed)
          have B6:=HBx.alloc HBx.size (.cells #[.int .i64 (fs+es),.int .i64 (fd+ed)] 53)
          have hDB:wd.heap.size<=w5.heap.size:=hz5
          generalize w5.alloc (.cells #[.int .i64 (fs+es),.int .i64 (fd+ed)] 53)=W6 at *)
       clear x0 x1 x3 hlF hlF2 CC HBx hb5 hc5 hf5 hz5 hadd
       go_wp2_with fail
       go_meet
       exact ⟨_,rfl,Sl,hDB,dd.trans (B6.mono dd.size)⟩
     case rest =>
      obtain ⟨DB,rfl,slB,hDB,hbf⟩:=hcut
      have S7:=S6.below hbf
      have Bf:=Bd.trans (hbf.mono Bd.size)
      have slR7:=slR6.below hbf
      have slM7:=slM6.below hbf
      have slC7:=slC6.below hbf
      have hZl:w.heap.size+1<wd.heap.size:=World.block_lt_of_cell? _ _ slM6.c0
      have hCl:cb<wd.heap.size:=World.block_lt_of_cell? _ _ slC6.c0
      have HCB:Hid (cB y.F n' fs fd ms md mf=(ic&&(!mf || decide (val (fs+es) (fd+ed)<val ms md)))):=by
       have h:cB y.F n' fs fd ms md mf=(ic&&(!mf || decide (val (fs+es) (fd+ed)<val ms md))):=by
        unfold cB
        rw [HIC.out,HES.out]
       exact h
      have k0:=slM7.c0
      have k1:=slM7.c1
      have a0:=slB.c0
      have a1:=slB.c1
      clear S6 Bd slR6 slM6 slC6 hbf slD
      go_upto_region 9 with fail
      go_cut [70] from 25 to 76 (fun bv wq=>bv=.bool (cB y.F n' fs fd ms md mf)/\Below wc.heap.size wc wq)
      case first =>
       cases ic with
       |false =>
        go_wp2_with fail
        go_meet
        exact ⟨by rw [HCB.out];rfl,Below.refl _ _⟩
       |true =>
        cases mf with
        |false =>
         go_wp2_with fail
         go_meet
         exact ⟨by rw [HCB.out];rfl,Below.refl _ _⟩
        |true =>
         have hokM:okC ms md:=HOM.out rfl
         have hokB:okC (fs+es) (fd+ed):=by unfold okC;omega
         have hlt:=less_v (r:=decide (val (fs+es) (fd+ed)<val ms md)) (s:=fs+es) (d:=fd+ed) (t:=ms) (u:=md) (by
          cases hb:ltB (fs+es) (fd+ed) ms md with
          |true=>exact (decide_eq_true ((ltB_val hokB hokM).1 hb)).symm
          |false=>exact (decide_eq_false (fun h=>by rw [(ltB_val hokB hokM).2 h] at hb;cases hb)).symm) wc hokB hokM
         generalize hdd:decide (val (fs+es) (fd+ed)<val ms md)=dd at *
         have HDD:Hid (cB y.F n' fs fd ms md true=dd):=by
          have h:=HCB.out
          simp only [Bool.true_and,Bool.not_true,Bool.false_or] at h
          exact h
         clear hdd HCB
         go_wp2_with fail
         refine hlt.mono ?_
         rintro e w5 ⟨rfl,hb5⟩
         clear hlt
         go_wp2_with fail
         go_meet
         exact ⟨by rw [HDD.out],hb5⟩
      case rest =>
       obtain ⟨rfl,hbq⟩:=hcut
       clear k0 k1 a0 a1
       have S8:=S7.below hbq
       have Bq:=Bf.trans (hbq.mono Bf.size)
       have slR8:=slR7.below hbq
       have slM8:=slM7.below hbq
       have slC8:=slC7.below hbq
       have slB8:=slB.below hbq
       have k0:=slM8.c0
       have k1:=slM8.c1
       have kz0:=slM8.z0
       have kz1:=slM8.z1
       have a0:=slB8.c0
       have a1:=slB8.c1
       have HMT:Hid (mtS y.F xi n' ⟨mn,ms,md,mf⟩=if cB y.F n' fs fd ms md mf=true then ⟨(n':Int),fs+es,fd+ed,true⟩ else ⟨mn,ms,md,mf⟩):=by
        have h:=mtS_cB (E:=y.F) (mn:=mn) (ms:=ms) (md:=md) (mf:=mf) hF
        rw [HES.out] at h
        exact h
       clear S7 Bf slR7 slM7 slC7 hbq HCB
       go_upto_if 70 with fail
       go_cut [7,9] from 25 to 76 (fun mid fnd wg=>mid=.int .i64 (mtS y.F xi n' ⟨mn,ms,md,mf⟩).n/\fnd=.bool (mtS y.F xi n' ⟨mn,ms,md,mf⟩).f/\Slot wg (w.heap.size+1) (mtS y.F xi n' ⟨mn,ms,md,mf⟩).s (mtS y.F xi n' ⟨mn,ms,md,mf⟩).d/\Keep (fun q=>q=w.heap.size+1) wc wg)
       case first =>
        cases hcb:cB y.F n' fs fd ms md mf with
        |false =>
         have HE:Hid (mtS y.F xi n' ⟨mn,ms,md,mf⟩=⟨mn,ms,md,mf⟩):=by rw [HMT.out,hcb];rfl
         clear HMT hcb
         go_wp2_with fail
         go_meet
         rw [HE.out]
         exact ⟨rfl,rfl,slM8,Keep.refl _ _⟩
        |true =>
         have HE:Hid (mtS y.F xi n' ⟨mn,ms,md,mf⟩=⟨(n':Int),fs+es,fd+ed,true⟩):=by rw [HMT.out,hcb];rfl
         have slN:=slM8.set (fs+es) (fd+ed)
         have KN:=set_keep wc (w.heap.size+1) (fs+es) (fd+ed)
         have k0':wc.drew.cell? ⟨w.heap.size+1,0,none⟩=some (.int .i64 ms):=k0
         have k1':wc.drew.cell? ⟨w.heap.size+1,1,none⟩=some (.int .i64 md):=k1
         have kz0':wc.drew.frozen? ⟨w.heap.size+1,0,none⟩=false:=kz0
         have kz1':wc.drew.frozen? ⟨w.heap.size+1,1,none⟩=false:=kz1
         have a0':wc.drew.cell? ⟨DB,0,none⟩=some (.int .i64 (fs+es)):=a0
         have a1':wc.drew.cell? ⟨DB,1,none⟩=some (.int .i64 (fd+ed)):=a1
         clear HMT hcb
         go_wp2_with fail
         go_region
         go_wp2_with fail
         go_meet
         rw [HE.out]
         exact ⟨rfl,rfl,slN.below ((Below.refl _ _).drew),KN.drew⟩
       case rest =>
        obtain ⟨rfl,rfl,slN,KN⟩:=hcut
        have S9:=S8.keep KN HKS.out.2 (fun q hq e=>HNZ.out.2.1 (by subst e;exact hq))
        have B9:=Bq.trans (KN.to_below Bq.size (fun q e=>by subst e;omega))
        have slR9:=slR8.keep KN (by omega)
        have slC9:=slC8.keep KN (by omega)
        have HMG:Hid (MI L lv g src y.F (goS lv 0 g n' (popS xi (n':Int))) (mtS y.F xi n' ⟨mn,ms,md,mf⟩)):=HMI.out.go O hF
        have HMU:Hid (mu (goS lv 0 g n' (popS xi (n':Int)))<mu xi):=HMI.out.si.mu_go O hpr.1
        have HCO:Hid (∀ j x' m',MeetN lv g y.F j (goS lv 0 g n' (popS xi (n':Int))) (mtS y.F xi n' ⟨mn,ms,md,mf⟩) x' m'->∃ j',MeetN lv g y.F j' x ⟨0,0,0,false⟩ x' m'):=fun j x' m' h=>HC.out (j+1) x' m' ⟨n',s3,d3,hpr,HCN.out,h⟩
        have hgo:=goOn_any w0 wc V0 O hlv (by omega) hg rfl hB0.size (hB0.trans (B9.mono hB0.size)) hgb S9 (HMI.out.si.popped n') hF (delH_at _ _)
        have HZ9:Hid (wE.heap.size<=wc.heap.size/\w.heap.size+1<wc.heap.size/\cb<wc.heap.size):=⟨B9.size,World.block_lt_of_cell? _ _ slN.c0,World.block_lt_of_cell? _ _ slC9.c0⟩
        have HV9:Hid (∀ q,v3.ownBlock=some q->q<wc.heap.size):=S9.hp.blocks.2.2
        have HS9:Hid _:=S9
        clear S8 Bq slR8 slM8 slC8 slB8 slB k0 k1 kz0 kz1 a0 a1 KN HMT HOM HR HMI S9 HC HCN HIC HES
        generalize mtS y.F xi n' ⟨mn,ms,md,mf⟩=mt at *
        generalize goS lv 0 g n' (popS xi (n':Int))=xg at *
        go_wp2_with fail
        refine hgo.mono ?_
        rintro e w9 ⟨rfl,v9,nh9,S10,K10,ho10⟩
        have slR10:=slR9.keep K10 HNZ.out.1
        have slN10:=slN.keep K10 HNZ.out.2.1
        have slC10:=slC9.keep K10 HNZ.out.2.2
        have B10:=B9.trans (HS9.out.to_below K10)
        have hz10:=K10.size
        clear hgo K10 slR9 slN slC9 B9 HS9
        have b10:Below w9.heap.size w9 (w9.alloc (.cells #[.int .i64 s3,.int .i64 d3] 53)):=(Below.refl _ _).alloc (Nat.le_refl _) _
        have S11:=S10.below b10
        have slX:=Slot.new w9 s3 d3
        have hpop:=pop_side _ S11 (fun ha=>HMG.out.si.key256 O ha)
        have c5:=S11.c5
        have l0:=slC10.c0
        have l1:=slC10.c1
        have slR11:=slR10.below b10
        have slN11:=slN10.below b10
        have B11:=B10.trans (b10.mono B10.size)
        have HV10:Hid (∀ q,v9.ownBlock=some q->q<w9.heap.size):=S10.hp.blocks.2.2
        clear S10 slR10 slN10 slC10 B10 b10
        go_wp2_with fail
        clear c5 l0 l1
        have HS11:Hid _:=S11
        clear S11
        generalize w9.alloc (.cells #[.int .i64 s3,.int .i64 d3] 53)=w10 at *
        obtain ⟨cb2,hcb2⟩:∃ cb2,w9.heap.size=cb2:=⟨_,rfl⟩
        rw [hcb2] at slX HV10 hz10 ⊢
        refine hpop.mono ?_
        rintro e w11 ⟨n11,s11,d11,b11,v11,nh11,rfl,hok11,K11,ho11,hcase11⟩
        have HN2:Hid (¬ sb5 k v9 w.heap.size/\¬ sb5 k v9 (w.heap.size+1)/\¬ sb5 k v9 cb2):=by
         obtain ⟨h1,h2,h3,h4,_⟩:=HKB.out
         obtain ⟨z1,z2,z3⟩:=HZ9.out
         have own:∀ q,v9.ownBlock=some q->q≠w.heap.size/\q≠w.heap.size+1/\q≠cb2:=fun q hq=>by
          have q1:=HV10.out q hq
          rcases ho10 q hq with h|h
          ·have q2:=HVO.out q h
           exact ⟨q2.1,q2.2.1,by omega⟩
          ·exact ⟨by omega,by omega,by omega⟩
         refine ⟨fun h=>?_,fun h=>?_,fun h=>?_⟩
         ·rcases h with h|h|h|h|h
          ·omega
          ·omega
          ·omega
          ·omega
          ·exact (own _ h).1 rfl
         ·rcases h with h|h|h|h|h
          ·omega
          ·omega
          ·omega
          ·omega
          ·exact (own _ h).2.1 rfl
         ·rcases h with h|h|h|h|h
          ·omega
          ·omega
          ·omega
          ·omega
          ·exact (own _ h).2.2 rfl
        have slR12:=slR11.keep K11 HN2.out.1
        have slN12:=slN11.keep K11 HN2.out.2.1
        have slX12:=slX.keep K11 HN2.out.2.2
        have B12:=B11.trans (HS11.out.to_below K11)
        have x0:=slX12.c0
        have x1:=slX12.c1
        have xz0:=slX12.z0
        have xz1:=slX12.z1
        clear hpop K11 slR11 slN11 slX B11 HS11
        go_wp2
        go_roundg (mu xg)
        case measure=>have h1:=HG.out;have h2:=HMU.out;omega
        case rel =>
         have KX:=keepTwo w11 cb2 (.int .i64 s11) (.int .i64 d11)
         have hz2:=HZ9.out
         have h5:∀ q,sb5 k v11 q->q≠cb2:=fun q hq e=>by
          subst e
          refine HN2.out.2.2 ?_
          rcases hq with h|h|h|h|h
          ·exact Or.inl h
          ·exact Or.inr (Or.inl h)
          ·exact Or.inr (Or.inr (Or.inl h))
          ·exact Or.inr (Or.inr (Or.inr (Or.inl h)))
          ·exact Or.inr (Or.inr (Or.inr (Or.inr (by rw [<- ho11];exact h))))
         have hsb:k.sb≠cb2:=by
          have:=HKS2.out
          omega
         refine ⟨⟨xg,mt,v11,nh11,cb2,n11,s11,d11,b11,rfl,rfl,rfl,rfl,rfl,by omega,slR12.keep KX (by omega),slN12.keep KX (by omega),slX12.set s11 d11,fun q hq=>?_,HMG.out,HCO.out,rfl,hok11,?_⟩,B12.trans (KX.to_below B12.size (fun q e=>by omega))⟩
         ·rw [ho11] at hq
          refine ⟨fun e=>HN2.out.1 ?_,fun e=>HN2.out.2.1 ?_,fun e=>HN2.out.2.2 ?_⟩
          ·rw [<- e];exact Or.inr (Or.inr (Or.inr (Or.inr hq)))
          ·rw [<- e];exact Or.inr (Or.inr (Or.inr (Or.inr hq)))
          ·rw [<- e];exact Or.inr (Or.inr (Or.inr (Or.inr hq)))
         ·rcases hcase11 with ⟨h1,h2,h3⟩|⟨h1,n'',h2,h3,h4,h6⟩
          ·exact Or.inl ⟨h1,h2,h3.keep KX hsb h5⟩
          ·exact Or.inr ⟨h1,n'',h2,h3,h4,h6.keep KX hsb h5⟩
   ·have hmf:mf=true:=by cases mf;exact absurd (Or.inl rfl) hcn;rfl
    subst hmf
    have hnl:¬ val s3 d3<val ms md:=fun h=>hcn (Or.inr h)
    have hokM:okC ms md:=HOM.out rfl
    have hlt:=less_v (r:=false) (s:=s3) (d:=d3) (t:=ms) (u:=md) (by cases hb:ltB s3 d3 ms md;rfl;exact absurd ((ltB_val hok3 hokM).1 hb) hnl) wr hok3 hokM
    have HNL:Hid (¬ val s3 d3<val ms md):=hnl
    clear hcn hnl
    go_wp2_with fail
    refine hlt.mono ?_
    rintro e w5 ⟨rfl,hb5⟩
    have slR5:=slR.below hb5
    have slM5:=slM.below hb5
    have S5a:=S3.below hb5
    have B5a:=hBw.trans (hb5.mono hBw.size)
    clear hlt r0 r1 rz0 rz1 k0 k1 l0 l1 slR slM slC S3 hBw hb5
    go_wp2
    have r0:=slR5.c0
    have r1:=slR5.c1
    have rz0:=slR5.z0
    have rz1:=slR5.z1
    have k0:=slM5.c0
    have k1:=slM5.c1
    have hset:=slR5.set ms md
    have q0:((w5.setCell ⟨w.heap.size,0,none⟩ (.int .i64 ms)).setCell ⟨w.heap.size,1,none⟩ (.int .i64 md)).drew.cell? ⟨w.heap.size,0,none⟩=some (.int .i64 ms):=hset.c0
    have q1:((w5.setCell ⟨w.heap.size,0,none⟩ (.int .i64 ms)).setCell ⟨w.heap.size,1,none⟩ (.int .i64 md)).drew.cell? ⟨w.heap.size,1,none⟩=some (.int .i64 md):=hset.c1
    have KR:=set_keep w5 w.heap.size ms md
    have hSZ:k.sb≠w.heap.size:=HKS.out.1
    have S5:=(S5a.keep KR hSZ (fun q hq e=>HNZ.out.1 (by subst e;exact hq))).below (w':=((w5.setCell ⟨w.heap.size,0,none⟩ (.int .i64 ms)).setCell ⟨w.heap.size,1,none⟩ (.int .i64 md)).drew) ((Below.refl _ _).drew)
    have B5:=(B5a.trans (KR.to_below B5a.size (fun q e=>by subst e;exact hNw))).drew
    have k0':w5.drew.cell? ⟨w.heap.size+1,0,none⟩=some (.int .i64 ms):=k0
    have k1':w5.drew.cell? ⟨w.heap.size+1,1,none⟩=some (.int .i64 md):=k1
    have r0':w5.drew.cell? ⟨w.heap.size,0,none⟩=some (.int .i64 0):=r0
    have r1':w5.drew.cell? ⟨w.heap.size,1,none⟩=some (.int .i64 0):=r1
    have rz0':w5.drew.frozen? ⟨w.heap.size,0,none⟩=false:=rz0
    have rz1':w5.drew.frozen? ⟨w.heap.size,1,none⟩=false:=rz1
    go_region
    go_wp2
    refine bodyPost_ret (v:=.tuple #[.int .i64 mn,.agg #[.int .i64 ms,.int .i64 md],.bool true]) ?_ rfl (HR.out v3 nh3 (popS xi (n':Int)) _ ⟨rfl,Or.inr ⟨n',s3,d3,hpr,rfl,(show ¬ val s3 d3<val ms md from by have:=HNL.out;omega),rfl⟩⟩ S5 B5)
    simp [results,Tryz.results134,go_sem,q0,q1]
end
section
open Go.RowKit
structure IRow (w:World) (g L:Nat) (f:Nat->Int):Prop where
 at':∀ i,i<L->w.cell? ⟨g,i,none⟩=some (.int .i64 (f i))
 fr:∀ i,i<L->w.frozen? ⟨g,i,none⟩=false
theorem IRow.two {w:World}{g L:Nat}{f:Nat->Int}(h:IRow w g L f){i j:Nat}(hi:i<L)(hj:j<L)(x y:Int) :
  IRow ((w.setCell ⟨g,i,none⟩ (.int .i64 x)).setCell ⟨g,j,none⟩ (.int .i64 y)) g L (fun k=>if k=j then y else if k=i then x else f k):=by
 refine ⟨fun k hk=>?_,fun k hk=>by simpa using h.fr k hk⟩
 by_cases e:k=j
 ·subst e
  rw [if_pos rfl]
  by_cases e2:k=i
  ·subst e2
   exact World.cell?_setCell_same _ _ _ (World.cell?_setCell_same _ _ _ (h.at' k hk))
  ·refine World.cell?_setCell_same _ _ _ (u:=.int .i64 (f k)) ?_
   rw [World.cell?_setCell_other _ _ _ _ (by intro q;cases q;exact e2 rfl)]
   exact h.at' k hk
 ·rw [if_neg e,World.cell?_setCell_other _ _ _ _ (by intro q;cases q;exact e rfl)]
  by_cases e2:k=i
  ·subst e2
   rw [if_pos rfl]
   exact World.cell?_setCell_same _ _ _ (h.at' k hk)
  ·rw [if_neg e2,World.cell?_setCell_other _ _ _ _ (by intro q;cases q;exact e2 rfl)]
   exact h.at' k hk
def Shape (w:World) (g cap:Nat):Prop:=∃ cur:Array Value,w.heap[g]? = some (.cells cur 3 (0,0))/\cur.size=cap
theorem Shape.set {w:World}{g cap i:Nat}{v:Value}(h:Shape w g cap):Shape (w.setCell ⟨g,i,none⟩ v) g cap:=by
 obtain ⟨cur,h1,h2⟩:=h
 exact ⟨cur.setIfInBounds i v,by simp [World.setCell,Array.getElem?_modify,h1],by simpa using h2⟩
def turn (L:Nat) (f:Nat->Int) (i:Nat):Nat->Int:=fun k=>if k<i\/L - 1 - i<k then f (L - 1 - k) else f k
set_option maxHeartbeats 2000000 in
set_option maxRecDepth 1000000 in
theorem rev_any {g L cap C:Nat}{f:Nat->Int}(w:World)(h:IRow w g L f)(hsh:Shape w g C)(h0:0<L)(hL:L<=1000) :
  Calls Tryz.prog 181 #[.slice (some ⟨g,0,none⟩) L cap] w fun e w'=>e=.returned (.tuple #[])/\(∀ i,i<L->w'.cell? ⟨g,i,none⟩=some (.int .i64 (f (L - 1 - i))))/\Shape w' g C/\Keep (fun k=>k=g) w w':=by
 have hst:IRow w g L (turn L f 0):=by
  refine ⟨fun i hi=>?_,h.fr⟩
  rw [h.at' i hi]
  unfold turn
  rw [if_neg (by omega)]
 go_enter Tryz.func181,Tryz.ntmps181
 go_wp2
 go_loopg [2,3] L (fun gk iv jv wr=>∃ i:Nat,2*i<=L+1/\gk=L - i/\iv=.int .i64 i/\jv=.int .i64 ((L:Int) - 1 - i)/\IRow wr g L (turn L f i)/\Shape wr g C/\Keep (fun k=>k=g) w wr)
 case atStart=>exact ⟨0,by omega,rfl,rfl,by go_num,hst,hsh,Keep.refl _ _⟩
 case round =>
  clear hst
  obtain ⟨i,hi,hgk,rfl,rfl,R,SH,K⟩:=hrel
  have HSH:Hid (Shape wr g C):=SH
  clear SH
  have HG:Hid (gk=L - i):=hgk
  clear hgk
  by_cases hlt:(i:Int)<(L:Int) - 1 - i
  ·obtain ⟨j,hj⟩:∃ j:Nat,(L:Int) - 1 - i=j:=⟨((L:Int) - 1 - i).toNat,by omega⟩
   rw [hj] at hlt ⊢
   have hiL:i<L:=by omega
   have hjL:j<L:=by omega
   have ci:=R.at' i hiL
   have cj:=R.at' j hjL
   have fi:=R.fr i hiL
   have fj:=R.fr j hjL
   have b1:(i:Int)<(L:Int):=by omega
   have b2:(j:Int)<(L:Int):=by omega
   have b3:(0:Int)<=(i:Int):=by omega
   have b4:(0:Int)<=(j:Int):=by omega
   have hne:¬ i=j:=by omega
   have hR:=R.two hiL hjL (turn L f i j) (turn L f i i)
   have hR2:IRow ((wr.setCell ⟨g,i,none⟩ (.int .i64 (turn L f i j))).setCell ⟨g,j,none⟩ (.int .i64 (turn L f i i))) g L (turn L f (i+1)):=by
    refine ⟨fun k hk=>?_,hR.fr⟩
    rw [hR.at' k hk]
    congr 2
    unfold turn
    by_cases e1:k=j
    ·subst e1
     rw [if_pos rfl,if_neg (by omega),if_pos (by omega)]
     congr 1;omega
    ·rw [if_neg e1]
     by_cases e2:k=i
     ·subst e2
      rw [if_pos rfl,if_neg (by omega),if_pos (by omega)]
      congr 1;omega
     ·rw [if_neg e2]
      by_cases e3:k<i\/L - 1 - i<k
      ·rw [if_pos e3,if_pos (by omega)]
      ·rw [if_neg e3,if_neg (by omega)]
   have hK2:Keep (fun k=>k=g) w ((wr.setCell ⟨g,i,none⟩ (.int .i64 (turn L f i j))).setCell ⟨g,j,none⟩ (.int .i64 (turn L f i i))):=(K.setCell (p:=⟨g,i,none⟩) (fun _=>rfl) _).setCell (p:=⟨g,j,none⟩) (fun _=>rfl) _
   clear hR R K
   generalize turn L f i i=vi at *
   generalize turn L f i j=vj at *
   go_wp2
   go_region
   have hR3:IRow ((wr.setCell ⟨g,i,none⟩ (.int .i64 vj)).setCell ⟨g,j,none⟩ (.int .i64 vi)).drew g L (turn L f (i+1)):=⟨hR2.at',hR2.fr⟩
   have hK3:=hK2.drew
   have HS3:Hid (Shape ((wr.setCell ⟨g,i,none⟩ (.int .i64 vj)).setCell ⟨g,j,none⟩ (.int .i64 vi)).drew g C):=(HSH.out.set (i:=i) (v:=.int .i64 vj)).set (i:=j) (v:=.int .i64 vi)
   clear hR2 hK2 ci cj fi fj
   go_wp2
   go_roundg (L - (i+1))
   case measure=>have:=HG.out;omega
   case rel =>
    refine ⟨i+1,by omega,rfl,by go_num,?_,hR3,HS3.out,hK3⟩
    have e:(j:Int) - 1=(L:Int) - 1 - ((i+1:Nat):Int):=by omega
    rw [<- e]
  ·have hcells:∀ k,k<L->wr.cell? ⟨g,k,none⟩=some (.int .i64 (f (L - 1 - k))):=fun k hk=>by
    rw [R.at' k hk]
    congr 2
    unfold turn
    by_cases e:k<i\/L - 1 - i<k
    ·rw [if_pos e]
    ·rw [if_neg e];congr 1;omega
   go_wp2
   go_end0
   exact ⟨rfl,hcells,HSH.out,K⟩
theorem row_cells {w:World}{base g cap:Nat}{l:List Nat}(hb:base<=g)(h1:l.length<=cap)(h2:cap<=maxLen)(hs:Shape w g cap)(hc:∀ i,i<l.length->w.cell? ⟨g,i,none⟩=some (.int .i64 ((l.getD i 0:Nat):Int))):w.ownsRow base 3 1 (.slice (some ⟨g,0,none⟩) l.length cap) l.length (vals l):=by
 obtain ⟨cur,c1,c2⟩:=hs
 refine ⟨by simp [vals],Or.inr ⟨g,cap,cur,rfl,hb,c1,h1,h2,by omega,?_⟩⟩
 refine List.ext_getElem? fun i=>?_
 rw [Nat.mul_one]
 by_cases hi:i<l.length
 ·have hci:=hc i hi
  have e1:cur[i]? = some (.int .i64 ((l.getD i 0:Nat):Int)):=by
   have h3:w.cell? ⟨g,i,none⟩=cur[i]? := by simp [World.cell?,c1]
   rw [<- h3];exact hci
  rw [List.getElem?_take_of_lt hi,Array.getElem?_toList,e1]
  simp [vals,hi]
 ·rw [List.getElem?_eq_none (by rw [List.length_take];omega),List.getElem?_eq_none (by simp [vals];omega)]
theorem rev_row {base g cap:Nat}{l:List Nat}(w:World)(h:w.ownsRow base 3 1 (.slice (some ⟨g,0,none⟩) l.length cap) l.length (vals l))(h0:0<l.length)(hl:l.length<=1000) :
  Calls Tryz.prog 181 #[.slice (some ⟨g,0,none⟩) l.length cap] w fun e w'=>e=.returned (.tuple #[])/\w'.ownsRow base 3 1 (.slice (some ⟨g,0,none⟩) l.length cap) l.reverse.length (vals l.reverse)/\Keep (fun k=>k=g) w w':=by
 rcases h.2 with ⟨_,q⟩|⟨g',cap',cur,hv,hb,hg,h1,h2,h3,_⟩
 ·omega
 ·cases hv
  have hsh:Shape w g cap:=⟨cur,hg,by omega⟩
  have IR:IRow w g l.length (fun i=>((l.getD i 0:Nat):Int)):=⟨fun i hi=>own_int h i hi,fun i _=>h.frozenAt i⟩
  refine (rev_any (cap:=cap) w IR hsh h0 hl).mono fun e w' ⟨e1,e2,e3,e4⟩=>⟨e1,?_,e4⟩
  have:=row_cells (l:=l.reverse) (base:=base) hb (by rw [List.length_reverse];exact h1) h2 e3 (fun i hi=>by
   rw [List.length_reverse] at hi
   rw [e2 i hi]
   congr 3
   rw [List.getD_eq_getElem?_getD,List.getD_eq_getElem?_getD,List.getElem?_reverse hi])
  rw [List.length_reverse] at this ⊢
  exact this
end
section
open Go.RowKit Go.Lib
set_option maxHeartbeats 4000000 in
set_option maxRecDepth 1000000 in
theorem join_any {N Ne lb n nh ne:Nat}{k ke:SBk}{L:List Nat}{lv:LSt}{gv gv2 v ve:Value}{g g2:Int->Int × Int}{src src2:Int->Int->Int->Prop}{P P2:Int->Int->Prop}{x y:SS}{s d s2 d2:Int}(w:World)(O:LvOk L lv)(S:SideAt w N k lb 0 gv v nh (ca x.A) x)(SE:SideAt w Ne ke lb 1 gv2 ve ne (ca y.A) y)(hX:SI L lv 0 g src P x)(hY:SI L lv 1 g2 src2 P2 y)(hn:x.F (n:Int)=some (s,d))(hn2:y.F (n:Int)=some (s2,d2)) :
  Calls Tryz.prog 136 #[.pointer (some ⟨k.sb,0,none⟩),.pointer (some ⟨ke.sb,0,none⟩),.int .i64 (n:Int)] w fun e w'=>∃ v t t2,e=.returned v/\Bk x.A (n::t)/\Bk y.A (n::t2)/\w'.ownsRow w.heap.size 3 1 v ((n::t).reverse++t2).length (vals ((n::t).reverse++t2))/\(n::t).length<=256/\(n::t2).length<=256/\Below w.heap.size w w':=by
 obtain ⟨i0,hi,hz0,hz1,hz2⟩:=info_parts Tryz.info3
 have hb1:=back_any w O S hX hn
 go_enter Tryz.func136,Tryz.ntmps136
 go_wp2_with fail
 refine hb1.mono ?_
 rintro e w1 ⟨v1,t,rfl,hbk,own1,hl1,B1⟩
 obtain ⟨g1,cap1,rfl,_,hg1,hg1',hc1,hc1'⟩:=rowN_of own1 (by simp)
 have hrv:=rev_row w1 own1 (by simp) (by omega)
 have HB1:Hid (Bk x.A (n::t)):=hbk
 clear hb1 hbk own1
 go_wp2_with fail
 refine hrv.mono ?_
 rintro e w2 ⟨rfl,own2,K2⟩
 have B2:Below w.heap.size w w2:=B1.trans (K2.to_below B1.size (fun q e=>by subst e;exact hg1))
 clear hrv K2
 have hb3:=back_any w2 O (SE.below B2) hY hn2
 go_wp2_with fail
 refine hb3.mono ?_
 rintro e w3 ⟨v3,t2,rfl,hbk2,own3,hl3,B3⟩
 obtain ⟨g3,cap3,rfl,row3,hg3,hg3',hc3,hc3'⟩:=rowN_of own3 (by simp)
 have HB2:Hid (Bk y.A (n::t2)):=hbk2
 have own4:=own_below own2 B3
 have B4:=B2.trans (B3.mono B2.size)
 have row4:=row3.tail
 have z4:=B4.size
 have HL:Hid ((n::t).reverse.length=t.length+1):=List.length_reverse
 rw [HL.out] at own4
 simp only [List.length_cons] at hl1 hl3 hc1 hc3 own4
 simp only [List.tail_cons,Nat.zero_add] at row4
 have HV:Hid (vals ((n::t).reverse++t2)=vals (n::t).reverse++vals t2):=vals_app _ _
 clear hb3 hbk2 own3 own2 row3 S SE B1 B3 B2
 rcases Nat.eq_zero_or_pos t2.length with h0|h0
 ·have e0:t2=[]:=List.length_eq_zero_iff.1 h0
  subst e0
  simp only [List.length_nil,Nat.zero_add] at hc3
  rcases Decidable.em (cap3=1) with hc|hc
  ·subst hc
   go_wp2
   go_ret
   exact ⟨_,t,[],rfl,HB1.out,HB2.out,by rw [List.append_nil,HL.out];exact own4,by omega,by simp,B4⟩
  ·have hc2:1<cap3:=by omega
   go_wp2
   go_ret
   exact ⟨_,t,[],rfl,HB1.out,HB2.out,by rw [List.append_nil,HL.out];exact own4,by omega,by simp,B4⟩
 ·go_wp2_with (at_builtin;refine wpList_append_own _ rfl _ _ 51 rfl w.heap.size 3 i0 (.int .i64 0) 1 8 Tryz.underlying51 hi hz0 hz1 hz2 rfl (by decide) _ _ _ rfl own4 ⟨g3,1,none⟩ t2.length (cap3 - 1) (vals t2) rfl ?c0 row4 (vals_one _) ?c3 ?c4 ?c5 ?_)
  case c0=>rw [vals_len];omega
  case c3=>unfold maxLen;omega
  case c4=>omega
  case c5=>exact z4
  intro v' w6 hown' hgrow _
  have B6:Below w.heap.size w w6:=B4.grown hgrow z4 (fun q hq=>(own4.lt q hq).1)
  have O6:w6.ownsRow w.heap.size 3 1 v' ((n::t).reverse++t2).length (vals ((n::t).reverse++t2)):=by
   rw [HV.out,List.length_append,HL.out]
   have e1:vals (n::t).reverse++vals t2=(List.map (fun d:Nat=>Value.int IntKind.i64 (d:Int)) t).reverse++Value.int IntKind.i64 (n:Int)::vals t2:=by simp [vals]
   rw [e1]
   exact hown'
  clear hown' hgrow own4
  go_wp2
  go_ret
  exact ⟨_,t,t2,rfl,HB1.out,HB2.out,O6,by omega,by omega,B6⟩
end
section
open Go.RowKit Go.Lib
theorem vals_at {l:List Nat}{i a:Nat}(h:l[i]? = some a):(vals l)[i]? = some (.int .i64 (a:Int)):=by
 unfold vals
 rw [List.getElem?_map,h]
 rfl
structure UnpI (es:Nat->List LE) (l:List Nat) (i:Nat) (way:List Nat):Prop where
 cont:∀ (a:Nat) (t:List Nat),l[i]? = some a->UnpL es (l.drop i) (a::t)->UnpL es l (way++t)
theorem UnpI.start {es:Nat->List LE}{a:Nat}{l:List Nat}:UnpI es (a::l) 0 [a] :=
 ⟨fun b t hb h=>by
  have e:a=b:=by simpa using hb
  subst e
  exact h⟩
theorem UnpI.step {es:Nat->List LE}{l:List Nat}{i:Nat}{way:List Nat}{a b:Nat}{pt:List Nat}(h:UnpI es l i way)(ha:l[i]? = some a)(hb:l[i+1]? = some b)(hu:Unp es 6 a b (a::pt)):UnpI es l (i+1) (way++pt) :=
 ⟨fun c t hc ht=>by
  have e:b=c:=by rw [hb] at hc;exact Option.some.inj hc
  subst e
  have h1:l.drop i=a::b::l.drop (i+2):=by
   rw [List.drop_eq_getElem?_toList_append,ha,List.drop_eq_getElem?_toList_append,hb]
   rfl
  have h2:l.drop (i+1)=b::l.drop (i+2):=by
   rw [List.drop_eq_getElem?_toList_append,hb]
   rfl
  rw [h2] at ht
  have:=h.cont a (pt++t) ha (by
   rw [h1]
   exact ⟨a::pt,t,hu,ht,rfl⟩)
  rw [List.append_assoc]
  exact this⟩
theorem UnpI.done {es:Nat->List LE}{l:List Nat}{i:Nat}{way:List Nat}(h:UnpI es l i way)(hi:i+1=l.length):UnpL es l way:=by
 have hx:l[i]? = some (l[i]'(by omega)):=List.getElem?_eq_getElem (by omega)
 have:=h.cont _ [] hx (by
  rw [List.drop_eq_getElem?_toList_append,hx,List.drop_eq_nil_of_le (by omega)]
  rfl)
 rw [List.append_nil] at this
 exact this
theorem Prc.edge {es:Nat->List LE}:∀ {l:List Nat}{i a b:Nat}{p q:Int},Prc es l p q->l[i]? = some a->l[i+1]? = some b->∃ e ∈ es a,e.to=b
 |[],_,_,_,_,_,h,_,_=>h.elim
 |[_],_,_,_,_,_,_,_,hb=>by simp at hb
 |x::y::l,0,a,b,_,_,⟨e,he,ht,_⟩,ha,hb=>by
  have e1:x=a:=by simpa using ha
  have e2:y=b:=by simpa using hb
  subst e1 e2
  exact ⟨e,he,ht⟩
 |x::y::l,i+1,a,b,_,_,⟨_,_,_,h⟩,ha,hb=>Prc.edge (i:=i) h (by simpa using ha) (by simpa using hb)
set_option maxHeartbeats 4000000 in
set_option maxRecDepth 1000000 in
theorem sunpack_any {N0 lb vb eb top cap gl:Nat}{L:List Nat}{lv:LSt}{f:Int->Option Value}{es0:Nat->List LE}{l:List Nat}{p q:Int}(w:World)(V:LvAt w N0 lb vb eb top L lv f)(O:LvOk L lv)
  (hU:∀ {a e},e ∈ lv.es a->∃ way l,Unp lv.es 6 a e.to way/\way=a::l/\l≠[]/\way.getLast? = some e.to/\Prc es0 way e.s e.d) (hrow:RowN w gl 0 l) (h0:0<l.length) (hl:l.length<=600) (hcap:l.length<=cap) (hcap2:cap<=9223372036854775807) (hP:Prc lv.es l p q) :
  Calls Tryz.prog 135 #[.pointer (some ⟨lb,0,none⟩),.slice (some ⟨gl,0,none⟩) l.length cap] w fun e w'=>∃ v way,e=.returned v/\UnpL lv.es l way/\w'.ownsRow w.heap.size 3 1 v way.length (vals way)/\way.length<=40000/\Below w.heap.size w w':=by
 obtain ⟨i0,hi,hz0,hz1,hz2⟩:=info_parts Tryz.info3
 obtain ⟨a0,l',rfl⟩:∃ a l',l=a::l':=by
  cases l with
  |nil=>simp at h0
  |cons a l'=>exact ⟨a,l',rfl⟩
 have c0:w.cell? ⟨gl,0,none⟩=some (.int .i64 (a0:Int)):=hrow 0 _ rfl
 have b1:Below w.heap.size w (w.alloc (.cells #[.int .i64 (a0:Int)] 3)):=(Below.refl _ _).alloc (Nat.le_refl _) _
 have own1:=rowOne w a0
 have HI1:Hid (UnpI lv.es (a0::l') 0 [a0]):=UnpI.start
 have hes:∀ a,(lv.es a).length<=256:=fun a=>by
  have h1:((lv.es a).map (·.to)).Nodup:=by
   unfold List.Nodup
   rw [List.pairwise_map]
   exact (O.esy.ord a).imp (fun h=>Nat.ne_of_lt h)
  have:=nodup_len 256 h1 (fun m hm=>by
   obtain ⟨e,he,rfl⟩:=List.mem_map.1 hm
   exact O.small _ (O.ends he).2)
  simpa using this
 have HES:Hid (∀ a,(lv.es a).length<=256):=hes
 have HU:Hid (∀ {a e},e ∈ lv.es a->∃ way l,Unp lv.es 6 a e.to way/\way=a::l/\l≠[]/\way.getLast? = some e.to/\Prc es0 way e.s e.d):=hU
 have HP:Hid (Prc lv.es (a0::l') p q):=hP
 have HR:Hid (RowN w gl 0 (a0::l')):=hrow
 simp only [List.length_cons] at hl hcap
 clear hes hU hP hrow h0
 rcases Decidable.em (cap=1) with hc1|hc1
 ·have e0:l'=[]:=List.length_eq_zero_iff.1 (by omega)
  subst e0
  subst hc1
  have HD:Hid (UnpL lv.es [a0] [a0]):=rfl
  go_enter Tryz.func135,Tryz.ntmps135
  go_wp2_with fail
  go_loopw [5,17] (fun wv iv wr=>wv=.slice (some ⟨w.heap.size,0,none⟩) 1 1/\iv=.int .i64 0/\wr=w.alloc (.cells #[.int .i64 (a0:Int)] 3)) (fun _ _ _=>0)
  case atStart=>exact ⟨rfl,rfl,rfl⟩
  case round =>
   obtain ⟨rfl,rfl,rfl⟩:=hrel
   go_wp2
   go_ret
   exact ⟨_,[a0],rfl,HD.out,own1,by simp,b1⟩
 ·go_enter Tryz.func135,Tryz.ntmps135
  go_wp2_with fail
  go_loopw [5,17] (fun wv iv wr=>∃ (i:Nat) (way:List Nat),i<=l'.length/\iv=.int .i64 i/\Hid (UnpI lv.es (a0::l') i way)/\wr.ownsRow w.heap.size 3 1 wv way.length (vals way)/\way.length<=1+64*i/\0<way.length/\Below w.heap.size w wr)
   (fun _ i _=>l'.length - (intOf i).toNat)
  case atStart=>exact ⟨0,[a0],Nat.zero_le _,rfl,HI1,own1,by simp,by simp,b1⟩
  case round =>
   clear own1 HI1 b1 c0
   obtain ⟨i,way,hi2,rfl,HI,own,hwl,hw0,hB⟩:=hrel
   by_cases hlt:i<l'.length
   ·obtain ⟨a,ha⟩:∃ a,(a0::l')[i]? = some a:=⟨(a0::l')[i]'(by simp;omega),List.getElem?_eq_getElem _⟩
    obtain ⟨b,hb⟩:∃ b,(a0::l')[i+1]? = some b:=⟨(a0::l')[i+1]'(by simp;omega),List.getElem?_eq_getElem _⟩
    obtain ⟨e,he,het⟩:=HP.out.edge ha hb
    obtain ⟨part,pt,u1,u2,u3,_,_⟩:=HU.out he
    rw [het] at u1
    have hu:=unpack_yes O.esy.ord O.ends HES.out O.small 6 a b part wr (by omega) u1 (V.below hB)
    have hpl:=u1.two
    subst u2
    have HI':Hid (UnpI lv.es (a0::l') (i+1) (way++pt)):=HI.out.step ha hb u1
    have ca:wr.cell? ⟨gl,i,none⟩=some (.int .i64 (a:Int)):=by
     have h:=(HR.out.below hB) i (.int .i64 (a:Int)) (vals_at ha)
     rw [Addr.add_lit,Nat.zero_add] at h
     exact h
    have cb:wr.cell? ⟨gl,1+i,none⟩=some (.int .i64 (b:Int)):=by
     have h:=(HR.out.below hB) (i+1) (.int .i64 (b:Int)) (vals_at hb)
     rw [Addr.add_lit,Nat.zero_add] at h
     rw [Nat.add_comm 1 i]
     exact h
    have i1:(0:Int)<=(i:Int):=by omega
    have i2:(i:Int)<(l'.length:Int):=by omega
    have i3:(i:Int)<(l'.length:Int)+1:=by omega
    clear he het u1 u3 ha hb HI
    go_wp2_with fail
    refine hu.mono ?_
    rintro r w5 ⟨v5,rfl,own5,hb5⟩
    obtain ⟨g5,cap5,rfl,rn5,h51,h52,h53,h54⟩:=rowN_of own5 (by simp)
    have own6:=own_below own hb5
    have B5:=hB.trans (hb5.mono hB.size)
    have row5:=rn5.tail
    have z5:=B5.size
    have hp64:(2:Nat) ^ 6=64:=rfl
    simp only [List.length_cons] at hpl h53
    simp only [List.tail_cons,Nat.zero_add] at row5
    have hc5:¬ cap5=1:=by omega
    clear hu own5 own hb5 hB ca cb rn5
    go_wp2_with (at_builtin;refine wpList_append_own _ rfl _ _ 51 rfl w.heap.size 3 i0 (.int .i64 0) 1 8 Tryz.underlying51 hi hz0 hz1 hz2 rfl (by decide) _ _ _ rfl own6 ⟨g5,1,none⟩ pt.length (cap5 - 1) (vals pt) rfl ?c0 row5 (vals_one _) ?c3 ?c4 ?c5 ?_)
    case c0=>rw [vals_len];omega
    case c3=>unfold maxLen;omega
    case c4=>omega
    case c5=>exact z5
    intro v' w6 hown' hgrow _
    have B6:Below w.heap.size w w6:=B5.grown hgrow z5 (fun q hq=>(own6.lt q hq).1)
    have O6:w6.ownsRow w.heap.size 3 1 v' (way++pt).length (vals (way++pt)):=by
     rw [vals_app,List.length_append]
     exact hown'
    clear hown' hgrow own6 row5
    go_wp2
    go_roundw
    case rel=>exact ⟨i+1,way++pt,by omega,by go_num,HI',O6,by rw [List.length_append];omega,by rw [List.length_append];omega,B6⟩
    case measure=>simp [intOf];omega
   ·have e:i=l'.length:=by omega
    subst e
    have HD:Hid (UnpL lv.es (a0::l') way):=HI.out.done (by simp)
    go_wp2
    go_ret
    exact ⟨_,way,rfl,HD.out,own,by omega,hB⟩
end
end Go.Proofs.YtmaefimaeelkbaaGreatDoor
