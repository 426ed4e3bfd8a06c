/-
  Texts laid together: Labs, Nv7, Nv8, AddM, AddP, Nv9.
-/
import Derived.Test.YtmaefimaeelkbaaGreatDoorP10
import Derived.Test.YtmaefimaeelkbaaGreatDoorP7
import Derived.Test.YtmaefimaeelkbaaGreatDoorP27
import Derived.Test.YtmaefimaeelkbaaGreatDoorP18
import Derived.Test.YtmaefimaeelkbaaGreatDoorP19
import Derived.Deep.CutRange
namespace Go.Proofs.YtmaefimaeelkbaaGreatDoor
section
open Go.RowKit
end
section
open Go.RowKit Go.Lib
theorem oldRow_of {w:World}{base:Nat}{v:Value}{l:List Nat}(h:w.ownsRow base 3 1 v l.length (vals l)):∃ A cap,v=.slice A l.length cap/\OldRow w A l.length (fun i=>((l.getD i 0:Nat):Int))/\(l=[]->True):=by
 rcases Nat.eq_zero_or_pos l.length with h0|h0
 ·have e:l=[]:=List.length_eq_zero_iff.1 h0
  subst e
  rcases h.2 with ⟨rfl,_⟩|⟨g,cap,_,rfl,_⟩
  ·exact ⟨none,0,rfl,fun i hi=>absurd hi (Nat.not_lt_zero i),fun _=>trivial⟩
  ·exact ⟨_,cap,rfl,fun i hi=>absurd hi (Nat.not_lt_zero i),fun _=>trivial⟩
 ·obtain ⟨g,cap,rfl,hr,_,hg,_⟩:=rowN_of h h0
  refine ⟨_,cap,rfl,fun i hi=>⟨g,0,rfl,hg,?_⟩,fun _=>trivial⟩
  have e:l[i]? = some (l.getD i 0):=by
   rw [List.getD_eq_getElem?_getD,List.getElem?_eq_getElem hi];rfl
  have:=hr i _ (vals_at e)
  rwa [Addr.add_lit] at this
end
section
open Go.RowKit Go.Lib
theorem ask_rt {lo hi sb most:Nat}{W H V:Int}{bl:Nat->Bool}(a t:Int)(w:World)(S:Sv w lo hi sb W H V bl most)(d:DiagAt w) :
  Calls Tryz.prog 16 #[.pointer (some ⟨sb,0,none⟩),.int .i64 a,.int .i64 t] w fun e w'=>∃ A cap way s d err,e=.returned (.agg #[.slice A way.length cap,.int .i64 s,.int .i64 d,.int .i64 err])/\w'.ownsRow w.heap.size 3 1 (.slice A way.length cap) way.length (vals way)/\OldRow w' A way.length (fun i=>((way.getD i 0:Nat):Int))/\AnsR W H bl most a t way s d err/\Rt W H bl a t way s d err/\Below w.heap.size w w':=by
 obtain ⟨w1,w2,h1,h2⟩:=S.side
 obtain ⟨m1,m6⟩:=S.mst
 refine (ask_any a t w S d).mono ?_
 rintro e w' ⟨v,way,s,dd,err,rfl,ho,hA,hb⟩
 obtain ⟨A,cap,rfl,hold,_⟩:=oldRow_of ho
 exact ⟨A,cap,way,s,dd,err,rfl,ho,hold,hA,hA.right w w1 w2 h1 h2 m1 m6,hb⟩
end
section
def sumB (h:Nat->Nat) (S:Int->Bool):Nat->Nat
 |0=>0
 |N+1=>sumB h S N+if S (N:Int) then h N else 0
theorem sumB_same (h:Nat->Nat)(S:Int->Bool)(a:Int)(N:Nat)(hN:(N:Int)<=a):sumB h (insS S a) N=sumB h S N:=by
 induction N with
 |zero=>rfl
 |succ N ih =>
  have e:insS S a (N:Int)=S (N:Int):=by
   unfold insS
   rw [decide_eq_false (by omega),Bool.false_or]
  show sumB h (insS S a) N+(if insS S a (N:Int) then h N else 0)=_
  rw [e,ih (by omega)]
  rfl
theorem sumB_put (h:Nat->Nat)(S:Int->Bool)(a:Nat)(N:Nat)(hl:a<N)(hn:S (a:Int)=false):sumB h (insS S (a:Int)) N=sumB h S N+h a:=by
 induction N with
 |zero=>omega
 |succ N ih =>
  show sumB h (insS S (a:Int)) N+(if insS S (a:Int) (N:Int) then h N else 0)=sumB h S N+(if S (N:Int) then h N else 0)+h a
  by_cases e:a=N
  ·subst e
   have e1:insS S (a:Int) (a:Int)=true:=by unfold insS;rw [decide_eq_true rfl,Bool.true_or]
   rw [sumB_same h S (a:Int) a (Int.le_refl _),e1,hn]
   simp
  ·have e1:insS S (a:Int) (N:Int)=S (N:Int):=by
    unfold insS
    rw [decide_eq_false (by omega),Bool.false_or]
   rw [ih (by omega),e1]
   omega
theorem sumB_none (h:Nat->Nat)(N:Nat):sumB h (fun _=>false) N=0:=by
 induction N with
 |zero=>rfl
 |succ N ih =>
  show sumB h (fun _=>false) N+(if false then h N else 0)=0
  rw [ih];rfl
theorem sumB_le (h:Nat->Nat)(S:Int->Bool)(K:Nat)(hK:∀ n,h n<=K)(N:Nat):sumB h S N<=N*K:=by
 induction N with
 |zero=>exact Nat.zero_le _
 |succ N ih =>
  show sumB h S N+(if S (N:Int) then h N else 0)<=(N+1)*K
  rw [Nat.succ_mul]
  have h2:=hK N
  split <;> omega
def addA (es:Nat->List LE) (n:Nat):Nat:=((es n).filter (fun e=>decide (0<=e.mid))).length
end
section
open Go.RowKit Go.Maps
theorem sum_next {h:Nat->Nat}{L:List Nat}{left:Int->Bool}{n:Nat}(hn:n<256)(hnL:n ∈ L)(hl:left (n:Int)=true) :
  sumB h (fun z=>memS L z&&!(left z&&!decide (z=(n:Int)))) 256=sumB h (fun z=>memS L z&&!left z) 256+h n:=by
 have e:(fun z=>memS L z&&!(left z&&!decide (z=(n:Int))))=insS (fun z=>memS L z&&!left z) (n:Int):=by
  funext z
  unfold insS
  by_cases q:z=(n:Int)
  ·subst q
   rw [memS_at.2 hnL,decide_eq_true rfl]
   simp
  ·rw [decide_eq_false q]
   simp
 rw [e,sumB_put h _ n 256 hn (by rw [hl];simp)]
set_option maxHeartbeats 4000000 in
set_option maxRecDepth 1000000 in
theorem added_any {N lb vb eb top:Nat}{L:List Nat}{st:LSt}{f:Int->Option Value}(w:World)(V:LvAt w N lb vb eb top L st f)(hel:∀ n,(st.es n).length<=256) :
  Calls Tryz.prog 56 #[.pointer (some ⟨lb,0,none⟩)] w fun e w'=>e=.returned (.int .i64 ((sumB (addA st.es) (memS L) 256:Nat) / 2:Int))/\Below w.heap.size w w':=by
 have c2:=V.c2
 have hel2:=V.lts.2.2
 have em:=V.em
 have HV:Hid (LvAt w N lb vb eb top L st f):=V
 have HBD:Hid (∀ n ∈ L,n<256):=V.bd
 have HEL:Hid (∀ n,(st.es n).length<=256):=hel
 have HFS:Hid (∀ (x:Int) (v:Value),f x=some v->∃ n:Nat,x=(n:Int)/\n ∈ L):=fun x v h=>by
  obtain ⟨h1,h2⟩:=V.no x v h
  exact ⟨x.toNat,by omega,h2⟩
 have HST:Hid (sumB (addA st.es) (fun z=>memS L z&&!(fun i=>(f i).isSome) z) 256=0):=by
  have e:(fun z=>memS L z&&!(fun i=>(f i).isSome) z)=fun _=>false:=by
   funext z
   cases hm:memS L z with
   |false=>rfl
   |true =>
    have h3:0<=z/\z.toNat ∈ L:=of_decide_eq_true hm
    obtain ⟨v,e1,_⟩:=V.row z.toNat h3.2
    rw [Int.toNat_of_nonneg h3.1] at e1
    show (true&&!(f z).isSome)=false
    rw [e1];rfl
  unfold Hid
  rw [e]
  exact sumB_none _ _
 clear V hel
 go_enter Tryz.func56,Tryz.ntmps56
 go_wp2_with (first|(at_range;refine wpList_rangeF rfl _ 123 rfl 3 126 law3 Tryz.underM eb _ _ rfl em ?_;intro w3 hrg3 hg3 hs3)|go_in)
 have B3:Below w.heap.size w w3:=(Below.refl _ _).grown hg3 (Nat.le_refl _) (by simp)
 clear hg3 em c2
 go_loopg [3] L.length (fun gj sv wq=>∃ (left:Int->Bool) (cnt:Nat),gj=cnt/\RngF Tryz.prog 3 wq eb w.heap.size f L.length left cnt/\sv=.int .i64 ((sumB (addA st.es) (fun z=>memS L z&&!left z) 256:Nat):Int)/\Below w.heap.size w wq/\w.heap.size<wq.heap.size)
 case atStart=>exact ⟨_,_,rfl,hrg3,by rw [HST.out];rfl,B3,by omega⟩
 case round =>
  clear hrg3 B3 HST
  obtain ⟨left,cnt,hgj,hrg,rfl,hBw,hrq⟩:=hrel
  have hsl:=sumB_le (addA st.es) (fun z=>memS L z&&!left z) 256 (fun n=>Nat.le_trans (List.length_filter_le _ _) (HEL.out n)) 256
  go_wp2_with (first|(at_next;refine wpList_nextF rfl _ rfl 3 law3 eb w.heap.size _ _ _ _ rfl hrg ?_ ?_)|go_in)
  ·intro hc0 hl0
   have e:(fun z=>memS L z&&!left z)=memS L:=by
    funext z
    rw [hl0 z];simp
   rw [e] at hsl ⊢
   clear hrg hl0 e
   obtain ⟨zi,hzi⟩:∃ zi:Int,zi=((sumB (addA st.es) (memS L) 256:Nat):Int):=⟨_,rfl⟩
   have hz:(0:Int)<=zi:=by omega
   have hz2:zi<=65536:=by omega
   rw [<- hzi]
   have HZI:Hid _:=hzi
   clear hzi
   have t1:Int.tdiv zi 2=zi / 2:=Int.tdiv_eq_ediv_of_nonneg hz
   have t2:IntKind.i64.wrap (zi / 2)=zi / 2:=wrap_small' (by omega) (by omega)
   have t3:IntKind.i64.wrap (Int.tdiv zi 2)=zi / 2:=by rw [t1];exact t2
   clear hsl
   go_wp2
   go_ret
   exact ⟨by rw [<- HZI.out];rfl,hBw⟩
  ·intro x v w4 cnt1 hwx hlx hfx hrg1 hlt hg1 hs1 hen
   obtain ⟨n,hxn,hnL⟩:=HFS.out x v hfx
   subst hxn
   have B4:Below w.heap.size w w4:=hBw.grown hg1 hBw.size (fun k e=>by cases e;omega)
   have hr4:w.heap.size<w4.heap.size:=by omega
   have V4:=HV.out.below B4
   obtain ⟨v',e1,e2⟩:=V4.row n hnL
   rw [hfx] at e1
   cases e1
   obtain ⟨A4,cap4,rfl,row4,_⟩:=rowL_of e2
   have hfind:=find_added (cap:=cap4) (p:=fun e=>decide (0<=e.mid)) w4 row4 (HEL.out n) (fun w' e _ _=>isAdded_any w' _ _ _ _)
   have HSN:Hid (sumB (addA st.es) (fun z=>memS L z&&!(left z&&!decide (z=(n:Int)))) 256=sumB (addA st.es) (fun z=>memS L z&&!left z) 256+addA st.es n):=sum_next (HBD.out n hnL) hnL hlx
   have HAN:Hid (addA st.es n=((st.es n).filter (fun e=>decide (0<=e.mid))).length):=rfl
   have hfl:((st.es n).filter (fun e=>decide (0<=e.mid))).length<=256:=Nat.le_trans (List.length_filter_le _ _) (HEL.out n)
   clear hrg hBw hg1 hs1 V4 e2 row4 hfx hlx hnL
   go_wp2_with fail
   refine hfind.mono ?_
   rintro r w5 ⟨v5,rfl,own5,hb5⟩
   obtain ⟨A5,cap5,rfl,_⟩:=rowL_of own5
   have hrg5:=hrg1.keep (F:=fun _=>False) (Keep.of_below hb5) id id
   have B5:=B4.trans (hb5.mono B4.size)
   have hr5:=Nat.lt_of_lt_of_le hr4 hb5.size
   clear hfind own5 hb5 hrg1 B4 hen
   go_wp2
   go_roundg cnt1
   case measure=>omega
   case rel=>exact ⟨_,cnt1,rfl,hrg5,by rw [HSN.out,HAN.out];push_cast;rfl,B5,hr5⟩
end
section
open Go.RowKit Go.Lib
def frN (bl:Nat->Bool):Nat->Nat
 |0=>0
 |k+1=>frN bl k+if bl k then 0 else 1
theorem frN_le (bl:Nat->Bool):∀ k,frN bl k<=k
 |0=>Nat.le_refl _
 |k+1=>by
  have:=frN_le bl k
  unfold frN
  split <;> omega
set_option maxHeartbeats 1000000 in
set_option maxRecDepth 1000000 in
theorem countFree_any {b:Nat}{W H V:Int}{bl:Nat->Bool}(w:World)(g:GridAt w b W H V bl) :
  Calls Tryz.prog 53 #[.pointer (some ⟨b,0,none⟩)] w fun e w'=>e=.returned (.int .i64 (frN bl (W*H).toNat:Nat))/\Below w.heap.size w w':=by
 have hwh:=wh_bd g.w1 g.w2 g.h1 g.h2
 obtain ⟨K,hK⟩:∃ K:Nat,W*H=(K:Int):=⟨(W*H).toNat,by omega⟩
 have hc:=cells_any w g
 have HK:Hid (W*H=(K:Int)):=hK
 rw [hK] at hc hwh ⊢
 rw [Int.toNat_natCast]
 clear hK
 go_enter Tryz.func53,Tryz.ntmps53
 go_wp2_with fail
 refine hc.mono ?_
 rintro e w1 ⟨rfl,m,rfl⟩
 clear hc
 go_wp2
 go_loopw [3,9] (fun cv iv wr=>∃ j:Nat,j<=K/\iv=.int .i64 j/\cv=.int .i64 (frN bl j:Nat)/\∃ m,wr=w.drewN m)
  (fun _ i _=>K - (intOf i).toNat)
 case atStart=>exact ⟨0,Nat.zero_le _,rfl,rfl,m,rfl⟩
 case round =>
  obtain ⟨j,hj,rfl,rfl,m,rfl⟩:=hrel
  by_cases hlt:j<K
  ·have j1:(j:Int)<(K:Int):=by omega
   have hin:inB W H j=true:=decide_eq_true (by rw [HK.out];omega)
   have hf:=free_in j (w.drewN m) (g.drewN m) hin
   have hle:=frN_le bl j
   have HF:Hid (frN bl (j+1)=frN bl j+if bl j then 0 else 1):=rfl
   generalize frN bl j=c at *
   cases hb:bl j with
   |true =>
    rw [hb] at hf
    have HF2:Hid (frN bl (j+1)=c):=by have:=HF.out;rw [hb] at this;exact this
    clear HF hb
    go_wp2_with fail
    refine hf.mono ?_
    rintro e w2 ⟨rfl,m2,rfl⟩
    go_wp2
    go_roundw
    case rel=>exact ⟨j+1,by omega,by go_num,by rw [HF2.out],_,rfl⟩
    case measure=>simp [intOf];omega
   |false =>
    rw [hb] at hf
    have HF2:Hid (frN bl (j+1)=c+1):=by have:=HF.out;rw [hb] at this;exact this
    clear HF hb
    go_wp2_with fail
    refine hf.mono ?_
    rintro e w2 ⟨rfl,m2,rfl⟩
    go_wp2
    go_roundw
    case rel=>exact ⟨j+1,by omega,by go_num,by rw [HF2.out];go_num,_,rfl⟩
    case measure=>simp [intOf];omega
  ·have e:j=K:=by omega
   subst e
   go_wp2
   go_ret
   exact ⟨rfl,below_drewN (Below.refl _ _) _⟩
noncomputable def edN (W H:Int) (bl:Nat->Bool) (l:List Nat):Nat:=(l.map fun n=>(esF W H bl n).length).sum
theorem GEs.len {W H:Int}{bl:Nat->Bool}{es:Nat->List LE}(G:GEs W H bl es)(w1:1<=W)(w2:W<=16)(h1:1<=H)(h2:H<=16)(n:Nat):(es n).length<=256:=by
 have hwh:=wh_bd w1 w2 h1 h2
 cases hc:cornB W H bl n with
 |true =>
  obtain ⟨l,k1,k2⟩:=G.1 n hc
  rw [k2,List.length_map]
  exact k1.len w1 hwh.2
 |false =>
  rw [G.2 n hc]
  exact Nat.zero_le _
theorem edN_le {W H:Int}{bl:Nat->Bool}(w1:1<=W)(w2:W<=16)(h1:1<=H)(h2:H<=16):∀ l:List Nat,edN W H bl l<=256*l.length
 |[]=>Nat.le_refl _
 |n::l=>by
  have:=edN_le w1 w2 h1 h2 l (bl:=bl)
  have h3:=(esF_ok (W:=W) (H:=H) (bl:=bl) w1).len w1 w2 h1 h2 n
  unfold edN at this ⊢
  rw [List.map_cons,List.sum_cons,List.length_cons]
  omega
theorem edN_next {W H:Int}{bl:Nat->Bool}{l:List Nat}{k n:Nat}(h:l[k]? = some n):edN W H bl (l.take (k+1))=edN W H bl (l.take k)+(esF W H bl n).length:=by
 unfold edN
 rw [take_next h,List.map_append,List.sum_append]
 simp
set_option maxHeartbeats 2000000 in
set_option maxRecDepth 1000000 in
theorem countEdges_any {rb pb mb:Nat}{W H V:Int}{bl:Nat->Bool}(w:World)(G:GraphAt w rb pb mb W H V bl)(w1:1<=W)(w2:W<=16)(h1:1<=H)(h2:H<=16) :
  Calls Tryz.prog 55 #[.pointer (some ⟨rb,0,none⟩)] w fun e w'=>e=.returned (.int .i64 (edN W H bl (crs W H bl (W*H).toNat) / 2:Nat))/\Below w.heap.size w w':=by
 have hnod:=nodes_any w G
 have hwh:=wh_bd w1 w2 h1 h2
 have HC:Hid (∀ n ∈ crs W H bl (W*H).toNat,cornB W H bl n=true/\n<256):=fun n hn=>by
  have:=crs_mem.1 hn
  exact ⟨this.2,by omega⟩
 have hLL:(crs W H bl (W*H).toNat).length<=256:=by have:=crs_len W H bl (W*H).toNat;omega
 have HG:Hid (GraphAt w rb pb mb W H V bl):=G
 have HE:Hid (GEs W H bl (esF W H bl)):=esF_ok w1
 have HLE:Hid (∀ l,edN W H bl l<=256*l.length):=edN_le w1 w2 h1 h2
 clear G
 generalize crs W H bl (W*H).toNat=L at *
 go_enter Tryz.func55,Tryz.ntmps55
 go_wp2_with fail
 refine hnod.mono ?_
 rintro e wb ⟨vL,rfl,hownL,hb1⟩
 obtain ⟨AL,capL,rfl,hold,_⟩:=oldRow_of hownL
 have HO:Hid (OldRow wb AL L.length (fun i=>((L.getD i 0:Nat):Int))):=hold
 clear hnod hownL hold
 go_wp2
 go_loopw [3,11] (fun cv iv wr=>∃ j:Nat,j<=L.length/\iv=.int .i64 j/\cv=.int .i64 (edN W H bl (L.take j):Nat)/\Below wb.heap.size wb wr)
  (fun _ i _=>L.length - (intOf i).toNat)
 case atStart=>exact ⟨0,Nat.zero_le _,rfl,rfl,Below.refl _ _⟩
 case round =>
  obtain ⟨j,hj,rfl,rfl,hB⟩:=hrel
  by_cases hlt:j<L.length
  ·have j1:(j:Int)<(L.length:Int):=by omega
   obtain ⟨bA,oA,rfl,_,q0⟩:=(HO.out.below hB) j hlt
   obtain ⟨nn,hnn⟩:∃ nn,L[j]? = some nn:=⟨L[j],List.getElem?_eq_getElem hlt⟩
   have q1:wr.cell? ⟨bA,oA+j,none⟩=some (.int .i64 (nn:Int)):=by
    have e:L.getD j 0=nn:=by rw [List.getD_eq_getElem?_getD,hnn];rfl
    rw [<- e];exact q0
   obtain ⟨hcn,hn2⟩:=HC.out nn (List.mem_of_getElem? hnn)
   have BW:=hb1.trans (hB.mono hb1.size)
   have hed:=edges_yes wr (HG.out.below BW) hcn (wf_small (by omega) (by omega))
   have HN:Hid (edN W H bl (L.take (j+1))=edN W H bl (L.take j)+(esF W H bl nn).length):=edN_next hnn
   have hle:=HLE.out (L.take j)
   have hle2:=HLE.out (L.take (j+1))
   rw [List.length_take] at hle hle2
   clear q0 hnn
   go_wp2_with fail
   refine hed.mono ?_
   rintro e w3 ⟨v,l,rfl,hown,hEL,hb3⟩
   have hlen:(esF W H bl nn).length=l.length:=by
    obtain ⟨l',k1,k2⟩:=HE.out.1 nn hcn
    rw [k2,List.length_map,k1.one hEL]
   have HN2:Hid (edN W H bl (L.take (j+1))=edN W H bl (L.take j)+l.length):=by rw [<- hlen];exact HN.out
   have hl3:edN W H bl (L.take j)+l.length<=65536:=by have:=HN2.out;omega
   obtain ⟨A3,cap3,rfl⟩:∃ (A:Option Addr) (cap:Nat),v=.slice A l.length cap:=by
    rcases hown.2 with ⟨rfl,h0⟩|⟨g9,cap9,_,rfl,_⟩
    ·exact ⟨none,0,by rw [h0]⟩
    ·exact ⟨_,_,rfl⟩
   have B3:=hB.trans (hb3.mono hB.size)
   clear hed hown hEL hlen HN q1
   generalize edN W H bl (L.take j)=c at *
   go_wp2
   go_roundw
   case rel=>exact ⟨j+1,by omega,by go_num,by rw [HN2.out];go_num,B3⟩
   case measure=>simp [intOf];omega
  ·have e:j=L.length:=by omega
   subst e
   have hle:=HLE.out L
   rw [List.take_length]
   obtain ⟨c,hc⟩:∃ c,edN W H bl L=c:=⟨_,rfl⟩
   have HCC:Hid (edN W H bl L=c):=hc
   rw [hc] at hle ⊢
   clear hc
   have hq:Int.tdiv (c:Int) 2=((c / 2:Nat):Int):=by rw [Int.tdiv_eq_ediv_of_nonneg (by omega)];omega
   have hwq:IntKind.i64.wrap ((c / 2:Nat):Int)=((c / 2:Nat):Int):=wrap_small' (by omega) (by omega)
   have BW:=hb1.trans (hB.mono hb1.size)
   go_wp2
   go_ret
   exact ⟨by rw [HCC.out];simp,BW⟩
end
end Go.Proofs.YtmaefimaeelkbaaGreatDoor
