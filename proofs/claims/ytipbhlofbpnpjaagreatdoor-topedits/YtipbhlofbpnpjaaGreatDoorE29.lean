/-
  Texts laid together: AddP, Nv9, Nv10, Nv11, Nv12, Nv13.
-/
import Derived.Test.YtipbhlofbpnpjaaGreatDoorE28
import Derived.Test.YtipbhlofbpnpjaaGreatDoorE19
import Derived.Test.YtipbhlofbpnpjaaGreatDoorE10
import Derived.Test.YtipbhlofbpnpjaaGreatDoorE2
import Derived.Test.YtipbhlofbpnpjaaGreatDoorE3
namespace Go.Proofs.YtipbhlofbpnpjaaGreatDoor
section
open Go.RowKit Go.Maps
theorem sum_next {h:Nat->Nat}{L:List Nat}{left:Int->Bool}{n:Nat}(hn:n<256)(hnL:n ∈ L)(hl:left (n:Int)=true) :
  sumB h (fun z=>memS L z&&!(left z&&!decide (z=(n:Int)))) 256=sumB h (fun z=>memS L z&&!left z) 256+h n:=by
 have e:(fun z=>memS L z&&!(left z&&!decide (z=(n:Int))))=insS (fun z=>memS L z&&!left z) (n:Int):=by
  funext z
  unfold insS
  by_cases q:z=(n:Int)
  ·subst q
   rw [memS_at.2 hnL,decide_eq_true rfl]
   simp
  ·rw [decide_eq_false q]
   simp
 rw [e,sumB_put h _ n 256 hn (by rw [hl];simp)]
set_option maxHeartbeats 4000000 in
set_option maxRecDepth 1000000 in
theorem added_any {N lb vb eb top:Nat}{L:List Nat}{st:LSt}{f:Int->Option Value}(w:World)(V:LvAt w N lb vb eb top L st f)(hel:∀ n,(st.es n).length<=256) :
  Calls Tryz.prog 57 #[.pointer (some ⟨lb,0,none⟩)] w fun e w'=>e=.returned (.int .i64 ((sumB (addA st.es) (memS L) 256:Nat) / 2:Int))/\Below w.heap.size w w':=by
 have c2:=V.c2
 have hel2:=V.lts.2.2
 have em:=V.em
 have HV:Hid (LvAt w N lb vb eb top L st f):=V
 have HBD:Hid (∀ n ∈ L,n<256):=V.bd
 have HEL:Hid (∀ n,(st.es n).length<=256):=hel
 have HFS:Hid (∀ (x:Int) (v:Value),f x=some v->∃ n:Nat,x=(n:Int)/\n ∈ L):=fun x v h=>by
  obtain ⟨h1,h2⟩:=V.no x v h
  exact ⟨x.toNat,by omega,h2⟩
 have HST:Hid (sumB (addA st.es) (fun z=>memS L z&&!(fun i=>(f i).isSome) z) 256=0):=by
  have e:(fun z=>memS L z&&!(fun i=>(f i).isSome) z)=fun _=>false:=by
   funext z
   cases hm:memS L z with
   |false=>rfl
   |true =>
    have h3:0<=z/\z.toNat ∈ L:=of_decide_eq_true hm
    obtain ⟨v,e1,_⟩:=V.row z.toNat h3.2
    rw [Int.toNat_of_nonneg h3.1] at e1
    show (true&&!(f z).isSome)=false
    rw [e1];rfl
  unfold Hid
  rw [e]
  exact sumB_none _ _
 clear V hel
 go_enter Tryz.func57,Tryz.ntmps57
 go_wp2_with (first|(at_range;refine wpList_rangeF rfl _ 129 rfl 3 141 law3 Tryz.underM eb _ _ rfl em ?_;intro w3 hrg3 hg3 hs3)|go_in)
 have B3:Below w.heap.size w w3:=(Below.refl _ _).grown hg3 (Nat.le_refl _) (by simp)
 clear hg3 em c2
 go_loopg [3] L.length (fun gj sv wq=>∃ (left:Int->Bool) (cnt:Nat),gj=cnt/\RngF Tryz.prog 3 wq eb w.heap.size f L.length left cnt/\sv=.int .i64 ((sumB (addA st.es) (fun z=>memS L z&&!left z) 256:Nat):Int)/\Below w.heap.size w wq/\w.heap.size<wq.heap.size)
 case atStart=>exact ⟨_,_,rfl,hrg3,by rw [HST.out];rfl,B3,by omega⟩
 case round =>
  clear hrg3 B3 HST
  obtain ⟨left,cnt,hgj,hrg,rfl,hBw,hrq⟩:=hrel
  have hsl:=sumB_le (addA st.es) (fun z=>memS L z&&!left z) 256 (fun n=>Nat.le_trans (List.length_filter_le _ _) (HEL.out n)) 256
  go_wp2_with (first|(at_next;refine wpList_nextF rfl _ rfl 3 law3 eb w.heap.size _ _ _ _ rfl hrg ?_ ?_)|go_in)
  ·intro hc0 hl0
   have e:(fun z=>memS L z&&!left z)=memS L:=by
    funext z
    rw [hl0 z];simp
   rw [e] at hsl ⊢
   clear hrg hl0 e
   obtain ⟨zi,hzi⟩:∃ zi:Int,zi=((sumB (addA st.es) (memS L) 256:Nat):Int):=⟨_,rfl⟩
   have hz:(0:Int)<=zi:=by omega
   have hz2:zi<=65536:=by omega
   rw [<- hzi]
   have HZI:Hid _:=hzi
   clear hzi
   have t1:Int.tdiv zi 2=zi / 2:=Int.tdiv_eq_ediv_of_nonneg hz
   have t2:IntKind.i64.wrap (zi / 2)=zi / 2:=wrap_small' (by omega) (by omega)
   have t3:IntKind.i64.wrap (Int.tdiv zi 2)=zi / 2:=by rw [t1];exact t2
   clear hsl
   go_wp2
   go_ret
   exact ⟨by rw [<- HZI.out];rfl,hBw⟩
  ·intro x v w4 cnt1 hwx hlx hfx hrg1 hlt hg1 hs1 hen
   obtain ⟨n,hxn,hnL⟩:=HFS.out x v hfx
   subst hxn
   have B4:Below w.heap.size w w4:=hBw.grown hg1 hBw.size (fun k e=>by cases e;omega)
   have hr4:w.heap.size<w4.heap.size:=by omega
   have V4:=HV.out.below B4
   obtain ⟨v',e1,e2⟩:=V4.row n hnL
   rw [hfx] at e1
   cases e1
   obtain ⟨A4,cap4,rfl,row4,_⟩:=rowL_of e2
   have hfind:=find_added (cap:=cap4) (p:=fun e=>decide (0<=e.mid)) w4 row4 (HEL.out n) (fun w' e _ _=>isAdded_any w' _ _ _ _)
   have HSN:Hid (sumB (addA st.es) (fun z=>memS L z&&!(left z&&!decide (z=(n:Int)))) 256=sumB (addA st.es) (fun z=>memS L z&&!left z) 256+addA st.es n):=sum_next (HBD.out n hnL) hnL hlx
   have HAN:Hid (addA st.es n=((st.es n).filter (fun e=>decide (0<=e.mid))).length):=rfl
   have hfl:((st.es n).filter (fun e=>decide (0<=e.mid))).length<=256:=Nat.le_trans (List.length_filter_le _ _) (HEL.out n)
   clear hrg hBw hg1 hs1 V4 e2 row4 hfx hlx hnL
   go_wp2_with fail
   refine hfind.mono ?_
   rintro r w5 ⟨v5,rfl,own5,hb5⟩
   obtain ⟨A5,cap5,rfl,_⟩:=rowL_of own5
   have hrg5:=hrg1.keep (F:=fun _=>False) (Keep.of_below hb5) id id
   have B5:=B4.trans (hb5.mono B4.size)
   have hr5:=Nat.lt_of_lt_of_le hr4 hb5.size
   clear hfind own5 hb5 hrg1 B4 hen
   go_wp2
   go_roundg cnt1
   case measure=>omega
   case rel=>exact ⟨_,cnt1,rfl,hrg5,by rw [HSN.out,HAN.out];push_cast;rfl,B5,hr5⟩
end
section
open Go.RowKit Go.Lib
def frN (bl:Nat->Bool):Nat->Nat
 |0=>0
 |k+1=>frN bl k+if bl k then 0 else 1
theorem frN_le (bl:Nat->Bool):∀ k,frN bl k<=k
 |0=>Nat.le_refl _
 |k+1=>by
  have:=frN_le bl k
  unfold frN
  split <;> omega
set_option maxHeartbeats 1000000 in
set_option maxRecDepth 1000000 in
theorem countFree_any {b:Nat}{W H V:Int}{bl:Nat->Bool}(w:World)(g:GridAt w b W H V bl) :
  Calls Tryz.prog 54 #[.pointer (some ⟨b,0,none⟩)] w fun e w'=>e=.returned (.int .i64 (frN bl (W*H).toNat:Nat))/\Below w.heap.size w w':=by
 have hwh:=wh_bd g.w1 g.w2 g.h1 g.h2
 obtain ⟨K,hK⟩:∃ K:Nat,W*H=(K:Int):=⟨(W*H).toNat,by omega⟩
 have hc:=cells_any w g
 have HK:Hid (W*H=(K:Int)):=hK
 rw [hK] at hc hwh ⊢
 rw [Int.toNat_natCast]
 clear hK
 go_enter Tryz.func54,Tryz.ntmps54
 go_wp2_with fail
 refine hc.mono ?_
 rintro e w1 ⟨rfl,m,rfl⟩
 clear hc
 go_wp2
 go_loopw [3,9] (fun cv iv wr=>∃ j:Nat,j<=K/\iv=.int .i64 j/\cv=.int .i64 (frN bl j:Nat)/\∃ m,wr=w.drewN m)
  (fun _ i _=>K - (intOf i).toNat)
 case atStart=>exact ⟨0,Nat.zero_le _,rfl,rfl,m,rfl⟩
 case round =>
  obtain ⟨j,hj,rfl,rfl,m,rfl⟩:=hrel
  by_cases hlt:j<K
  ·have j1:(j:Int)<(K:Int):=by omega
   have hin:inB W H j=true:=decide_eq_true (by rw [HK.out];omega)
   have hf:=free_in j (w.drewN m) (g.drewN m) hin
   have hle:=frN_le bl j
   have HF:Hid (frN bl (j+1)=frN bl j+if bl j then 0 else 1):=rfl
   generalize frN bl j=c at *
   cases hb:bl j with
   |true =>
    rw [hb] at hf
    have HF2:Hid (frN bl (j+1)=c):=by have:=HF.out;rw [hb] at this;exact this
    clear HF hb
    go_wp2_with fail
    refine hf.mono ?_
    rintro e w2 ⟨rfl,m2,rfl⟩
    go_wp2
    go_roundw
    case rel=>exact ⟨j+1,by omega,by go_num,by rw [HF2.out],_,rfl⟩
    case measure=>simp [intOf];omega
   |false =>
    rw [hb] at hf
    have HF2:Hid (frN bl (j+1)=c+1):=by have:=HF.out;rw [hb] at this;exact this
    clear HF hb
    go_wp2_with fail
    refine hf.mono ?_
    rintro e w2 ⟨rfl,m2,rfl⟩
    go_wp2
    go_roundw
    case rel=>exact ⟨j+1,by omega,by go_num,by rw [HF2.out];go_num,_,rfl⟩
    case measure=>simp [intOf];omega
  ·have e:j=K:=by omega
   subst e
   go_wp2
   go_ret
   exact ⟨rfl,below_drewN (Below.refl _ _) _⟩
noncomputable def edN (W H:Int) (bl:Nat->Bool) (l:List Nat):Nat:=(l.map fun n=>(esF W H bl n).length).sum
theorem GEs.len {W H:Int}{bl:Nat->Bool}{es:Nat->List LE}(G:GEs W H bl es)(w1:1<=W)(w2:W<=16)(h1:1<=H)(h2:H<=16)(n:Nat):(es n).length<=256:=by
 have hwh:=wh_bd w1 w2 h1 h2
 cases hc:cornB W H bl n with
 |true =>
  obtain ⟨l,k1,k2⟩:=G.1 n hc
  rw [k2,List.length_map]
  exact k1.len w1 hwh.2
 |false =>
  rw [G.2 n hc]
  exact Nat.zero_le _
theorem edN_le {W H:Int}{bl:Nat->Bool}(w1:1<=W)(w2:W<=16)(h1:1<=H)(h2:H<=16):∀ l:List Nat,edN W H bl l<=256*l.length
 |[]=>Nat.le_refl _
 |n::l=>by
  have:=edN_le w1 w2 h1 h2 l (bl:=bl)
  have h3:=(esF_ok (W:=W) (H:=H) (bl:=bl) w1).len w1 w2 h1 h2 n
  unfold edN at this ⊢
  rw [List.map_cons,List.sum_cons,List.length_cons]
  omega
theorem edN_next {W H:Int}{bl:Nat->Bool}{l:List Nat}{k n:Nat}(h:l[k]? = some n):edN W H bl (l.take (k+1))=edN W H bl (l.take k)+(esF W H bl n).length:=by
 unfold edN
 rw [take_next h,List.map_append,List.sum_append]
 simp
set_option maxHeartbeats 2000000 in
set_option maxRecDepth 1000000 in
theorem countEdges_any {rb pb mb:Nat}{W H V:Int}{bl:Nat->Bool}(w:World)(G:GraphAt w rb pb mb W H V bl)(w1:1<=W)(w2:W<=16)(h1:1<=H)(h2:H<=16) :
  Calls Tryz.prog 56 #[.pointer (some ⟨rb,0,none⟩)] w fun e w'=>e=.returned (.int .i64 (edN W H bl (crs W H bl (W*H).toNat) / 2:Nat))/\Below w.heap.size w w':=by
 have hnod:=nodes_any w G
 have hwh:=wh_bd w1 w2 h1 h2
 have HC:Hid (∀ n ∈ crs W H bl (W*H).toNat,cornB W H bl n=true/\n<256):=fun n hn=>by
  have:=crs_mem.1 hn
  exact ⟨this.2,by omega⟩
 have hLL:(crs W H bl (W*H).toNat).length<=256:=by have:=crs_len W H bl (W*H).toNat;omega
 have HG:Hid (GraphAt w rb pb mb W H V bl):=G
 have HE:Hid (GEs W H bl (esF W H bl)):=esF_ok w1
 have HLE:Hid (∀ l,edN W H bl l<=256*l.length):=edN_le w1 w2 h1 h2
 clear G
 generalize crs W H bl (W*H).toNat=L at *
 go_enter Tryz.func56,Tryz.ntmps56
 go_wp2_with fail
 refine hnod.mono ?_
 rintro e wb ⟨vL,rfl,hownL,hb1⟩
 obtain ⟨AL,capL,rfl,hold,_⟩:=oldRow_of hownL
 have HO:Hid (OldRow wb AL L.length (fun i=>((L.getD i 0:Nat):Int))):=hold
 clear hnod hownL hold
 go_wp2
 go_loopw [3,11] (fun cv iv wr=>∃ j:Nat,j<=L.length/\iv=.int .i64 j/\cv=.int .i64 (edN W H bl (L.take j):Nat)/\Below wb.heap.size wb wr)
  (fun _ i _=>L.length - (intOf i).toNat)
 case atStart=>exact ⟨0,Nat.zero_le _,rfl,rfl,Below.refl _ _⟩
 case round =>
  obtain ⟨j,hj,rfl,rfl,hB⟩:=hrel
  by_cases hlt:j<L.length
  ·have j1:(j:Int)<(L.length:Int):=by omega
   obtain ⟨bA,oA,rfl,_,q0⟩:=(HO.out.below hB) j hlt
   obtain ⟨nn,hnn⟩:∃ nn,L[j]? = some nn:=⟨L[j],List.getElem?_eq_getElem hlt⟩
   have q1:wr.cell? ⟨bA,oA+j,none⟩=some (.int .i64 (nn:Int)):=by
    have e:L.getD j 0=nn:=by rw [List.getD_eq_getElem?_getD,hnn];rfl
    rw [<- e];exact q0
   obtain ⟨hcn,hn2⟩:=HC.out nn (List.mem_of_getElem? hnn)
   have BW:=hb1.trans (hB.mono hb1.size)
   have hed:=edges_yes wr (HG.out.below BW) hcn (wf_small (by omega) (by omega))
   have HN:Hid (edN W H bl (L.take (j+1))=edN W H bl (L.take j)+(esF W H bl nn).length):=edN_next hnn
   have hle:=HLE.out (L.take j)
   have hle2:=HLE.out (L.take (j+1))
   rw [List.length_take] at hle hle2
   clear q0 hnn
   go_wp2_with fail
   refine hed.mono ?_
   rintro e w3 ⟨v,l,rfl,hown,hEL,hb3⟩
   have hlen:(esF W H bl nn).length=l.length:=by
    obtain ⟨l',k1,k2⟩:=HE.out.1 nn hcn
    rw [k2,List.length_map,k1.one hEL]
   have HN2:Hid (edN W H bl (L.take (j+1))=edN W H bl (L.take j)+l.length):=by rw [<- hlen];exact HN.out
   have hl3:edN W H bl (L.take j)+l.length<=65536:=by have:=HN2.out;omega
   obtain ⟨A3,cap3,rfl⟩:∃ (A:Option Addr) (cap:Nat),v=.slice A l.length cap:=by
    rcases hown.2 with ⟨rfl,h0⟩|⟨g9,cap9,_,rfl,_⟩
    ·exact ⟨none,0,by rw [h0]⟩
    ·exact ⟨_,_,rfl⟩
   have B3:=hB.trans (hb3.mono hB.size)
   clear hed hown hEL hlen HN q1
   generalize edN W H bl (L.take j)=c at *
   go_wp2
   go_roundw
   case rel=>exact ⟨j+1,by omega,by go_num,by rw [HN2.out];go_num,B3⟩
   case measure=>simp [intOf];omega
  ·have e:j=L.length:=by omega
   subst e
   have hle:=HLE.out L
   rw [List.take_length]
   obtain ⟨c,hc⟩:∃ c,edN W H bl L=c:=⟨_,rfl⟩
   have HCC:Hid (edN W H bl L=c):=hc
   rw [hc] at hle ⊢
   clear hc
   have hq:Int.tdiv (c:Int) 2=((c / 2:Nat):Int):=by rw [Int.tdiv_eq_ediv_of_nonneg (by omega)];omega
   have hwq:IntKind.i64.wrap ((c / 2:Nat):Int)=((c / 2:Nat):Int):=wrap_small' (by omega) (by omega)
   have BW:=hb1.trans (hB.mono hb1.size)
   go_wp2
   go_ret
   exact ⟨by rw [HCC.out];simp,BW⟩
end
section
open Go.RowKit Go.Lib
noncomputable def lvK (W H:Int) (bl:Nat->Bool) (most:Nat):Nat × LSt:=@dite _ (∃ p:Nat × LSt,Rds most (crs W H bl (W*H).toNat) ⟨fun _=>0,esF W H bl⟩ p.1 p.2/\Over most (crs W H bl (W*H).toNat) p.1 p.2) (Classical.propDecidable _) (fun h=>Classical.choose h) (fun _=>(0,⟨fun _=>0,fun _=>[]⟩))
theorem lvK_eq {W H:Int}{bl:Nat->Bool}{most k:Nat}{st:LSt}(h:Rds most (crs W H bl (W*H).toNat) ⟨fun _=>0,esF W H bl⟩ k st)(ho:Over most (crs W H bl (W*H).toNat) k st):lvK W H bl most=(k,st):=by
 have hx:∃ p:Nat × LSt,Rds most (crs W H bl (W*H).toNat) ⟨fun _=>0,esF W H bl⟩ p.1 p.2/\Over most (crs W H bl (W*H).toNat) p.1 p.2:=⟨(k,st),h,ho⟩
 unfold lvK
 rw [dif_pos hx]
 obtain ⟨h1,h2⟩:=Classical.choose_spec hx
 obtain ⟨e1,e2⟩:=rounds_one h1 h2 h ho
 exact Prod.ext e1 e2
noncomputable def addN (W H:Int) (bl:Nat->Bool) (most:Nat):Nat:=sumB (addA (lvK W H bl most).2.es) (memS (crs W H bl (W*H).toNat)) 256
noncomputable def stV (W H V:Int) (bl:Nat->Bool) (most:Nat):Array Value:=#[.int .i64 (W*H),.int .i64 (frN bl (W*H).toNat:Nat),.int .i64 ((crs W H bl (W*H).toNat).length:Nat),.int .i64 (edN W H bl (crs W H bl (W*H).toNat) / 2:Nat),.int .i64 ((addN W H bl most:Nat) / 2:Int),.int .i64 ((lvK W H bl most).1+1:Nat),.int .i64 V]
section
variable {w : World} {lo hi sb rb pb mb lb tb gb N x most : Nat} {W H V V2 : Int} {bl : Nat → Bool}
theorem SvAt.added (w:World)(S:SvAt w lo hi sb rb pb mb lb tb gb N x W H V V2 bl most):Calls Tryz.prog 57 #[.pointer (some ⟨lb,0,none⟩)] w fun e w'=>e=.returned (.int .i64 ((addN W H bl most:Nat) / 2:Int))/\Below w.heap.size w w':=by
 obtain ⟨w1,w2,h1,h2⟩:=S.side
 obtain ⟨vb,eb,k,st,f,hR,hO,V⟩:=S.lv
 have hwh:=wh_bd w1 w2 h1 h2
 have B:=Btw.rds (show (0:Int)<=16 by omega) ((esF_ok (W:=W) (H:=H) (bl:=bl) w1).btw w1 w2 h1 h2) hR
 have hl:∀ n,(st.es n).length<=256:=fun n=>LayOk.len (L:=crs W H bl (W*H).toNat) (fun a=>⟨B.lrd.esy.ord a,fun e he=>(B.cor.ends he).2⟩) (fun n hn=>by have:=(crs_mem.1 hn).1;omega) n
 have h:=added_any w V hl
 unfold addN
 rw [lvK_eq hR hO]
 exact h
theorem SvAt.topl (w:World)(S:SvAt w lo hi sb rb pb mb lb tb gb N x W H V V2 bl most):Calls Tryz.prog 58 #[.pointer (some ⟨lb,0,none⟩)] w fun e w'=>e=.returned (.int .i64 ((lvK W H bl most).1+1:Nat))/\Below w.heap.size w w':=by
 obtain ⟨vb,eb,k,st,f,hR,hO,V⟩:=S.lv
 rw [lvK_eq hR hO]
 exact (top_any w V).mono fun e w' ⟨h1,h2⟩=>⟨h1,by rw [h2];exact Below.refl _ _⟩
theorem SvAt.nodes (w:World)(S:SvAt w lo hi sb rb pb mb lb tb gb N x W H V V2 bl most):Calls Tryz.prog 55 #[.pointer (some ⟨rb,0,none⟩)] w fun e w'=>∃ A cap,e=.returned (.slice A (crs W H bl (W*H).toNat).length cap)/\Below w.heap.size w w':=by
 refine (nodes_any w S.gr).mono ?_
 rintro e w' ⟨v,rfl,ho,hb⟩
 obtain ⟨A,cap,rfl,_⟩:=oldRow_of ho
 exact ⟨A,cap,rfl,hb⟩
end
def st7 (w:World) (B:Nat) (a0 a1 a2 a3 a4 a5 a6:Value):World:=((((((w.setCell ⟨B,0,none⟩ a0).setCell ⟨B,1,none⟩ a1).setCell ⟨B,2,none⟩ a2).setCell ⟨B,3,none⟩ a3).setCell ⟨B,4,none⟩ a4).setCell ⟨B,5,none⟩ a5).setCell ⟨B,6,none⟩ a6
theorem st7_keep (w:World)(B:Nat)(a0 a1 a2 a3 a4 a5 a6:Value):Keep (fun k=>k=B) w (st7 w B a0 a1 a2 a3 a4 a5 a6):=by
 unfold st7
 exact ((((((((Keep.refl (fun k=>k=B) w).setCell (p:=⟨B,0,none⟩) (fun _=>rfl) _).setCell (p:=⟨B,1,none⟩) (fun _=>rfl) _).setCell (p:=⟨B,2,none⟩) (fun _=>rfl) _).setCell (p:=⟨B,3,none⟩) (fun _=>rfl) _).setCell (p:=⟨B,4,none⟩) (fun _=>rfl) _).setCell (p:=⟨B,5,none⟩) (fun _=>rfl) _).setCell (p:=⟨B,6,none⟩) (fun _=>rfl) _)
theorem st7_at {w:World}{B:Nat}{u:Value}(h:∀ o,o<7->w.cell? ⟨B,o,none⟩=some u)(a0 a1 a2 a3 a4 a5 a6:Value):(st7 w B a0 a1 a2 a3 a4 a5 a6).cell? ⟨B,0,none⟩=some a0/\(st7 w B a0 a1 a2 a3 a4 a5 a6).cell? ⟨B,1,none⟩=some a1/\(st7 w B a0 a1 a2 a3 a4 a5 a6).cell? ⟨B,2,none⟩=some a2/\(st7 w B a0 a1 a2 a3 a4 a5 a6).cell? ⟨B,3,none⟩=some a3/\(st7 w B a0 a1 a2 a3 a4 a5 a6).cell? ⟨B,4,none⟩=some a4/\(st7 w B a0 a1 a2 a3 a4 a5 a6).cell? ⟨B,5,none⟩=some a5/\(st7 w B a0 a1 a2 a3 a4 a5 a6).cell? ⟨B,6,none⟩=some a6:=by
 have ne:∀ {i j:Nat},i≠j->(⟨B,i,none⟩:Addr)≠⟨B,j,none⟩:=fun h q=>h (Addr.mk.inj q).2.1
 have st:∀ (v:World) (i j:Nat) (a:Value),i≠j->(v.setCell ⟨B,j,none⟩ a).cell? ⟨B,i,none⟩=v.cell? ⟨B,i,none⟩:=fun v i j a hij=>World.cell?_setCell_other _ _ _ _ (ne (Ne.symm hij))
 unfold st7
 refine ⟨?_,?_,?_,?_,?_,?_,?_⟩
 ·rw [st _ 0 6 _ (by decide),st _ 0 5 _ (by decide),st _ 0 4 _ (by decide),st _ 0 3 _ (by decide),st _ 0 2 _ (by decide),st _ 0 1 _ (by decide)]
  exact World.cell?_setCell_same _ _ _ (h 0 (by decide))
 ·rw [st _ 1 6 _ (by decide),st _ 1 5 _ (by decide),st _ 1 4 _ (by decide),st _ 1 3 _ (by decide),st _ 1 2 _ (by decide)]
  exact World.cell?_setCell_same _ _ _ (u:=u) (by rw [st _ 1 0 _ (by decide)];exact h 1 (by decide))
 ·rw [st _ 2 6 _ (by decide),st _ 2 5 _ (by decide),st _ 2 4 _ (by decide),st _ 2 3 _ (by decide)]
  exact World.cell?_setCell_same _ _ _ (u:=u) (by rw [st _ 2 1 _ (by decide),st _ 2 0 _ (by decide)];exact h 2 (by decide))
 ·rw [st _ 3 6 _ (by decide),st _ 3 5 _ (by decide),st _ 3 4 _ (by decide)]
  exact World.cell?_setCell_same _ _ _ (u:=u) (by rw [st _ 3 2 _ (by decide),st _ 3 1 _ (by decide),st _ 3 0 _ (by decide)];exact h 3 (by decide))
 ·rw [st _ 4 6 _ (by decide),st _ 4 5 _ (by decide)]
  exact World.cell?_setCell_same _ _ _ (u:=u) (by rw [st _ 4 3 _ (by decide),st _ 4 2 _ (by decide),st _ 4 1 _ (by decide),st _ 4 0 _ (by decide)];exact h 4 (by decide))
 ·rw [st _ 5 6 _ (by decide)]
  exact World.cell?_setCell_same _ _ _ (u:=u) (by rw [st _ 5 4 _ (by decide),st _ 5 3 _ (by decide),st _ 5 2 _ (by decide),st _ 5 1 _ (by decide),st _ 5 0 _ (by decide)];exact h 5 (by decide))
 ·exact World.cell?_setCell_same _ _ _ (u:=u) (by rw [st _ 6 5 _ (by decide),st _ 6 4 _ (by decide),st _ 6 3 _ (by decide),st _ 6 2 _ (by decide),st _ 6 1 _ (by decide),st _ 6 0 _ (by decide)];exact h 6 (by decide))
set_option maxHeartbeats 4000000 in
set_option maxRecDepth 1000000 in
theorem stats_any {lo hi sb most:Nat}{W H V:Int}{bl:Nat->Bool}(w:World)(S:Sv w lo hi sb W H V bl most) :
  Calls Tryz.prog 25 #[.pointer (some ⟨sb,0,none⟩)] w fun e w'=>e=.returned (.agg (stV W H V bl most))/\Below w.heap.size w w':=by
 obtain ⟨rb,pb,mb,lb,tb,gb,N,x,V2,S⟩:=S
 obtain ⟨w1,w2,h1,h2⟩:=S.side
 have b0:Below w.heap.size w (w.alloc (.cells #[.int .i64 0,.int .i64 0,.int .i64 0,.int .i64 0,.int .i64 0,.int .i64 0,.int .i64 0] 56)):=(Below.refl _ _).alloc (Nat.le_refl _) _
 have k7:∀ o,(w.alloc (.cells #[.int .i64 0,.int .i64 0,.int .i64 0,.int .i64 0,.int .i64 0,.int .i64 0,.int .i64 0] 56)).cell? ⟨w.heap.size,o,none⟩=#[Value.int .i64 0,.int .i64 0,.int .i64 0,.int .i64 0,.int .i64 0,.int .i64 0,.int .i64 0][o]? := fun o=>World.cell?_alloc_new ..
 have f7:=free_alloc w #[.int .i64 0,.int .i64 0,.int .i64 0,.int .i64 0,.int .i64 0,.int .i64 0,.int .i64 0] 56 w.heap.size (Nat.le_refl _)
 have S0:=S.below b0
 have q1:=S0.c1
 have hgg:=ggrid_any _ S0.gr
 unfold stV
 have H53:Hid (∀ (w':World) (M:Nat),GridAt w' M W H V bl->Calls Tryz.prog 53 #[.pointer (some ⟨M,0,none⟩)] w' fun e w''=>e=.returned (.int .i64 (W*H))/\Below w'.heap.size w' w''):=fun w' M g=>(cells_any w' g).mono fun e w'' ⟨h1,m,h2⟩=>⟨h1,by rw [h2];exact below_drewN (Below.refl _ _) _⟩
 have H54:Hid (∀ (w':World) (M:Nat),GridAt w' M W H V bl->_):=fun w' M g=>countFree_any w' g
 have H55:Hid (∀ w',SvAt w' lo hi sb rb pb mb lb tb gb N x W H V V2 bl most->_):=fun w' S=>SvAt.nodes w' S
 have H56:Hid (∀ w',SvAt w' lo hi sb rb pb mb lb tb gb N x W H V V2 bl most->_):=fun w' S=>countEdges_any w' S.gr w1 w2 h1 h2
 have H57:Hid (∀ w',SvAt w' lo hi sb rb pb mb lb tb gb N x W H V V2 bl most->_):=fun w' S=>SvAt.added w' S
 have H58:Hid (∀ w',SvAt w' lo hi sb rb pb mb lb tb gb N x W H V V2 bl most->_):=fun w' S=>SvAt.topl w' S
 have H59:Hid (∀ (w':World) (M:Nat),GridAt w' M W H V bl->Calls Tryz.prog 59 #[.pointer (some ⟨M,0,none⟩)] w' fun e w''=>e=.returned (.int .i64 V)/\Below w'.heap.size w' w''):=fun w' M g=>(version_any w' g).mono fun e w'' ⟨h1,h2⟩=>⟨h1,by rw [h2];exact Below.refl _ _⟩
 generalize ((frN bl (W*H).toNat:Nat):Int)=fr at *
 generalize ((edN W H bl (crs W H bl (W*H).toNat) / 2:Nat):Int)=ed at *
 generalize (crs W H bl (W*H).toNat).length=nd at *
 generalize ((addN W H bl most:Nat) / 2:Int)=ad at *
 generalize (((lvK W H bl most).1+1:Nat):Int)=tp at *
 generalize W*H=wh at *
 go_enter Tryz.func25,Tryz.ntmps25
 go_wp2_with fail
 have hz0:w.heap.size<(w.alloc (.cells #[.int .i64 0,.int .i64 0,.int .i64 0,.int .i64 0,.int .i64 0,.int .i64 0,.int .i64 0] 56)).heap.size:=by simp
 generalize w.alloc (.cells #[.int .i64 0,.int .i64 0,.int .i64 0,.int .i64 0,.int .i64 0,.int .i64 0,.int .i64 0] 56)=wa at *
 refine hgg.mono ?_
 rintro e wb ⟨rfl,hb1,hz1,g1,_⟩
 have S1:=S0.below hb1
 have B1:=b0.trans (hb1.mono b0.size)
 have hzb:w.heap.size<wb.heap.size:=Nat.lt_of_lt_of_le hz0 hb1.size
 have c7:∀ o,wb.cell? ⟨w.heap.size,o,none⟩=#[Value.int .i64 0,.int .i64 0,.int .i64 0,.int .i64 0,.int .i64 0,.int .i64 0,.int .i64 0][o]? := fun o=>(hb1.cell (p:=⟨w.heap.size,o,none⟩) hz0).trans (k7 o)
 have z7:∀ o,wb.frozen? ⟨w.heap.size,o,none⟩=false:=fun o=>(hb1.frozen (p:=⟨w.heap.size,o,none⟩) hz0).trans (f7 o)
 generalize wa.heap.size=M at *
 have HC7:Hid (∀ (w':World),Below wb.heap.size wb w'->∀ o,o<7->w'.cell? ⟨w.heap.size,o,none⟩=some (.int .i64 0)/\w'.frozen? ⟨w.heap.size,o,none⟩=false):=fun w' hb o ho=>by
  have h1:=(hb.cell (p:=⟨w.heap.size,o,none⟩) hzb).trans (c7 o)
  have h2:=(hb.frozen (p:=⟨w.heap.size,o,none⟩) hzb).trans (z7 o)
  refine ⟨?_,h2⟩
  rw [h1]
  have ho':o=0\/o=1\/o=2\/o=3\/o=4\/o=5\/o=6:=by omega
  rcases ho' with rfl|rfl|rfl|rfl|rfl|rfl|rfl <;> rfl
 have hsbl:sb<w.heap.size:=S.lt
 have CC:Hid (∀ w',Below wb.heap.size wb w'->w'.cell? ⟨sb,1,none⟩=some (.pointer (some ⟨rb,0,none⟩))/\w'.cell? ⟨sb,2,none⟩=some (.pointer (some ⟨lb,0,none⟩))):=fun w' h=>⟨(h.cell (World.block_lt_of_cell? wb _ S1.c1)).trans S1.c1,(h.cell (World.block_lt_of_cell? wb _ S1.c2)).trans S1.c2⟩
 have HG1:Hid (∀ w',Below wb.heap.size wb w'->GridAt w' M W H V bl):=fun w' hb=>g1.below hb hz1
 have HS1:Hid (∀ w',Below wb.heap.size wb w'->SvAt w' lo hi sb rb pb mb lb tb gb N x W H V V2 bl most):=fun w' hb=>S1.below hb
 clear hgg S0 S1 k7 f7 g1 q1 hb1 S c7 z7 hz1
 have HST:Hid (∀ w9,Below wb.heap.size wb w9->(((((((w9.setCell ⟨w.heap.size,0,none⟩ (.int .i64 wh)).setCell ⟨w.heap.size,1,none⟩ (.int .i64 fr)).setCell ⟨w.heap.size,2,none⟩ (.int .i64 (nd:Int))).setCell ⟨w.heap.size,3,none⟩ (.int .i64 ed)).setCell ⟨w.heap.size,4,none⟩ (.int .i64 ad)).setCell ⟨w.heap.size,5,none⟩ (.int .i64 tp)).setCell ⟨w.heap.size,6,none⟩ (.int .i64 V)).cell? ⟨sb,1,none⟩=some (.pointer (some ⟨rb,0,none⟩))/\(((((((w9.setCell ⟨w.heap.size,0,none⟩ (.int .i64 wh)).setCell ⟨w.heap.size,1,none⟩ (.int .i64 fr)).setCell ⟨w.heap.size,2,none⟩ (.int .i64 (nd:Int))).setCell ⟨w.heap.size,3,none⟩ (.int .i64 ed)).setCell ⟨w.heap.size,4,none⟩ (.int .i64 ad)).setCell ⟨w.heap.size,5,none⟩ (.int .i64 tp)).setCell ⟨w.heap.size,6,none⟩ (.int .i64 V)).cell? ⟨sb,2,none⟩=some (.pointer (some ⟨lb,0,none⟩))):=fun w9 hb=>⟨(st7_keep w9 w.heap.size (.int .i64 wh) (.int .i64 fr) (.int .i64 (nd:Int)) (.int .i64 ed) (.int .i64 ad) (.int .i64 tp) (.int .i64 V)).cellOf (CC.out _ hb).1 (Nat.ne_of_lt hsbl),(st7_keep w9 w.heap.size (.int .i64 wh) (.int .i64 fr) (.int .i64 (nd:Int)) (.int .i64 ed) (.int .i64 ad) (.int .i64 tp) (.int .i64 V)).cellOf (CC.out _ hb).2 (Nat.ne_of_lt hsbl)⟩
 go_wp2_with fail
 have eC:Below wb.heap.size wb wb.drew:=(Below.refl _ _).drew
 go_region_held3 (fun w'=>w'.cell? ⟨sb,1,none⟩=some (.pointer (some ⟨rb,0,none⟩))/\w'.cell? ⟨sb,2,none⟩=some (.pointer (some ⟨lb,0,none⟩))) (first|with_reducible exact CC.out _ eC|with_reducible exact HST.out _ eC)
  (first
   |(go_at_call 53;refine (H53.out _ _ (HG1.out _ eC)).mono ?_;rintro r w3 ⟨rfl,hb3⟩;have eC:=eC.trans (hb3.mono eC.size))
   |(go_at_call 54;refine (H54.out _ _ (HG1.out _ eC)).mono ?_;rintro r w4 ⟨rfl,hb4⟩;have eC:=eC.trans (hb4.mono eC.size))
   |(go_at_call 55;refine (H55.out _ (HS1.out _ eC)).mono ?_;rintro r w5 ⟨A5,cap5,rfl,hb5⟩;have eC:=eC.trans (hb5.mono eC.size))
   |(go_at_call 56;refine (H56.out _ (HS1.out _ eC)).mono ?_;rintro r w6 ⟨rfl,hb6⟩;have eC:=eC.trans (hb6.mono eC.size))
   |(go_at_call 57;refine (H57.out _ (HS1.out _ eC)).mono ?_;rintro r w7 ⟨rfl,hb7⟩;have eC:=eC.trans (hb7.mono eC.size))
   |(go_at_call 58;refine (H58.out _ (HS1.out _ eC)).mono ?_;rintro r w8 ⟨rfl,hb8⟩;have eC:=eC.trans (hb8.mono eC.size))
   |(go_at_call 59;refine (H59.out _ _ (HG1.out _ eC)).mono ?_;rintro r w9 ⟨rfl,hb9⟩;have eC:=eC.trans (hb9.mono eC.size);have x0:=(HC7.out _ eC 0 (by decide)).1;have y0:=(HC7.out _ eC 0 (by decide)).2;have x1:=(HC7.out _ eC 1 (by decide)).1;have y1:=(HC7.out _ eC 1 (by decide)).2;have x2:=(HC7.out _ eC 2 (by decide)).1;have y2:=(HC7.out _ eC 2 (by decide)).2;have x3:=(HC7.out _ eC 3 (by decide)).1;have y3:=(HC7.out _ eC 3 (by decide)).2;have x4:=(HC7.out _ eC 4 (by decide)).1;have y4:=(HC7.out _ eC 4 (by decide)).2;have x5:=(HC7.out _ eC 5 (by decide)).1;have y5:=(HC7.out _ eC 5 (by decide)).2;have x6:=(HC7.out _ eC 6 (by decide)).1;have y6:=(HC7.out _ eC 6 (by decide)).2))
 go_wp2
 have r:=st7_at (fun o ho=>(HC7.out _ eC o ho).1) (.int .i64 wh) (.int .i64 fr) (.int .i64 (nd:Int)) (.int .i64 ed) (.int .i64 ad) (.int .i64 tp) (.int .i64 V)
 obtain ⟨r0,r1,r2,r3,r4,r5,r6⟩:=r
 unfold st7 at r0 r1 r2 r3 r4 r5 r6
 refine bodyPost_ret (v:=.agg #[.int .i64 wh,.int .i64 fr,.int .i64 (nd:Int),.int .i64 ed,.int .i64 ad,.int .i64 tp,.int .i64 V]) (by simp [results,Tryz.results25,go_sem,r0,r1,r2,r3,r4,r5,r6]) rfl ⟨rfl,?_⟩
 have BF:=B1.trans (eC.mono B1.size)
 exact ((((((BF.setCell (p:=⟨w.heap.size,0,none⟩) (Nat.le_refl _) _).setCell (p:=⟨w.heap.size,1,none⟩) (Nat.le_refl _) _).setCell (p:=⟨w.heap.size,2,none⟩) (Nat.le_refl _) _).setCell (p:=⟨w.heap.size,3,none⟩) (Nat.le_refl _) _).setCell (p:=⟨w.heap.size,4,none⟩) (Nat.le_refl _) _).setCell (p:=⟨w.heap.size,5,none⟩) (Nat.le_refl _) _).setCell (p:=⟨w.heap.size,6,none⟩) (Nat.le_refl _) _
end
section
open Go.RowKit Go.Lib
end
section
open Go.RowKit Go.Lib
set_option maxHeartbeats 1000000 in
theorem save_any {lo hi sb most W H:Nat}{V:Int}{bl:Nat->Bool}(w:World)(E:Env w)(h8:8<=w.heap.size)(S:Sv w lo hi sb W H V bl most) :
  Calls Tryz.prog 24 #[.pointer (some ⟨sb,0,none⟩)] w fun e w'=>e=.returned (.string (str (printL bl W H)))/\Below w.heap.size w w':=by
 obtain ⟨rb,pb,mb,lb,tb,gb,N,x,V2,S⟩:=S
 have q1:=S.c1
 have hgg:=ggrid_any _ S.gr
 go_enter Tryz.func24,Tryz.ntmps24
 go_wp2_with fail
 refine hgg.mono ?_
 rintro e wb ⟨rfl,hb1,hz1,g1,_⟩
 have hp:=print_any wb (E.below hb1 h8) g1 hz1
 go_wp2_with fail
 refine hp.mono ?_
 rintro e wc ⟨rfl,hb2⟩
 go_wp2
 go_ret
 exact ⟨rfl,hb1.trans (hb2.mono hb1.size)⟩
end
section
open Go.RowKit Go.Lib
def AskP (W H:Int) (bl:Nat->Bool) (most:Nat) (a t:Int) (way:List Nat) (s d err:Int):Prop:=AnsR W H bl most a t way s d err/\Rt W H bl a t way s d err
theorem ask_ex {lo hi sb most:Nat}{W H V:Int}{bl:Nat->Bool}(a t:Int)(w:World)(S:Sv w lo hi sb W H V bl most)(d:DiagAt w):∃ way s d err,AskP W H bl most a t way s d err:=by
 obtain ⟨_,_,_,h,_⟩:=ask_rt a t w S d []
 obtain ⟨A,cap,way,s,d,err,_,_,_,hA,hR,_⟩:=h
 exact ⟨way,s,d,err,hA,hR⟩
theorem ask_fix {lo hi sb most:Nat}{W H V:Int}{bl:Nat->Bool}{a t:Int}{way:List Nat}{s d err:Int}(w:World)(P:AskP W H bl most a t way s d err)(S:Sv w lo hi sb W H V bl most)(dg:DiagAt w) :
  Calls Tryz.prog 18 #[.pointer (some ⟨sb,0,none⟩),.int .i64 a,.int .i64 t] w fun e w'=>∃ A cap,e=.returned (.agg #[.slice A way.length cap,.int .i64 s,.int .i64 d,.int .i64 err])/\w'.ownsRow w.heap.size 3 1 (.slice A way.length cap) way.length (vals way)/\OldRow w' A way.length (fun i=>((way.getD i 0:Nat):Int))/\Below w.heap.size w w':=by
 obtain ⟨w1,w2,h1,h2⟩:=S.side
 obtain ⟨m1,m6⟩:=S.mst
 refine (ask_rt a t w S dg).mono ?_
 rintro e w' ⟨A,cap,way',s',d',err',rfl,ho,hold,hA,_,hb⟩
 obtain ⟨rfl,rfl,rfl,rfl⟩:=AnsR.one w1 w2 h1 h2 m1 m6 hA P.1
 exact ⟨A,cap,rfl,ho,hold,hb⟩
theorem rowsL_eqv {W:Nat}{bl bl':Nat->Bool}:∀ {k:Nat},(∀ n,n<k*W->bl n=bl' n)->rowsL bl W k=rowsL bl' W k
 |0,_=>rfl
 |k+1,h=>by
  have e:(k+1)*W=k*W+W:=Nat.succ_mul k W
  unfold rowsL
  rw [rowsL_eqv (k:=k) (fun n hn=>h n (by omega))]
  have:rowL bl (k*W) W=rowL bl' (k*W) W:=by
   unfold rowL
   exact List.map_congr_left (fun x hx=>by rw [h _ (by have:=List.mem_range.1 hx;omega)])
  rw [this]
theorem printL_eqv {W H:Nat}{bl bl':Nat->Bool}(h:Eqv W H bl bl'):printL bl W H=printL bl' W H:=by
 unfold printL
 rw [rowsL_eqv (fun n hn=>h n ?_)]
 rw [Nat.mul_comm] at hn
 rw [<- Int.natCast_mul]
 exact Int.ofNat_lt.2 hn
end
end Go.Proofs.YtipbhlofbpnpjaaGreatDoor
