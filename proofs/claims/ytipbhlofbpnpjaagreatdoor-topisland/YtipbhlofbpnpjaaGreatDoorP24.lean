/-
  Texts laid together: Build, Num, Map, Head, EnvOf, Fr.
-/
import Derived.Test.YtipbhlofbpnpjaaGreatDoorP23
import Derived.Test.YtipbhlofbpnpjaaGreatDoorP1
import Derived.Test.YtipbhlofbpnpjaaGreatDoorP3
import Derived.Test.YtipbhlofbpnpjaaGreatDoorP9
import Derived.Lib.ItoaNum
import Derived.Lib.AtoiAllCases
import Derived.Lib.Strings
import GoSem.Op.String
import Derived.Lib.IndexMore
import Derived.Deep.MidRow
import Derived.Lib.AppendIntMem
import Derived.WalkSmall
import Derived.Test.YtipbhlofbpnpjaaGreatDoorRows
import Derived.ProofKit
import Derived.LaidMore
import Derived.OpenShut
import Derived.Stop.Joined
import Derived.Stop.LaidErr
import Derived.Lib.LaidTab
import Derived.Test.YtipbhlofbpnpjaaGreatDoorTie
import Derived.Test.YtipbhlofbpnpjaaGreatDoorCards
import Derived.ChangeMaps5
import Derived.SevenTiedAt
import Derived.Lib.SmallJoins
import Derived.Deep.Slices
namespace Go.Proofs.YtipbhlofbpnpjaaGreatDoor
section
open Go.RowKit
theorem sizeBuilder:(Tryz.prog.info? 162).map (·.size)=some 2:=by kernel_rfl
theorem liesBuilder:liesAt Tryz.prog Tryz.prog.depth 162 (2 / Tryz.prog.cellsOf 162) 0 162 1=true:=by kernel_rfl
theorem infoByte:(Tryz.prog.info? 5).map (fun i=>(i.zero,i.size,i.bytes))=some (some (.int .u8 0),1,1):=by kernel_rfl
set_option maxHeartbeats 1000000 in
set_option maxRecDepth 100000 in
theorem check_used (b:Nat)(w:World)(h0:w.cell? ⟨b,0,none⟩=some (.pointer (some ⟨b,0,none⟩))) :
  Calls Tryz.prog 134 #[.pointer (some ⟨b,0,none⟩)] w fun e w'=>e=.returned (.tuple #[])/\w'=w:=by
 obtain ⟨j,hj,_⟩:=Option.map_eq_some_iff.1 sizeBuilder
 have hn:=fun w=>Lib.run_neq_ptr_same w ⟨b,0,none⟩ Tryz.underlying160 hj
 go_enter Tryz.func134,Tryz.ntmps134
 go_wp2
 go_end0
 exact ⟨rfl,rfl⟩
set_option maxHeartbeats 1000000 in
set_option maxRecDepth 100000 in
theorem check_fresh (b:Nat)(w:World)(h0:w.cell? ⟨b,0,none⟩=some (.pointer none))(hsh:w.shape? b=some (162,2))(hfz:w.frozen? ⟨b,0,none⟩=false) :
  Calls Tryz.prog 134 #[.pointer (some ⟨b,0,none⟩)] w fun e w'=>e=.returned (.tuple #[])/\w'=w.setCell ⟨b,0,none⟩ (.pointer (some ⟨b,0,none⟩)):=by
 obtain ⟨j,hj,hjs⟩:=Option.map_eq_some_iff.1 sizeBuilder
 have h1:=Lib.run_to_unsafe w ⟨b,0,none⟩ Tryz.underlying160 Tryz.underlying241 hj (by rw [hjs];decide) hsh (Nat.zero_lt_succ 1)
 have h2:=Lib.run_from_unsafe w ⟨b,0,none⟩ Tryz.underlying241 Tryz.underlying160 hj hsh liesBuilder
 go_enter Tryz.func134,Tryz.ntmps134
 go_wp2
 rw [run_callFunc_extern Tryz.func172 (by kernel_rfl) (by kernel_rfl) (by kernel_rfl) (e:=Extern.AbiNoEscape.same) (by kernel_rfl)]
 rw [Lib.run_noEscape]
 simp only [Result.andThen]
 rw [Oper.upon_value]
 go_wp2
 go_end0
 exact ⟨rfl,rfl⟩
theorem bcheck_any (B b:Nat)(bs:List Value)(w:World)(h:Lib.IsBuilder 162 5 B b bs w) :
  Calls Tryz.prog 134 #[.pointer (some ⟨b,0,none⟩)] w fun e w'=>e=.returned (.tuple #[])/\Lib.BuilderAt 162 5 B b (.pointer (some ⟨b,0,none⟩)) bs w'/\Below B w w':=by
 rcases h with h|h
 ·exact (check_fresh b w h.cell0 h.shape h.frozen0).mono fun e w' ⟨he,hw⟩=>⟨he,by rw [hw];exact h.used _,by rw [hw];exact (Below.refl B w).setCell (p:=⟨b,0,none⟩) h.1 _⟩
 ·exact (check_used b w h.cell0).mono fun e w' ⟨he,hw⟩=>⟨he,by rw [hw];exact h,by rw [hw];exact Below.refl B w⟩
set_option maxHeartbeats 2000000 in
set_option maxRecDepth 100000 in
theorem writeByte (B b:Nat)(bs:List Value)(c:Int)(w:World)(h:Lib.IsBuilder 162 5 B b bs w)(hlen:bs.length+1<=1000000)(hBw:B<=w.heap.size) :
  Calls Tryz.prog 95 #[.pointer (some ⟨b,0,none⟩),.int .u8 c] w fun e w'=>e=.returned .nilIface/\Lib.IsBuilder 162 5 B b (bs++[.int .u8 c]) w'/\Below B w w':=by
 obtain ⟨i0,hi,hz⟩:=Option.map_eq_some_iff.1 infoByte
 simp only [Prod.mk.injEq] at hz
 obtain ⟨hz0,hz1,hz2⟩:=hz
 go_enter Tryz.func95,Tryz.ntmps95
 go_wp2_with (go_at_call 134;refine (bcheck_any B b bs _ h).mono ?_)
 rintro e w1 ⟨rfl,h1,hb1⟩
 obtain ⟨hB,v,hbk,hown,hne⟩:=h1
 obtain ⟨ao0,cap0,rfl⟩:∃ ao cap,v=.slice ao bs.length cap:=by
  rcases hown.2 with ⟨hv,h0⟩|⟨g,cap,cur,hv,_⟩
  ·exact ⟨none,0,by rw [hv,h0]⟩
  ·exact ⟨_,_,hv⟩
 have sz:=hb1.size
 have c0:w1.cell? ⟨b,0,none⟩=some (.pointer (some ⟨b,0,none⟩)):=by rw [Lib.cell_of_heap hbk];rfl
 have c1:w1.cell? ⟨b,1,none⟩=some (.slice ao0 bs.length cap0):=by rw [Lib.cell_of_heap hbk];rfl
 have hlt:b<w1.heap.size:=(Array.getElem?_eq_some_iff.1 hbk).1
 go_wp2_with (at_builtin;refine wpList_append_own _ rfl _ _ 158 rfl B 5 i0 (.int .u8 0) 1 1 Tryz.underlying158 hi hz0 hz1 hz2 rfl (by decide) _ _ _ rfl (hown.alloc _) ⟨w1.heap.size,0,none⟩ 1 1 [.int .u8 c] rfl rfl ?c1 ?c2 ?c3 ?c4 ?c5 ?_)
 case c1=>exact cell_one_new _ _ _
 case c2=>intro u hu;simp at hu;subst hu;rfl
 case c3=>unfold maxLen;omega
 case c4=>omega
 case c5=>simp;omega
 intro v' w2 hown' hgrow _
 have hb2:w2.heap[b]? = some (.cells #[.pointer (some ⟨b,0,none⟩),.slice ao0 bs.length cap0] 162 (0,0)):=by
  rw [hgrow.block b (by simp;omega) (fun e=>hne e.symm),Lib.alloc_old w1 _ b hlt]
  exact hbk
 have d0:w2.cell? ⟨b,0,none⟩=some (.pointer (some ⟨b,0,none⟩)):=by rw [Lib.cell_of_heap hb2];rfl
 have d1:w2.cell? ⟨b,1,none⟩=some (.slice ao0 bs.length cap0):=by rw [Lib.cell_of_heap hb2];rfl
 have f1:w2.frozen? ⟨b,1,none⟩=false:=Lib.frozen_of_heap hb2 1
 obtain ⟨g,cap,rfl⟩:∃ g cap,v'=.slice (some ⟨g,0,none⟩) (bs.length+1) cap:=by
  rcases hown'.2 with ⟨_,h0⟩|⟨g,cap,cur,hv,_⟩
  ·omega
  ·exact ⟨g,cap,hv⟩
 go_wp2
 go_ret
 refine ⟨rfl,.inr (Lib.BuilderAt.put (T:=162) (e:=5) hB hb2 (bs':=bs++[.int .u8 c]) (by simpa using hown') (by decide)),?_⟩
 exact ((hb1.alloc (by omega) _).grown hgrow (by simp;omega) (fun k hk=>(hown.lt k hk).1)).setCell (p:=⟨b,1,none⟩) hB _
set_option maxHeartbeats 2000000 in
set_option maxRecDepth 100000 in
theorem writeString (B b:Nat)(bs:List Value)(s:ByteArray)(w:World)(h:Lib.IsBuilder 162 5 B b bs w)(hlen:bs.length+s.size<=1000000)(hBw:B<=w.heap.size) :
  Calls Tryz.prog 94 #[.pointer (some ⟨b,0,none⟩),.string s] w fun e w'=>e=.returned (.tuple #[.int .i64 s.size,.nilIface])/\Lib.IsBuilder 162 5 B b (bs++Lib.strCells s) w'/\Below B w w':=by
 obtain ⟨i0,hi,hz⟩:=Option.map_eq_some_iff.1 infoByte
 simp only [Prod.mk.injEq] at hz
 obtain ⟨hz0,hz1,hz2⟩:=hz
 go_enter Tryz.func94,Tryz.ntmps94
 go_wp2_with (go_at_call 134;refine (bcheck_any B b bs _ h).mono ?_)
 rintro e w1 ⟨rfl,h1,hb1⟩
 obtain ⟨hB,v,hbk,hown,hne⟩:=h1
 obtain ⟨ao0,cap0,rfl⟩:∃ ao cap,v=.slice ao bs.length cap:=by
  rcases hown.2 with ⟨hv,h0⟩|⟨g,cap,cur,hv,_⟩
  ·exact ⟨none,0,by rw [hv,h0]⟩
  ·exact ⟨_,_,hv⟩
 have sz:=hb1.size
 have c0:w1.cell? ⟨b,0,none⟩=some (.pointer (some ⟨b,0,none⟩)):=by rw [Lib.cell_of_heap hbk];rfl
 have c1:w1.cell? ⟨b,1,none⟩=some (.slice ao0 bs.length cap0):=by rw [Lib.cell_of_heap hbk];rfl
 have hlt:b<w1.heap.size:=(Array.getElem?_eq_some_iff.1 hbk).1
 go_wp2_with (at_builtin;refine Lib.wpList_append_own_string _ rfl _ _ 158 9 rfl B 5 i0 Tryz.underlying158 Tryz.underlying9 hi hz0 hz1 hz2 _ _ _ rfl hown s rfl ?c3 ?c4 ?c5 ?_)
 case c3=>unfold maxLen;omega
 case c4=>omega
 case c5=>omega
 intro v' w2 hown' hgrow _
 have hb2:w2.heap[b]? = some (.cells #[.pointer (some ⟨b,0,none⟩),.slice ao0 bs.length cap0] 162 (0,0)):=by
  rw [hgrow.block b hlt (fun e=>hne e.symm)]
  exact hbk
 have d0:w2.cell? ⟨b,0,none⟩=some (.pointer (some ⟨b,0,none⟩)):=by rw [Lib.cell_of_heap hb2];rfl
 have d1:w2.cell? ⟨b,1,none⟩=some (.slice ao0 bs.length cap0):=by rw [Lib.cell_of_heap hb2];rfl
 have f1:w2.frozen? ⟨b,1,none⟩=false:=Lib.frozen_of_heap hb2 1
 obtain ⟨ao,n',cap,rfl⟩:∃ ao n' cap,v'=.slice ao n' cap:=by
  rcases hown'.2 with ⟨hv,_⟩|⟨g,cap,cur,hv,_⟩
  ·exact ⟨_,_,_,hv⟩
  ·exact ⟨_,_,_,hv⟩
 go_wp2
 go_ret2
 refine ⟨rfl,.inr (Lib.BuilderAt.put (T:=162) (e:=5) hB hb2 (bs':=bs++Lib.strCells s) (by simpa [Lib.strCells_length] using hown') (by decide)),?_⟩
 exact (hb1.grown hgrow (by omega) (fun k hk=>(hown.lt k hk).1)).setCell (p:=⟨b,1,none⟩) hB _
end
section
open Go.Lib
theorem parse_snoc (c:UInt8):∀ (l:List UInt8) (acc:Nat),parseUint10 acc (l++[c])=match parseUint10 acc l with|.ok u=>parseUint10 u [c]|.syntax=>.syntax|.range=>.range
 |[],_=>rfl
 |d::r,acc=>by
  simp only [List.cons_append,parseUint10]
  split
  ·split
   ·rfl
   ·split
    ·rfl
    ·exact parse_snoc c r _
  ·rfl
theorem ofNat_dig {n:Nat}(h:n<10):(UInt8.ofNat (48+n)).toNat=48+n:=by
 rw [UInt8.toNat_ofNat']
 omega
theorem dec_big {n:Nat}(h:¬ n<10):decDigits n=decDigits (n / 10)++[UInt8.ofNat (48+n % 10)]:=by
 conv=>lhs;rw [decDigits,dif_neg h]
theorem parse_dec (n:Nat)(h:n<18446744073709551616):parseUint10 0 (decDigits n)=.ok n:=by
 induction n using Nat.strongRecOn with
 |_ n ih =>
  by_cases h10:n<10
  ·rw [decDigits_one h10]
   simp only [parseUint10,ofNat_dig h10]
   rw [if_pos (by omega),if_neg (by omega),if_neg (by omega)]
   congr 1
   omega
  ·rw [dec_big h10,parse_snoc,ih (n / 10) (by omega) (by omega)]
   have h2:n % 10<10:=by omega
   simp only [parseUint10,ofNat_dig h2]
   rw [if_pos (by omega),if_neg (by omega),if_neg (by omega)]
   congr 1
   omega
def isD (c:UInt8):Prop:=48<=c.toNat/\c.toNat<=57
theorem dec_dig (n:Nat):∀ c ∈ decDigits n,isD c:=by
 induction n using Nat.strongRecOn with
 |_ n ih =>
  intro c hc
  by_cases h10:n<10
  ·rw [decDigits_one h10] at hc
   have:=List.mem_singleton.1 hc
   subst this
   unfold isD
   rw [ofNat_dig h10]
   omega
  ·rw [dec_big h10] at hc
   rcases List.mem_append.1 hc with h|h
   ·exact ih _ (by omega) c h
   ·have:=List.mem_singleton.1 h
    subst this
    unfold isD
    rw [ofNat_dig (by omega)]
    omega
theorem dec_ne (n:Nat):decDigits n≠[]:=by
 intro h
 have:=decDigits_length n
 rw [h] at this
 have:=nDigits_pos n
 simp at *
 omega
theorem dec_cons (n:Nat):∃ c r,decDigits n=c::r/\isD c:=by
 cases h:decDigits n with
 |nil=>exact absurd h (dec_ne n)
 |cons c r=>exact ⟨c,r,rfl,dec_dig n c (by rw [h];exact List.mem_cons_self)⟩
theorem atoi_itoa (v:Int)(h0:-9223372036854775808<=v)(h1:v<=9223372036854775807):atoiAll (itoa v)=.ok v:=by
 unfold itoa
 by_cases hv:v<0
 ·rw [if_pos hv]
  have hp:parseMag (decDigits v.natAbs)=.ok v.natAbs:=by
   unfold parseMag
   rw [if_neg (dec_ne _),parse_dec _ (by omega)]
  simp only [atoiAll]
  have e45:(45:UInt8).toNat=45:=rfl
  rw [e45,if_pos (Or.inr rfl),hp]
  simp only [not_true,false_and,if_false,true_and,if_true]
  rw [if_neg (by omega)]
  congr 1
  omega
 ·rw [if_neg hv]
  obtain ⟨c,r,hc,hd⟩:=dec_cons v.toNat
  have hp:parseMag (decDigits v.toNat)=.ok v.toNat:=by
   unfold parseMag
   rw [if_neg (dec_ne _),parse_dec _ (by omega)]
  rw [hc] at hp ⊢
  unfold isD at hd
  simp only [atoiAll]
  have e1:¬ (c.toNat=43\/c.toNat=45):=by omega
  have e2:¬ c.toNat=45:=by omega
  rw [if_neg e1,hp]
  simp only [e2,not_false_eq_true,true_and,false_and,if_false]
  rw [if_neg (by omega)]
  congr 1
  omega
theorem trim_app (w x:List UInt8):trimPrefix (w++x) w=x:=by
 unfold trimPrefix hasPrefix
 rw [if_pos (by rw [List.isPrefixOf_iff_prefix];exact List.prefix_append _ _)]
 simp
def numOf (s word:List UInt8):Option Int :=
 match atoiAll (trimPrefix s word) with
 |.ok v=>if s=word++itoa v then some v else none
 |_=>none
theorem numOf_iff {s word:List UInt8}{v:Int}:numOf s word=some v↔(s=word++itoa v/\-9223372036854775808<=v/\v<=9223372036854775807):=by
 unfold numOf
 constructor
 ·intro h
  split at h
  ·rename_i u hu
   split at h
   ·rename_i he
    have:u=v:=by simpa using h
    subst this
    exact ⟨he,atoiAll_bounds hu⟩
   ·cases h
  ·cases h
 ·rintro ⟨rfl,h0,h1⟩
  rw [trim_app,atoi_itoa v h0 h1]
  simp
def dvalF (acc:Nat) (l:List UInt8):Nat:=l.foldl (fun a c=>a*10+(c.toNat - 48)) acc
theorem dvalF_nil (acc:Nat):dvalF acc []=acc:=List.foldl_nil
theorem dvalF_cons (acc:Nat)(c:UInt8)(r:List UInt8):dvalF acc (c::r)=dvalF (acc*10+(c.toNat - 48)) r:=List.foldl_cons
theorem dvalF_snoc (c:UInt8)(l:List UInt8)(acc:Nat):dvalF acc (l++[c])=dvalF acc l*10+(c.toNat - 48):=by
 unfold dvalF
 rw [List.foldl_append,List.foldl_cons,List.foldl_nil]
theorem dvalF_acc:∀ (l:List UInt8) (acc:Nat),dvalF acc l=acc*10 ^ l.length+dvalF 0 l
 |[],acc=>by simp [dvalF_nil]
 |c::r,acc=>by
  simp only [dvalF_cons,List.length_cons]
  rw [dvalF_acc r (acc*10+(c.toNat - 48)),dvalF_acc r (0*10+(c.toNat - 48)),Nat.pow_succ]
  generalize 10 ^ r.length=P
  rw [Nat.add_mul,Nat.zero_mul,Nat.zero_add,Nat.mul_comm P 10,Nat.mul_assoc]
  omega
theorem dval_ge (c:UInt8)(r:List UInt8)(h:49<=c.toNat):10 ^ r.length<=dvalF 0 (c::r):=by
 simp only [dvalF_cons]
 rw [dvalF_acc,Nat.zero_mul,Nat.zero_add]
 generalize 10 ^ r.length=P
 have:1*P<=(c.toNat - 48)*P:=Nat.mul_le_mul_right _ (by omega)
 omega
theorem dval_dec (n:Nat):dvalF 0 (decDigits n)=n:=by
 induction n using Nat.strongRecOn with
 |_ n ih =>
  by_cases h10:n<10
  ·rw [decDigits_one h10]
   simp only [dvalF_cons,dvalF_nil,ofNat_dig h10]
   omega
  ·rw [dec_big h10,dvalF_snoc,ih _ (by omega),ofNat_dig (by omega)]
   omega
theorem dec_head:∀ (n:Nat),1<=n->∃ c r,decDigits n=c::r/\49<=c.toNat:=by
 intro n
 induction n using Nat.strongRecOn with
 |_ n ih =>
  intro h1
  by_cases h10:n<10
  ·exact ⟨_,_,decDigits_one h10,by rw [ofNat_dig h10];omega⟩
  ·obtain ⟨c,r,hc,hd⟩:=ih (n / 10) (by omega) (by omega)
   exact ⟨c,r++[UInt8.ofNat (48+n % 10)],by rw [dec_big h10,hc];rfl,hd⟩
end
section
open Go.Lib
def cutL:List UInt8->Option (List UInt8 × List UInt8)
 |[]=>none
 |c::r=>if c=10 then some ([],r) else match cutL r with|none=>none|some p=>some (c::p.1,p.2)
theorem cutL_some:∀ {s a b:List UInt8},cutL s=some (a,b)->s=a++10::b/\10 ∉ a
 |[],_,_,h=>by simp [cutL] at h
 |c::r,a,b,h=>by
  unfold cutL at h
  split at h
  ·rename_i hc
   simp at h
   obtain ⟨rfl,rfl⟩:=h
   simp [hc]
  ·rename_i hc
   split at h
   ·cases h
   ·rename_i p hp
    simp at h
    obtain ⟨rfl,rfl⟩:=h
    obtain ⟨e,hn⟩:=cutL_some (s:=r) (a:=p.1) (b:=p.2) hp
    refine ⟨by rw [List.cons_append,<- e],?_⟩
    simp only [List.mem_cons,not_or]
    exact ⟨fun h=>hc h.symm,hn⟩
theorem cutL_mk (b:List UInt8):∀ (a:List UInt8),10 ∉ a->cutL (a++10::b)=some (a,b)
 |[],_=>by simp [cutL]
 |c::r,h=>by
  simp only [List.mem_cons,not_or] at h
  rw [List.cons_append]
  unfold cutL
  rw [if_neg (fun e=>h.1 e.symm),cutL_mk b r h.2]
def typeW:List UInt8:=[116,121,112,101,32,111,99,116,105,108,101]
def heightW:List UInt8:=[104,101,105,103,104,116,32]
def widthW:List UInt8:=[119,105,100,116,104,32]
def mapW:List UInt8:=[109,97,112]
def cellB (c:UInt8):Option Bool :=
 if c=46\/c=71\/c=83 then some false else if c=64\/c=79\/c=84\/c=87 then some true else none
def rowB:List UInt8->Option (List Bool)
 |[]=>some []
 |c::r=>match cellB c with
  |none=>none
  |some b=>match rowB r with
   |none=>none
   |some l=>some (b::l)
def rowsB (w:Nat):Nat->List UInt8->Option (List Bool)
 |0,r=>if r=[] then some [] else none
 |k+1,r=>match cutL r with
  |none=>none
  |some p=>if p.1.length=w then (match rowB p.1 with
   |none=>none
   |some a=>match rowsB w k p.2 with
    |none=>none
    |some l=>some (a++l)) else none
theorem rowB_len:∀ {l:List UInt8}{a:List Bool},rowB l=some a->a.length=l.length
 |[],a,h=>by simp [rowB] at h;subst h;rfl
 |c::r,a,h=>by
  unfold rowB at h
  split at h
  ·cases h
  ·split at h
   ·cases h
   ·rename_i b _ l hl
    simp at h
    subst h
    simp [rowB_len hl]
inductive Read where
 |bad (n:Nat)
 |good (W H:Nat) (cs:List Bool)
def cut4 (s:List UInt8):Option (List UInt8 × List UInt8 × List UInt8 × List UInt8 × List UInt8) :=
 match cutL s with
 |none=>none
 |some (a,s1)=>match cutL s1 with
  |none=>none
  |some (b,s2)=>match cutL s2 with
   |none=>none
   |some (c,s3)=>match cutL s3 with
    |none=>none
    |some (d,s4)=>some (a,b,c,d,s4)
def sizeOf4 (a b c d:List UInt8):Option (Int × Int) :=
 match numOf b heightW with
 |none=>none
 |some h=>match numOf c widthW with
  |none=>none
  |some w=>if a=typeW/\d=mapW then some (w,h) else none
def sideN (n:Int):Bool:=decide (1<=n/\n<=16)
def readOf (s:List UInt8):Read :=
 if 1000<s.length then .bad 2 else match cut4 s with
 |none=>.bad 3
 |some (a,b,c,d,r)=>match sizeOf4 a b c d with
  |none=>.bad 3
  |some (w,h)=>if sideN w=true/\sideN h=true then (match rowsB w.toNat h.toNat r with
   |none=>.bad 3
   |some cs=>.good w.toNat h.toNat cs) else .bad 1
def byteL (b:Bool):UInt8:=if b then 64 else 46
def rowL (bl:Nat->Bool) (c w:Nat):List UInt8:=(List.range w).map fun x=>byteL (bl (c+x))
def rowsL (bl:Nat->Bool) (w:Nat):Nat->List UInt8
 |0=>[]
 |k+1=>rowsL bl w k++(rowL bl (k*w) w++[10])
def headL (w h:Int):List UInt8:=typeW++([10]++((heightW++itoa h)++([10]++((widthW++itoa w)++([10]++(mapW++[10]))))))
def printL (bl:Nat->Bool) (w h:Nat):List UInt8:=headL w h++rowsL bl w h
theorem byteL_ne (b:Bool):byteL b≠10:=by cases b <;> decide
theorem cellB_byteL (b:Bool):cellB (byteL b)=some b:=by cases b <;> decide
theorem rowB_map (f:Nat->Bool):∀ (l:List Nat),rowB (l.map fun x=>byteL (f x))=some (l.map f)
 |[]=>rfl
 |x::l=>by
  simp only [List.map_cons,rowB,cellB_byteL,rowB_map f l]
theorem rowL_nl (bl:Nat->Bool)(c w:Nat):10 ∉ rowL bl c w:=by
 unfold rowL
 intro h
 obtain ⟨x,_,hx⟩:=List.mem_map.1 h
 exact byteL_ne _ hx
theorem rowL_len (bl:Nat->Bool)(c w:Nat):(rowL bl c w).length=w:=by simp [rowL]
def rowsFrom (bl:Nat->Bool) (w:Nat):Nat->Nat->List UInt8
 |0,_=>[]
 |k+1,j=>rowL bl (j*w) w++10::rowsFrom bl w k (j+1)
theorem rowsFrom_snoc (bl:Nat->Bool)(w:Nat):∀ (k j:Nat),rowsFrom bl w (k+1) j=rowsFrom bl w k j++(rowL bl ((j+k)*w) w++[10])
 |0,j=>by simp [rowsFrom]
 |k+1,j=>by
  rw [rowsFrom,rowsFrom_snoc bl w k (j+1),rowsFrom]
  rw [show j+1+k=j+(k+1) by omega]
  simp
theorem rowsL_from (bl:Nat->Bool)(w:Nat):∀ (k:Nat),rowsL bl w k=rowsFrom bl w k 0
 |0=>rfl
 |k+1=>by rw [rowsL,rowsFrom_snoc,rowsL_from bl w k,Nat.zero_add]
theorem range_at (c w:Nat)(bl:Nat->Bool)(n:Nat):(List.range w).map (fun x=>bl (c+x))++(List.range n).map (fun i=>bl (c+w+i))=(List.range (w+n)).map fun i=>bl (c+i):=by
 rw [List.range_add,List.map_append,List.map_map]
 congr 1
 refine List.map_congr_left fun i _=>?_
 simp [Nat.add_assoc]
theorem rowsB_from (bl:Nat->Bool)(w:Nat):∀ (k j:Nat),rowsB w k (rowsFrom bl w k j)=some ((List.range (k*w)).map fun i=>bl (j*w+i))
 |0,j=>by simp [rowsFrom,rowsB]
 |k+1,j=>by
  unfold rowsB rowsFrom
  rw [cutL_mk _ _ (rowL_nl _ _ _)]
  simp only
  rw [if_pos (rowL_len _ _ _)]
  have e:rowB (rowL bl (j*w) w)=some ((List.range w).map fun x=>bl (j*w+x)):=rowB_map _ _
  rw [e,rowsB_from bl w k (j+1)]
  simp only
  congr 1
  rw [Nat.succ_mul,Nat.succ_mul,Nat.add_comm (k*w) w,<- range_at (j*w) w bl (k*w)]
theorem itoa_nl (v:Int):10 ∉ itoa v:=by
 have hd:∀ n,10 ∉ decDigits n:=fun n h=>by
  have:=dec_dig n 10 h
  unfold isD at this
  simp at this
 unfold itoa
 split
 ·simp only [List.mem_cons,not_or]
  exact ⟨by decide,hd _⟩
 ·exact hd _
theorem itoa_len (v:Int)(h0:1<=v)(h1:v<=16):(itoa v).length<=2:=by
 unfold itoa
 rw [if_neg (by omega),decDigits_length]
 have:nDigits v.toNat<=2:=by
  by_cases h:v.toNat<10
  ·rw [nDigits_small h];omega
  ·rw [nDigits_big h,nDigits_small (by omega)];omega
 exact this
theorem rowsFrom_len (bl:Nat->Bool)(w:Nat):∀ (k j:Nat),(rowsFrom bl w k j).length=k*(w+1)
 |0,_=>by simp [rowsFrom]
 |k+1,j=>by
  rw [rowsFrom,List.length_append,List.length_cons,rowsFrom_len bl w k,rowL_len,Nat.succ_mul]
  omega
theorem print_len (bl:Nat->Bool)(w h:Nat)(w1:1<=w)(w2:w<=16)(h1:1<=h)(h2:h<=16):(printL bl w h).length<=1000:=by
 have a:=itoa_len w (by omega) (by omega)
 have b:=itoa_len h (by omega) (by omega)
 have c:h*(w+1)<=16*17:=Nat.mul_le_mul h2 (by omega)
 unfold printL headL
 rw [rowsL_from]
 simp only [List.length_append,rowsFrom_len]
 simp [typeW,heightW,widthW,mapW]
 omega
theorem head_cut (w h:Int)(r:List UInt8):cut4 (headL w h++r)=some (typeW,heightW++itoa h,widthW++itoa w,mapW,r):=by
 have n1:10 ∉ typeW:=by decide
 have n2:10 ∉ heightW++itoa h:=by
  rw [List.mem_append]
  exact fun hh=>hh.elim (by decide) (itoa_nl h)
 have n3:10 ∉ widthW++itoa w:=by
  rw [List.mem_append]
  exact fun hh=>hh.elim (by decide) (itoa_nl w)
 have n4:10 ∉ mapW:=by decide
 have e:headL w h++r=typeW++10::((heightW++itoa h)++10::((widthW++itoa w)++10::(mapW++10::r))):=by
  unfold headL
  simp
 unfold cut4
 rw [e,cutL_mk _ _ n1]
 simp only
 rw [cutL_mk _ _ n2]
 simp only
 rw [cutL_mk _ _ n3]
 simp only
 rw [cutL_mk _ _ n4]
theorem size_head (w h:Int)(w1:-9223372036854775808<=w)(w2:w<=9223372036854775807)(h1:-9223372036854775808<=h)(h2:h<=9223372036854775807):sizeOf4 typeW (heightW++itoa h) (widthW++itoa w) mapW=some (w,h):=by
 unfold sizeOf4
 rw [(numOf_iff (v:=h)).2 ⟨rfl,h1,h2⟩]
 simp only
 rw [(numOf_iff (v:=w)).2 ⟨rfl,w1,w2⟩]
 simp
theorem sizeOf4_some {a b c d:List UInt8}{w h:Int}(e:sizeOf4 a b c d=some (w,h)):a=typeW/\b=heightW++itoa h/\c=widthW++itoa w/\d=mapW/\numOf b heightW=some h/\numOf c widthW=some w:=by
 unfold sizeOf4 at e
 split at e
 ·cases e
 ·rename_i h' hh
  split at e
  ·cases e
  ·rename_i w' hw
   split at e
   ·rename_i hc
    simp at e
    obtain ⟨rfl,rfl⟩:=e
    exact ⟨hc.1,(numOf_iff.1 hh).1,(numOf_iff.1 hw).1,hc.2,hh,hw⟩
   ·cases e
theorem read_print (bl:Nat->Bool)(w h:Nat)(w1:1<=w)(w2:w<=16)(h1:1<=h)(h2:h<=16):readOf (printL bl w h)=.good w h ((List.range (h*w)).map bl):=by
 have hl:=print_len bl w h w1 w2 h1 h2
 unfold readOf
 rw [if_neg (by omega)]
 unfold printL
 rw [head_cut]
 simp only
 rw [size_head w h (by omega) (by omega) (by omega) (by omega)]
 simp only
 rw [if_pos ⟨decide_eq_true (by omega),decide_eq_true (by omega)⟩]
 rw [Int.toNat_natCast,Int.toNat_natCast,rowsL_from,rowsB_from]
 simp
end
section
open Go.RowKit
structure Env (w:World):Prop where
 es:∃ tp p,w.cell? ⟨3,0,none⟩=some (.iface tp p)
 er:∃ tp p,w.cell? ⟨4,0,none⟩=some (.iface tp p)
 tab : Lib.TabIs Tryz.prog w "internal/strconv.uint64pow10" .u64 Lib.pow10Tab
 z:8<=w.heap.size
theorem gPow : Tryz.prog.globalNamed "internal/strconv.uint64pow10" = some 5 := by kernel_rfl
theorem Env.below {B:Nat}{w w':World}(h:Env w)(hb:Below B w w')(hB:8<=B):Env w':=by
 obtain ⟨⟨t2,p2,h2⟩,⟨t3,p3,h3⟩,h4,h5⟩:=h
 refine ⟨⟨t2,p2,?_⟩,⟨t3,p3,?_⟩,?_,Nat.le_trans h5 hb.size⟩
 ·exact (hb.cell (p:=⟨3,0,none⟩) (by show 3<B;omega)).trans h2
 ·exact (hb.cell (p:=⟨4,0,none⟩) (by show 4<B;omega)).trans h3
 ·exact var?_below hb gPow (by omega) h4
theorem Env.grown {w w':World}(h:Env w)(hb:Below w.heap.size w w'):Env w':=h.below hb h.z
theorem itoa_len20 (v:Int)(h0:-9223372036854775808<=v)(h1:v<=9223372036854775807):(Lib.itoa v).length<=20:=by
 have key:∀ u:Nat,u<10 ^ 19->Lib.nDigits u<=19:=by
  intro u hu
  rcases Nat.lt_or_ge (Lib.nDigits u) 20 with h|h
  ·omega
  ·exfalso
   by_cases hz:1<=u
   ·obtain ⟨c,r,hc,hd⟩:=dec_head u hz
    have hl:=Lib.decDigits_length u
    have hg:=dval_ge c r hd
    rw [<- hc,dval_dec] at hg
    rw [hc] at hl
    simp at hl
    have:10 ^ 19<=10 ^ r.length:=Nat.pow_le_pow_right (by decide) (by omega)
    omega
   ·rw [Lib.nDigits_small (by omega)] at h
    omega
 unfold Lib.itoa
 split
 ·rw [List.length_cons,Lib.decDigits_length]
  have:=key v.natAbs (by omega)
  omega
 ·rw [Lib.decDigits_length]
  have:=key v.toNat (by omega)
  omega
theorem itoa_any (n:Int)(h0:-9223372036854775808<=n)(h1:n<=9223372036854775807)(w:World)(E:Env w) :
  Calls Tryz.prog 133 #[.int .i64 n] w fun e w'=>e=.returned (.string ⟨(Lib.itoa n).toArray⟩)/\Below w.heap.size w w' :=
 (Tryz.strconv_Itoa n h0 h1 w E.tab).mono fun _ _ ⟨he,k,os,hw⟩=>⟨he,by rw [hw];exact Lib.below_grow _ w (Nat.le_refl _) k os⟩
def str (l:List UInt8):ByteArray:=⟨l.toArray⟩
theorem str_size (l:List UInt8):(str l).size=l.length:=by
 rw [Lib.size_eq]
 rfl
theorem str_data (l:List UInt8):(str l).data.toList=l:=rfl
theorem str_append (a b:List UInt8):str a++str b=str (a++b):=by
 apply ByteArray.ext
 rw [ByteArray.data_append]
 simp [str]
def headV (w h:Int):Array Value:=#[.string (str typeW),.string (str heightW++str (Lib.itoa h)),.string (str widthW++str (Lib.itoa w)),.string (str mapW)]
theorem info60:(Tryz.prog.info? 150).map (·.size)=some 4:=by kernel_rfl
theorem results_arr {P:Program}{fn:Func}{p:Tmp}{ty:TypeId}(h:fn.results=#[.cell p ty])(tmps:Array Value)(w:World)(b:Nat)(cs:List Value)(d:TypeDesc)
  (hp:tmps.getD p undef=.pointer (some ⟨b,0,none⟩)) (hc:w.rangeAt b 0 cs) (hu:P.underlying ty=some d) (hd:d.isRow=true) (hi:(P.info? ty).map (·.size)=some cs.length) :
  (results fn tmps).run P w=.ok (.agg cs.toArray) w:=by
 have hp':tmps[p]?.getD undef=.pointer (some ⟨b,0,none⟩):=by simpa using hp
 simp [results,h,hp',asAddr,run_loadVar_mid w b 0 ty cs d hc hu hd hi]
theorem results_arr3 {P:Program}{fn:Func}{p u v:Tmp}{ty:TypeId}(h:fn.results=#[.cell p ty,.tmp u,.tmp v])(tmps:Array Value)(w:World)(b:Nat)(cs:List Value)(d:TypeDesc)
  (hp:tmps.getD p undef=.pointer (some ⟨b,0,none⟩)) (hc:w.rangeAt b 0 cs) (hu:P.underlying ty=some d) (hd:d.isRow=true) (hi:(P.info? ty).map (·.size)=some cs.length) :
  (results fn tmps).run P w=.ok (.tuple #[.agg cs.toArray,tmps.getD u undef,tmps.getD v undef]) w:=by
 have hp':tmps[p]?.getD undef=.pointer (some ⟨b,0,none⟩):=by simpa using hp
 simp [results,h,hp',asAddr,run_loadVar_mid w b 0 ty cs d hc hu hd hi]
theorem range4 (w:World)(b:Nat)(v0 v1 v2 v3:Value)(ht:w.there b 0 4) :
  ((((w.setCell ⟨b,0,none⟩ v0).setCell ⟨b,1,none⟩ v1).setCell ⟨b,2,none⟩ v2).setCell ⟨b,3,none⟩ v3).rangeAt b 0 [v0,v1,v2,v3] :=
 World.rangeAt_setCells_same w b 0 [v0,v1,v2,v3] ht
theorem there4 {w:World}{b:Nat}(hc:∀ j,j<4->∃ v,w.cell? ⟨b,j,none⟩=some v)(hf:∀ j,w.frozen? ⟨b,j,none⟩=false):w.there b 0 4:=fun j hj=>by
 rw [Nat.zero_add]
 obtain ⟨v,hv⟩:=hc j hj
 rw [hv]
 exact ⟨rfl,hf j⟩
theorem four_cells {b:Nat}{w:World}{v0 v1 v2 v3:Value}(h0:w.cell? ⟨b,0,none⟩=some v0)(h1:w.cell? ⟨b,1,none⟩=some v1)(h2:w.cell? ⟨b,2,none⟩=some v2)(h3:w.cell? ⟨b,3,none⟩=some v3):∀ j,j<4->∃ v,w.cell? ⟨b,j,none⟩=some v:=by
 intro j hj
 match j,hj with
 |0,_=>exact ⟨_,h0⟩
 |1,_=>exact ⟨_,h1⟩
 |2,_=>exact ⟨_,h2⟩
 |3,_=>exact ⟨_,h3⟩
theorem itoa_v {n:Int}{I:ByteArray}(hI:str (Lib.itoa n)=I)(h0:-9223372036854775808<=n)(h1:n<=9223372036854775807)(w:World)(E:Env w) :
  Calls Tryz.prog 133 #[.int .i64 n] w fun e w'=>e=.returned (.string I)/\Below w.heap.size w w':=by
 subst hI
 exact itoa_any n h0 h1 w E
set_option maxHeartbeats 1000000 in
set_option maxRecDepth 100000 in
theorem headOf_any (W H:Int)(a0:-9223372036854775808<=W)(a1:W<=9223372036854775807)(b0:-9223372036854775808<=H)(b1:H<=9223372036854775807)(w:World)(E:Env w) :
  Calls Tryz.prog 93 #[.int .i64 W,.int .i64 H] w fun e w'=>e=.returned (.agg (headV W H))/\Below w.heap.size w w':=by
 have l1:=itoa_len20 W a0 a1
 have l2:=itoa_len20 H b0 b1
 rw [<- str_size] at l1 l2
 unfold headV
 obtain ⟨IW,hW⟩:∃ I,str (Lib.itoa W)=I:=⟨_,rfl⟩
 obtain ⟨IH,hH⟩:∃ I,str (Lib.itoa H)=I:=⟨_,rfl⟩
 rw [hW] at l1 ⊢
 rw [hH] at l2 ⊢
 have HW:Hid (str (Lib.itoa W)=IW):=hW
 have HH:Hid (str (Lib.itoa H)=IH):=hH
 clear hW hH
 have hb0:Below w.heap.size w (w.alloc (.cells #[.string ⟨#[]⟩,.string ⟨#[]⟩,.string ⟨#[]⟩,.string ⟨#[]⟩] 150)):=(Below.refl _ _).alloc (Nat.le_refl _) _
 go_enter Tryz.func93,Tryz.ntmps93
 go_wp2_with (go_at_call 133;refine (itoa_v HH.out b0 b1 _ (E.grown hb0)).mono ?_)
 rintro e w1 ⟨rfl,hb1⟩
 have hb01:=hb0.trans (hb1.mono (by simp))
 go_wp2_with (go_at_call 133;refine (itoa_v HW.out a0 a1 _ (E.grown hb01)).mono ?_)
 rintro e w2 ⟨rfl,hb2⟩
 have s1:=hb1.size
 simp only [World.size_alloc] at s1
 have hc:∀ j:Nat,w2.cell? ⟨w.heap.size,j,none⟩=(w.alloc (.cells #[.string ⟨#[]⟩,.string ⟨#[]⟩,.string ⟨#[]⟩,.string ⟨#[]⟩] 150)).cell? ⟨w.heap.size,j,none⟩:=fun j =>
  (hb2.cell (p:=⟨w.heap.size,j,none⟩) (by show w.heap.size<_;omega)).trans (hb1.cell (p:=⟨w.heap.size,j,none⟩) (by simp))
 have hf:∀ j:Nat,w2.frozen? ⟨w.heap.size,j,none⟩=false:=fun j =>
  ((hb2.frozen (p:=⟨w.heap.size,j,none⟩) (by show w.heap.size<_;omega)).trans (hb1.frozen (p:=⟨w.heap.size,j,none⟩) (by simp))).trans (free_alloc w _ _ _ (Nat.le_refl _) j)
 have hbb:=hb01.trans (hb2.mono (by omega))
 have k0:w2.cell? ⟨w.heap.size,0,none⟩=some (.string ⟨#[]⟩):=by rw [hc,World.cell?_alloc_new];rfl
 have k1:w2.cell? ⟨w.heap.size,1,none⟩=some (.string ⟨#[]⟩):=by rw [hc,World.cell?_alloc_new];rfl
 have k2:w2.cell? ⟨w.heap.size,2,none⟩=some (.string ⟨#[]⟩):=by rw [hc,World.cell?_alloc_new];rfl
 have k3:w2.cell? ⟨w.heap.size,3,none⟩=some (.string ⟨#[]⟩):=by rw [hc,World.cell?_alloc_new];rfl
 have f0:=hf 0
 have f1:=hf 1
 have f2:=hf 2
 have f3:=hf 3
 have ht:=there4 (four_cells k0 k1 k2 k3) hf
 clear hc hf
 go_wp2
 refine bodyPost_ret (results_arr rfl _ _ w.heap.size _ _ rfl (range4 w2 w.heap.size _ _ _ _ ht) Tryz.underlying150 rfl info60) rfl ⟨rfl,?_⟩
 exact (((hbb.setCell (p:=⟨w.heap.size,0,none⟩) (Nat.le_refl _) _).setCell (p:=⟨w.heap.size,1,none⟩) (Nat.le_refl _) _).setCell (p:=⟨w.heap.size,2,none⟩) (Nat.le_refl _) _).setCell (p:=⟨w.heap.size,3,none⟩) (Nat.le_refl _) _
end
section
open Go.ChangeShapes Go.WideShapes Go.ChangeAt Go.RowKit
theorem gSyn : Tryz.prog.globalNamed "strconv.ErrSyntax" = some 3 := by kernel_rfl
theorem gSynT:(Tryz.prog.globals[3]?).map (·.type)=some 46:=by kernel_rfl
theorem gRng : Tryz.prog.globalNamed "strconv.ErrRange" = some 4 := by kernel_rfl
theorem gRngT:(Tryz.prog.globals[4]?).map (·.type)=some 46:=by kernel_rfl
theorem gPowT:(Tryz.prog.globals[5]?).map (·.type)=some 308:=by kernel_rfl
theorem gBru : Tryz.prog.globalNamed "math/bits.deBruijn64tab" = some 7 := by kernel_rfl
theorem star : "*" ++ "errors.errorString" = "*errors.errorString" := by decide
theorem row137 (u : TypeId) (h : Tryz.prog.typeName? 3 u = some "*errors.errorString") : u = 304 :=
 typeName_ptr_named (nm := "errors.errorString") (by rw [star]; kernel_rfl) (by kernel_rfl) (by decide) u (by rw [star]; exact h)
theorem cells139:Tryz.prog.cellsOf 306=1:=by kernel_rfl
theorem cells9':Tryz.prog.cellsOf 9=1:=by kernel_rfl
theorem cells129:Tryz.prog.cellsOf 308=20:=by kernel_rfl
theorem pow_tab:(Rows.laid_internal_strconv_uint64pow10:DataW Unit)=Lib.tabData .u64 Lib.pow10Tab:=by kernel_rfl
theorem lt_of_var {W:World}{n:String}{g:Nat}{cs:Array Value}(hg:Tryz.prog.globalNamed n=some g)(hv:W.var? Tryz.prog n=some cs):g<W.heap.size:=by
 rcases Nat.lt_or_ge g W.heap.size with h|h
 ·exact h
 ·exfalso
  unfold World.var? at hv
  simp [hg,Array.getElem?_eq_none h] at hv
theorem env_of {W : World} {r : List (String × DataW Unit)} (h : laidMet Tryz.prog (("math/bits.deBruijn32tab", Rows.laid_math_bits_deBruijn32tab) :: ("math/bits.deBruijn64tab", Rows.laid_math_bits_deBruijn64tab) :: ("internal/strconv.uint64pow10", Rows.laid_internal_strconv_uint64pow10) :: ("strconv.ErrRange", Rows.laid_strconv_ErrRange) :: ("strconv.ErrSyntax", Rows.laid_strconv_ErrSyntax) :: r) W) : Env W := by
 have h2:=h.tail
 have h3:=h2.tail
 have h4:=h3.tail
 have h5:=h4.tail
 have hz:7<W.heap.size:=by
  obtain ⟨ps,⟨g0,t0,cs0,f0,p0,q0,hg0,ht0,hv0,hd0,_,_⟩,_,_⟩:=h2
  exact lt_of_var gBru hv0
 rw [pow_tab] at h3
 have ht:=Lib.tabIs_of_head gPow gPowT Tryz.underlying308 Tryz.underlying276 (by kernel_rfl) cells129 h3
 obtain ⟨a0,s0,hv0,-,-,-⟩:=laid_sentinel (ti:=46) (tp:=304) (te:=306) (ts:=9) h4 gRng gRngT Tryz.underlying46 row137 Tryz.underlying304 Tryz.underlying306 rfl rfl Tryz.underlying9 cells139 cells9'
 obtain ⟨a1,s1,hv1,-,-,-⟩:=laid_sentinel (ti:=46) (tp:=304) (te:=306) (ts:=9) h5 gSyn gSynT Tryz.underlying46 row137 Tryz.underlying304 Tryz.underlying306 rfl rfl Tryz.underlying9 cells139 cells9'
 exact ⟨⟨_,_,by have h0:=World.var?_cell gSyn hv1 0;simpa using h0⟩,⟨_,_,by have h0:=World.var?_cell gRng hv0 0;simpa using h0⟩,ht,hz⟩
end
section
open Go.ChangeShapes Go.WideShapes Go.ChangeAt Go.RowKit Go.Joins
theorem Tryz.own:ownKnob Tryz.prog.godebug=none:=by kernel_rfl
theorem Tryz.laidOut:laidOutB Tryz.prog=true:=by kernel_rfl
theorem Tryz.cells24:Tryz.prog.cellsOf 24=3:=by kernel_rfl
theorem gSteps : Tryz.prog.globalNamed "fellrunner/grid.steps" = some 1 := by kernel_rfl
theorem tSteps:(Tryz.prog.globals[1]?).map (·.type)=some 253:=by kernel_rfl
theorem c252:Tryz.prog.cellsOf 252=2:=by kernel_rfl
theorem c3':Tryz.prog.cellsOf 3=1:=by kernel_rfl
theorem gDiag : Tryz.prog.globalNamed "fellrunner/reach.diagonalFirst" = some 0 := by kernel_rfl
theorem tDiag:(Tryz.prog.globals[0]?).map (·.type)=some 179:=by kernel_rfl
theorem c179:Tryz.prog.cellsOf 179=8:=by kernel_rfl
theorem lt_of_cell {w:World}{b o:Nat}{v:Value}(h:w.cell? ⟨b,o,none⟩=some v):b<w.heap.size:=World.block_lt_of_cell? w _ h
theorem steps_of {W : World} {r : List (String × DataW Unit)} (h : laidMet Tryz.prog (("fellrunner/grid.steps", Rows.laid_fellrunner_grid_steps) :: r) W) : StepsAt W := by
 obtain ⟨ps,⟨g0,t0,cs0,f0,p0,q0,hg0,ht0,hv0,hd0,_,_⟩,_,_⟩:=h
 obtain rfl:=Option.some.inj (gSteps.symm.trans hg0)
 obtain rfl:=Option.some.inj (tSteps.symm.trans ht0)
 obtain ⟨xs,m,_,hx1,hlen,hn,hel⟩:=DataW.trod_array Tryz.underlying253 hd0
 simp only [Prod.mk.injEq] at hx1
 have hxa:=hx1.1
 have key:∀ i,i<8->cs0.toList[2*i]? = some (.int .i64 (stepX i))/\cs0.toList[2*i+1]? = some (.int .i64 (stepY i)):=by
  intro i hi
  have h1:=hel i hi
  rw [c252] at h1
  have hxi:∃ p,xs[i]? = some (Lib.tabData .i64 [stepX i,stepY i],p):=by
   have hlt:i<xs.length:=by omega
   refine ⟨xs[i].2,?_⟩
   rw [List.getElem?_eq_getElem hlt]
   have e2:(xs.map (·.1))[i]? = some xs[i].1:=by rw [List.getElem?_map,List.getElem?_eq_getElem hlt];rfl
   simp only [Rows.laid_fellrunner_grid_steps,DataW.agg.injEq] at hxa
   rw [<- hxa] at e2
   have hks:i=0\/i=1\/i=2\/i=3\/i=4\/i=5\/i=6\/i=7:=by omega
   rcases hks with rfl|rfl|rfl|rfl|rfl|rfl|rfl|rfl <;>
    (simp at e2;exact congrArg some (Prod.ext e2.symm rfl))
  obtain ⟨p,hp⟩:=hxi
  rw [hp] at h1
  have h2:=Lib.cells_of_tab Tryz.underlying252 Tryz.underlying3 c3' c252 h1
  have a0:((cs0.toList.drop (i*2)).take 2)[0]? = cs0.toList[2*i]? := by
   rw [List.getElem?_take_of_lt (by decide),List.getElem?_drop];congr 1;omega
  have a1:((cs0.toList.drop (i*2)).take 2)[1]? = cs0.toList[2*i+1]? := by
   rw [List.getElem?_take_of_lt (by decide),List.getElem?_drop];congr 1;omega
  rw [h2] at a0 a1
  exact ⟨a0.symm,a1.symm⟩
 have cell:∀ i,W.cell? ⟨1,i,none⟩=cs0.toList[i]? := fun i=>by
  have:=World.var?_cell hg0 hv0 i
  rw [this];simp
 exact fun i hi=>⟨by rw [cell];exact (key i hi).1,by rw [cell];exact (key i hi).2⟩
theorem diag_of {W : World} {r : List (String × DataW Unit)} (h : laidMet Tryz.prog (("fellrunner/reach.diagonalFirst", Rows.laid_fellrunner_reach_diagonalFirst) :: r) W) : DiagAt W := by
 obtain ⟨ps,⟨g0,t0,cs0,f0,p0,q0,hg0,ht0,hv0,hd0,_,_⟩,_,_⟩:=h
 obtain rfl:=Option.some.inj (gDiag.symm.trans hg0)
 obtain rfl:=Option.some.inj (tDiag.symm.trans ht0)
 have hd1:DataW.trod (fun _=>()) Tryz.prog W 0 (fun _=>true) false f0 179 cs0.toList=some (Lib.tabData .i64 [1,3,5,7,0,2,4,6],p0):=hd0
 have h2:=Lib.cells_of_tab Tryz.underlying179 Tryz.underlying3 c3' c179 hd1
 intro i hi
 have:=World.var?_cell hg0 hv0 i
 rw [this]
 have e:cs0[i]? = cs0.toList[i]? := by simp
 rw [e,h2]
 have hks:i=0\/i=1\/i=2\/i=3\/i=4\/i=5\/i=6\/i=7:=by omega
 rcases hks with rfl|rfl|rfl|rfl|rfl|rfl|rfl|rfl <;> rfl
abbrev allLaid : List (String × DataW Unit) := [("math/bits.deBruijn32tab", Rows.laid_math_bits_deBruijn32tab), ("math/bits.deBruijn64tab", Rows.laid_math_bits_deBruijn64tab), ("internal/strconv.uint64pow10", Rows.laid_internal_strconv_uint64pow10), ("strconv.ErrRange", Rows.laid_strconv_ErrRange), ("strconv.ErrSyntax", Rows.laid_strconv_ErrSyntax), ("fellrunner/grid.steps", Rows.laid_fellrunner_grid_steps), ("fellrunner/reach.diagonalFirst", Rows.laid_fellrunner_reach_diagonalFirst)]
theorem all_of {W:World}(h:laidMetH Tryz.prog allLaid W):Env W/\StepsAt W/\DiagAt W:=by
 rw [MakeChecks.laidMetH_plain _ _ _ (by kernel_rfl)] at h
 have h5:=h.tail.tail.tail.tail.tail
 exact ⟨env_of h,steps_of h5,diag_of h5.tail⟩
theorem law_met (os:Os)(args:Array Value):laidMetH Tryz.prog allLaid ((World.doorLaid Tryz.prog 80 os).forCall (fun _ _=>0) ⟨#[],args,[]⟩).memory :=
 laidMetH_of_parts3 (fuel:=8) (laidMet_of_run' 8 (by kernel_rfl) (by kernel_rfl)) (by kernel_rfl) (by kernel_rfl)
theorem row_in {H:Type}{enc:TypeId × Value->H}{W:World}{sp:Nat->Bool}{held:Bool}{fuel:Nat}{c:Value}{x:DataW H × List MemPlace}(h:DataW.trod enc Tryz.prog W 0 sp held fuel 22 [c]=some x) :
  ∃ A n cap xs,c=.slice A n cap/\n<=maxLen/\OldRow W A n xs:=by
 rcases open_ints Tryz.underlying22 Tryz.underlying3 (by kernel_rfl) h with ⟨hcs,_⟩|⟨a,l,cap,zs,hcs,_,hl,hm,hz,_,hcell,_⟩
 ·simp at hcs
  exact ⟨none,0,0,fun _=>0,hcs,by unfold maxLen;omega,fun i hi=>absurd hi (Nat.not_lt_zero i)⟩
 ·simp at hcs
  refine ⟨some a,l,cap,fun i=>zs.getD i 0,hcs,Nat.le_trans hl hm,fun i hi=>?_⟩
  have hzl:i<zs.length:=by rw [hz];split <;> omega
  obtain ⟨b,off,rfl,hc⟩:=ints_at hcell (by omega)
  exact ⟨b,off,rfl,lt_of_cell (hc i hzl),hc i hzl⟩
theorem c36:Tryz.prog.cellsOf 36=2:=by kernel_rfl
def OldAsk (w:World) (A:Option Addr) (n:Nat) (fs ts:Nat->Int):Prop:=∀ i,i<n->∃ b o,A=some ⟨b,o,none⟩/\b<w.heap.size/\w.cell? ⟨b,o+i*2,none⟩=some (.int .i64 (fs i))/\w.cell? ⟨b,o+i*2+1,none⟩=some (.int .i64 (ts i))
theorem OldAsk.below {w w':World}{A:Option Addr}{n:Nat}{fs ts:Nat->Int}(h:OldAsk w A n fs ts)(hb:Below w.heap.size w w'):OldAsk w' A n fs ts:=fun i hi=>by
 obtain ⟨b,o,h1,h2,h3,h4⟩:=h i hi
 exact ⟨b,o,h1,Nat.lt_of_lt_of_le h2 hb.size,(hb.cell (p:=⟨b,o+i*2,none⟩) h2).trans h3,(hb.cell (p:=⟨b,o+i*2+1,none⟩) h2).trans h4⟩
def OldEd (w:World) (A:Option Addr) (n:Nat) (cs:Nat->Int) (bs:Nat->Bool):Prop:=∀ i,i<n->∃ b o,A=some ⟨b,o,none⟩/\b<w.heap.size/\w.cell? ⟨b,o+i*2,none⟩=some (.int .i64 (cs i))/\w.cell? ⟨b,o+i*2+1,none⟩=some (.bool (bs i))
theorem OldEd.below {w w':World}{A:Option Addr}{n:Nat}{cs:Nat->Int}{bs:Nat->Bool}(h:OldEd w A n cs bs)(hb:Below w.heap.size w w'):OldEd w' A n cs bs:=fun i hi=>by
 obtain ⟨b,o,h1,h2,h3,h4⟩:=h i hi
 exact ⟨b,o,h1,Nat.lt_of_lt_of_le h2 hb.size,(hb.cell (p:=⟨b,o+i*2,none⟩) h2).trans h3,(hb.cell (p:=⟨b,o+i*2+1,none⟩) h2).trans h4⟩
section
variable {H : Type} {enc : TypeId × Value → H} {W : World} {sp : Nat → Bool} {held : Bool}
theorem ask_in {fuel:Nat}{c1 c2:Value}{x:DataW H × List MemPlace}(h:DataW.trod enc Tryz.prog W 0 sp held fuel 36 [c1,c2]=some x):∃ s d,c1=.int .i64 s/\c2=.int .i64 d:=by
 obtain ⟨xs,n,_,_,_,hl,hf⟩:=DataW.trod_struct Tryz.underlying36 h
 have f0:DataW.trod enc Tryz.prog W 0 sp held n 3 (([c1,c2].drop 0).take (Tryz.prog.cellsOf 3))=xs[0]? := hf 0 _ rfl
 have f1:DataW.trod enc Tryz.prog W 0 sp held n 3 (([c1,c2].drop 1).take (Tryz.prog.cellsOf 3))=xs[1]? := hf 1 _ rfl
 have hl':xs.length=2:=hl
 rw [List.getElem?_eq_getElem (by omega),c3'] at f0 f1
 obtain ⟨s,e0,_⟩:=DataW.trod_int Tryz.underlying3 f0
 obtain ⟨d,e1,_⟩:=DataW.trod_int Tryz.underlying3 f1
 simp at e0 e1
 exact ⟨s,d,e0,e1⟩
theorem asks_in {fuel:Nat}{c:Value}{x:DataW H × List MemPlace}(h:DataW.trod enc Tryz.prog W 0 sp held fuel 25 [c]=some x) :
  ∃ A n cap fs ts,c=.slice A n cap/\n<=maxLen/\OldAsk W A n fs ts:=by
 rcases Go.Deep.open_slice Tryz.underlying25 h with ⟨hcs,_⟩|⟨a,len,cap,m,k,D,Pl,hcs,_,hl,hm,hmm,_,hx⟩
 ·simp at hcs
  exact ⟨none,0,0,fun _=>0,fun _=>0,hcs,by unfold maxLen;simp,fun i hi=>absurd hi (Nat.not_lt_zero i)⟩
 ·simp at hcs
  have hlm:len<=m:=by rw [hmm];split <;> omega
  rw [c36] at hx
  have hspot:0<len->a.spot=none:=by
   intro h0
   obtain ⟨cs',h1,_⟩:=hx 0 (by omega)
   obtain ⟨_,hlen,hc⟩:=World.cells?_some h1
   have g0:=hc 0 (by omega)
   rw [Go.Deep.add_add,List.getElem?_eq_getElem (by omega)] at g0
   simpa [Addr.add] using World.cell?_spot g0
  have key:∀ i,i<len->∃ y:Int × Int,∃ b o,a=⟨b,o,none⟩/\W.cell? ⟨b,o+i*2,none⟩=some (.int .i64 y.1)/\W.cell? ⟨b,o+i*2+1,none⟩=some (.int .i64 y.2):=by
   intro i hi
   obtain ⟨cs',h1,h2⟩:=hx i (by omega)
   obtain ⟨_,hlen,hc⟩:=World.cells?_some h1
   match cs',hlen with
   |[c0,c1],_ =>
    obtain ⟨y1,y2,rfl,rfl⟩:=ask_in h2
    have g0:=hc 0 (by omega)
    have g1:=hc 1 (by omega)
    rw [Go.Deep.add_add] at g0 g1
    simp at g0 g1
    have hs:=hspot (by omega)
    obtain ⟨b,o,spot⟩:=a
    simp only at hs
    subst hs
    rw [Go.WideShapes.add_plain] at g0 g1
    exact ⟨(y1,y2),b,o,rfl,g0,by rw [Nat.add_assoc];exact g1⟩
  obtain ⟨xs,hxs⟩:=@Go.Deep.choose_lt (Int × Int) ⟨(0,0)⟩ len _ key
  refine ⟨some a,len,cap,fun i=>(xs i).1,fun i=>(xs i).2,hcs,Nat.le_trans hl hm,fun i hi=>?_⟩
  obtain ⟨b,o,rfl,h0,h1⟩:=hxs i hi
  exact ⟨b,o,rfl,lt_of_cell h0,h0,h1⟩
end
end
end Go.Proofs.YtipbhlofbpnpjaaGreatDoor
