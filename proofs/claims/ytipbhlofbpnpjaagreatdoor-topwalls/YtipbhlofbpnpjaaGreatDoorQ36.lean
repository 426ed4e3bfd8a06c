/-
  Texts laid together: Build, Num, Map, Head.
-/
import Derived.Test.YtipbhlofbpnpjaaGreatDoorQ35
import Derived.Test.YtipbhlofbpnpjaaGreatDoorQ1
import Derived.Test.YtipbhlofbpnpjaaGreatDoorQ4
import Derived.Lib.ItoaNum
import Derived.Lib.AtoiAllCases
import Derived.Lib.Strings
import GoSem.Op.String
import Derived.Lib.IndexMore
import Derived.Deep.MidRow
import Derived.Lib.AppendIntMem
import Derived.WalkSmall
namespace Go.Proofs.YtipbhlofbpnpjaaGreatDoor
section
open Go.RowKit
end
section
open Go.Lib
theorem parse_snoc (c:UInt8):∀ (l:List UInt8) (acc:Nat),parseUint10 acc (l++[c])=match parseUint10 acc l with | .ok u=>parseUint10 u [c] | .syntax=>.syntax | .range=>.range
 | [],_=>rfl
 | d::r,acc=>by
   simp only [List.cons_append,parseUint10]
   split
   ·split
    ·rfl
    ·split
     ·rfl
     ·exact parse_snoc c r _
   ·rfl
theorem ofNat_dig {n:Nat}(h:n < 10):(UInt8.ofNat (48+n)).toNat=48+n:=by
 rw [UInt8.toNat_ofNat']
 omega
theorem dec_big {n:Nat}(h:¬ n < 10):decDigits n=decDigits (n / 10)++[UInt8.ofNat (48+n % 10)]:=by
 conv=>lhs;rw [decDigits,dif_neg h]
theorem parse_dec (n:Nat) (h:n < 18446744073709551616):parseUint10 0 (decDigits n)=.ok n:=by
 induction n using Nat.strongRecOn with
 | _ n ih =>
   by_cases h10:n < 10
   ·rw [decDigits_one h10]
    simp only [parseUint10,ofNat_dig h10]
    rw [if_pos (by omega),if_neg (by omega),if_neg (by omega)]
    congr 1
    omega
   ·rw [dec_big h10,parse_snoc,ih (n / 10) (by omega) (by omega)]
    have h2:n % 10 < 10:=by omega
    simp only [parseUint10,ofNat_dig h2]
    rw [if_pos (by omega),if_neg (by omega),if_neg (by omega)]
    congr 1
    omega
def isD (c:UInt8):Prop:=48<=c.toNat/\c.toNat<=57
theorem dec_dig (n:Nat):∀ c ∈ decDigits n,isD c:=by
 induction n using Nat.strongRecOn with
 | _ n ih =>
   intro c hc
   by_cases h10:n < 10
   ·rw [decDigits_one h10] at hc
    have:=List.mem_singleton.1 hc
    subst this
    unfold isD
    rw [ofNat_dig h10]
    omega
   ·rw [dec_big h10] at hc
    rcases List.mem_append.1 hc with h | h
    ·exact ih _ (by omega) c h
    ·have:=List.mem_singleton.1 h
     subst this
     unfold isD
     rw [ofNat_dig (by omega)]
     omega
theorem dec_ne (n:Nat):decDigits n≠[]:=by
 intro h
 have:=decDigits_length n
 rw [h] at this
 have:=nDigits_pos n
 simp at *
 omega
theorem dec_cons (n:Nat):∃ c r,decDigits n=c::r/\isD c:=by
 cases h:decDigits n with
 | nil=>exact absurd h (dec_ne n)
 | cons c r=>exact ⟨c,r,rfl,dec_dig n c (by rw [h];exact List.mem_cons_self)⟩
theorem atoi_itoa (v:Int) (h0:-9223372036854775808<=v) (h1:v<=9223372036854775807):atoiAll (itoa v)=.ok v:=by
 unfold itoa
 by_cases hv:v < 0
 ·rw [if_pos hv]
  have hp:parseMag (decDigits v.natAbs)=.ok v.natAbs:=by
   unfold parseMag
   rw [if_neg (dec_ne _),parse_dec _ (by omega)]
  simp only [atoiAll]
  have e45:(45:UInt8).toNat=45:=rfl
  rw [e45,if_pos (Or.inr rfl),hp]
  simp only [not_true,false_and,if_false,true_and,if_true]
  rw [if_neg (by omega)]
  congr 1
  omega
 ·rw [if_neg hv]
  obtain ⟨c,r,hc,hd⟩:=dec_cons v.toNat
  have hp:parseMag (decDigits v.toNat)=.ok v.toNat:=by
   unfold parseMag
   rw [if_neg (dec_ne _),parse_dec _ (by omega)]
  rw [hc] at hp ⊢
  unfold isD at hd
  simp only [atoiAll]
  have e1:¬ (c.toNat=43\/c.toNat=45):=by omega
  have e2:¬ c.toNat=45:=by omega
  rw [if_neg e1,hp]
  simp only [e2,not_false_eq_true,true_and,false_and,if_false]
  rw [if_neg (by omega)]
  congr 1
  omega
theorem trim_app (w x:List UInt8):trimPrefix (w++x) w=x:=by
 unfold trimPrefix hasPrefix
 rw [if_pos (by rw [List.isPrefixOf_iff_prefix];exact List.prefix_append _ _)]
 simp
def numOf (s word:List UInt8):Option Int :=
 match atoiAll (trimPrefix s word) with
 | .ok v=>if s=word++itoa v then some v else none
 | _=>none
theorem numOf_iff {s word:List UInt8}{v:Int}:numOf s word=some v↔(s=word++itoa v/\-9223372036854775808<=v/\v<=9223372036854775807):=by
 unfold numOf
 constructor
 ·intro h
  split at h
  ·rename_i u hu
   split at h
   ·rename_i he
    have:u=v:=by simpa using h
    subst this
    exact ⟨he,atoiAll_bounds hu⟩
   ·cases h
  ·cases h
 ·rintro ⟨rfl,h0,h1⟩
  rw [trim_app,atoi_itoa v h0 h1]
  simp
def dvalF (acc:Nat) (l:List UInt8):Nat:=l.foldl (fun a c=>a*10+(c.toNat - 48)) acc
theorem dvalF_nil (acc:Nat):dvalF acc []=acc:=List.foldl_nil
theorem dvalF_cons (acc:Nat) (c:UInt8) (r:List UInt8):dvalF acc (c::r)=dvalF (acc*10+(c.toNat - 48)) r:=List.foldl_cons
theorem dvalF_snoc (c:UInt8) (l:List UInt8) (acc:Nat):dvalF acc (l++[c])=dvalF acc l*10+(c.toNat - 48):=by
 unfold dvalF
 rw [List.foldl_append,List.foldl_cons,List.foldl_nil]
theorem dvalF_acc:∀ (l:List UInt8) (acc:Nat),dvalF acc l=acc*10 ^ l.length+dvalF 0 l
 | [],acc=>by simp [dvalF_nil]
 | c::r,acc=>by
   simp only [dvalF_cons,List.length_cons]
   rw [dvalF_acc r (acc*10+(c.toNat - 48)),dvalF_acc r (0*10+(c.toNat - 48)),Nat.pow_succ]
   generalize 10 ^ r.length=P
   rw [Nat.add_mul,Nat.zero_mul,Nat.zero_add,Nat.mul_comm P 10,Nat.mul_assoc]
   omega
theorem dval_ge (c:UInt8) (r:List UInt8) (h:49<=c.toNat):10 ^ r.length<=dvalF 0 (c::r):=by
 simp only [dvalF_cons]
 rw [dvalF_acc,Nat.zero_mul,Nat.zero_add]
 generalize 10 ^ r.length=P
 have:1*P<=(c.toNat - 48)*P:=Nat.mul_le_mul_right _ (by omega)
 omega
theorem dval_dec (n:Nat):dvalF 0 (decDigits n)=n:=by
 induction n using Nat.strongRecOn with
 | _ n ih =>
   by_cases h10:n < 10
   ·rw [decDigits_one h10]
    simp only [dvalF_cons,dvalF_nil,ofNat_dig h10]
    omega
   ·rw [dec_big h10,dvalF_snoc,ih _ (by omega),ofNat_dig (by omega)]
    omega
theorem dec_head:∀ (n:Nat),1<=n->∃ c r,decDigits n=c::r/\49<=c.toNat:=by
 intro n
 induction n using Nat.strongRecOn with
 | _ n ih =>
   intro h1
   by_cases h10:n < 10
   ·exact ⟨_,_,decDigits_one h10,by rw [ofNat_dig h10];omega⟩
   ·obtain ⟨c,r,hc,hd⟩:=ih (n / 10) (by omega) (by omega)
    exact ⟨c,r++[UInt8.ofNat (48+n % 10)],by rw [dec_big h10,hc];rfl,hd⟩
end
section
open Go.Lib
def cutL:List UInt8->Option (List UInt8 × List UInt8)
 | []=>none
 | c::r=>if c=10 then some ([],r) else match cutL r with | none=>none | some p=>some (c::p.1,p.2)
theorem cutL_some:∀ {s a b:List UInt8},cutL s=some (a,b)->s=a++10::b/\10 ∉ a
 | [],_,_,h=>by simp [cutL] at h
 | c::r,a,b,h=>by
   unfold cutL at h
   split at h
   ·rename_i hc
    simp at h
    obtain ⟨rfl,rfl⟩:=h
    simp [hc]
   ·rename_i hc
    split at h
    ·cases h
    ·rename_i p hp
     simp at h
     obtain ⟨rfl,rfl⟩:=h
     obtain ⟨e,hn⟩:=cutL_some (s:=r) (a:=p.1) (b:=p.2) hp
     refine ⟨by rw [List.cons_append,<- e],?_⟩
     simp only [List.mem_cons,not_or]
     exact ⟨fun h=>hc h.symm,hn⟩
theorem cutL_mk (b:List UInt8):∀ (a:List UInt8),10 ∉ a->cutL (a++10::b)=some (a,b)
 | [],_=>by simp [cutL]
 | c::r,h=>by
   simp only [List.mem_cons,not_or] at h
   rw [List.cons_append]
   unfold cutL
   rw [if_neg (fun e=>h.1 e.symm),cutL_mk b r h.2]
def typeW:List UInt8:=[116,121,112,101,32,111,99,116,105,108,101]
def heightW:List UInt8:=[104,101,105,103,104,116,32]
def widthW:List UInt8:=[119,105,100,116,104,32]
def mapW:List UInt8:=[109,97,112]
def cellB (c:UInt8):Option Bool :=
 if c=46\/c=71\/c=83 then some false else if c=64\/c=79\/c=84\/c=87 then some true else none
def rowB:List UInt8->Option (List Bool)
 | []=>some []
 | c::r=>match cellB c with
   | none=>none
   | some b=>match rowB r with
     | none=>none
     | some l=>some (b::l)
def rowsB (w:Nat):Nat->List UInt8->Option (List Bool)
 | 0,r=>if r=[] then some [] else none
 | k+1,r=>match cutL r with
   | none=>none
   | some p=>if p.1.length=w then (match rowB p.1 with
     | none=>none
     | some a=>match rowsB w k p.2 with
       | none=>none
       | some l=>some (a++l)) else none
theorem rowB_len:∀ {l:List UInt8}{a:List Bool},rowB l=some a->a.length=l.length
 | [],a,h=>by simp [rowB] at h;subst h;rfl
 | c::r,a,h=>by
   unfold rowB at h
   split at h
   ·cases h
   ·split at h
    ·cases h
    ·rename_i b _ l hl
     simp at h
     subst h
     simp [rowB_len hl]
inductive Read where
 | bad (n:Nat)
 | good (W H:Nat) (cs:List Bool)
def cut4 (s:List UInt8):Option (List UInt8 × List UInt8 × List UInt8 × List UInt8 × List UInt8) :=
 match cutL s with
 | none=>none
 | some (a,s1)=>match cutL s1 with
   | none=>none
   | some (b,s2)=>match cutL s2 with
     | none=>none
     | some (c,s3)=>match cutL s3 with
       | none=>none
       | some (d,s4)=>some (a,b,c,d,s4)
def sizeOf4 (a b c d:List UInt8):Option (Int × Int) :=
 match numOf b heightW with
 | none=>none
 | some h=>match numOf c widthW with
   | none=>none
   | some w=>if a=typeW/\d=mapW then some (w,h) else none
def sideN (n:Int):Bool:=decide (1<=n/\n<=16)
def readOf (s:List UInt8):Read :=
 if 1000 < s.length then .bad 2 else match cut4 s with
 | none=>.bad 3
 | some (a,b,c,d,r)=>match sizeOf4 a b c d with
   | none=>.bad 3
   | some (w,h)=>if sideN w=true/\sideN h=true then (match rowsB w.toNat h.toNat r with
     | none=>.bad 3
     | some cs=>.good w.toNat h.toNat cs) else .bad 1
def byteL (b:Bool):UInt8:=if b then 64 else 46
def rowL (bl:Nat->Bool) (c w:Nat):List UInt8:=(List.range w).map fun x=>byteL (bl (c+x))
def rowsL (bl:Nat->Bool) (w:Nat):Nat->List UInt8
 | 0=>[]
 | k+1=>rowsL bl w k++(rowL bl (k*w) w++[10])
def headL (w h:Int):List UInt8:=typeW++([10]++((heightW++itoa h)++([10]++((widthW++itoa w)++([10]++(mapW++[10]))))))
def printL (bl:Nat->Bool) (w h:Nat):List UInt8:=headL w h++rowsL bl w h
theorem byteL_ne (b:Bool):byteL b≠10:=by cases b <;> decide
theorem cellB_byteL (b:Bool):cellB (byteL b)=some b:=by cases b <;> decide
theorem rowB_map (f:Nat->Bool):∀ (l:List Nat),rowB (l.map fun x=>byteL (f x))=some (l.map f)
 | []=>rfl
 | x::l=>by
   simp only [List.map_cons,rowB,cellB_byteL,rowB_map f l]
theorem rowL_nl (bl:Nat->Bool) (c w:Nat):10 ∉ rowL bl c w:=by
 unfold rowL
 intro h
 obtain ⟨x,_,hx⟩:=List.mem_map.1 h
 exact byteL_ne _ hx
theorem rowL_len (bl:Nat->Bool) (c w:Nat):(rowL bl c w).length=w:=by simp [rowL]
def rowsFrom (bl:Nat->Bool) (w:Nat):Nat->Nat->List UInt8
 | 0,_=>[]
 | k+1,j=>rowL bl (j*w) w++10::rowsFrom bl w k (j+1)
theorem rowsFrom_snoc (bl:Nat->Bool) (w:Nat):∀ (k j:Nat),rowsFrom bl w (k+1) j=rowsFrom bl w k j++(rowL bl ((j+k)*w) w++[10])
 | 0,j=>by simp [rowsFrom]
 | k+1,j=>by
   rw [rowsFrom,rowsFrom_snoc bl w k (j+1),rowsFrom]
   rw [show j+1+k=j+(k+1) by omega]
   simp
theorem rowsL_from (bl:Nat->Bool) (w:Nat):∀ (k:Nat),rowsL bl w k=rowsFrom bl w k 0
 | 0=>rfl
 | k+1=>by rw [rowsL,rowsFrom_snoc,rowsL_from bl w k,Nat.zero_add]
theorem range_at (c w:Nat) (bl:Nat->Bool) (n:Nat):(List.range w).map (fun x=>bl (c+x))++(List.range n).map (fun i=>bl (c+w+i))=(List.range (w+n)).map fun i=>bl (c+i):=by
 rw [List.range_add,List.map_append,List.map_map]
 congr 1
 refine List.map_congr_left fun i _=>?_
 simp [Nat.add_assoc]
theorem rowsB_from (bl:Nat->Bool) (w:Nat):∀ (k j:Nat),rowsB w k (rowsFrom bl w k j)=some ((List.range (k*w)).map fun i=>bl (j*w+i))
 | 0,j=>by simp [rowsFrom,rowsB]
 | k+1,j=>by
   unfold rowsB rowsFrom
   rw [cutL_mk _ _ (rowL_nl _ _ _)]
   simp only
   rw [if_pos (rowL_len _ _ _)]
   have e:rowB (rowL bl (j*w) w)=some ((List.range w).map fun x=>bl (j*w+x)):=rowB_map _ _
   rw [e,rowsB_from bl w k (j+1)]
   simp only
   congr 1
   rw [Nat.succ_mul,Nat.succ_mul,Nat.add_comm (k*w) w,<- range_at (j*w) w bl (k*w)]
theorem itoa_nl (v:Int):10 ∉ itoa v:=by
 have hd:∀ n,10 ∉ decDigits n:=fun n h=>by
  have:=dec_dig n 10 h
  unfold isD at this
  simp at this
 unfold itoa
 split
 ·simp only [List.mem_cons,not_or]
  exact ⟨by decide,hd _⟩
 ·exact hd _
theorem itoa_len (v:Int) (h0:1<=v) (h1:v<=16):(itoa v).length<=2:=by
 unfold itoa
 rw [if_neg (by omega),decDigits_length]
 have:nDigits v.toNat<=2:=by
  by_cases h:v.toNat < 10
  ·rw [nDigits_small h];omega
  ·rw [nDigits_big h,nDigits_small (by omega)];omega
 exact this
theorem rowsFrom_len (bl:Nat->Bool) (w:Nat):∀ (k j:Nat),(rowsFrom bl w k j).length=k*(w+1)
 | 0,_=>by simp [rowsFrom]
 | k+1,j=>by
   rw [rowsFrom,List.length_append,List.length_cons,rowsFrom_len bl w k,rowL_len,Nat.succ_mul]
   omega
theorem print_len (bl:Nat->Bool) (w h:Nat) (w1:1<=w) (w2:w<=16) (h1:1<=h) (h2:h<=16):(printL bl w h).length<=1000:=by
 have a:=itoa_len w (by omega) (by omega)
 have b:=itoa_len h (by omega) (by omega)
 have c:h*(w+1)<=16*17:=Nat.mul_le_mul h2 (by omega)
 unfold printL headL
 rw [rowsL_from]
 simp only [List.length_append,rowsFrom_len]
 simp [typeW,heightW,widthW,mapW]
 omega
theorem head_cut (w h:Int) (r:List UInt8):cut4 (headL w h++r)=some (typeW,heightW++itoa h,widthW++itoa w,mapW,r):=by
 have n1:10 ∉ typeW:=by decide
 have n2:10 ∉ heightW++itoa h:=by
  rw [List.mem_append]
  exact fun hh=>hh.elim (by decide) (itoa_nl h)
 have n3:10 ∉ widthW++itoa w:=by
  rw [List.mem_append]
  exact fun hh=>hh.elim (by decide) (itoa_nl w)
 have n4:10 ∉ mapW:=by decide
 have e:headL w h++r=typeW++10::((heightW++itoa h)++10::((widthW++itoa w)++10::(mapW++10::r))):=by
  unfold headL
  simp
 unfold cut4
 rw [e,cutL_mk _ _ n1]
 simp only
 rw [cutL_mk _ _ n2]
 simp only
 rw [cutL_mk _ _ n3]
 simp only
 rw [cutL_mk _ _ n4]
theorem size_head (w h:Int) (w1:-9223372036854775808<=w) (w2:w<=9223372036854775807) (h1:-9223372036854775808<=h) (h2:h<=9223372036854775807):sizeOf4 typeW (heightW++itoa h) (widthW++itoa w) mapW=some (w,h):=by
 unfold sizeOf4
 rw [(numOf_iff (v:=h)).2 ⟨rfl,h1,h2⟩]
 simp only
 rw [(numOf_iff (v:=w)).2 ⟨rfl,w1,w2⟩]
 simp
theorem sizeOf4_some {a b c d:List UInt8}{w h:Int}(e:sizeOf4 a b c d=some (w,h)):a=typeW/\b=heightW++itoa h/\c=widthW++itoa w/\d=mapW/\numOf b heightW=some h/\numOf c widthW=some w:=by
 unfold sizeOf4 at e
 split at e
 ·cases e
 ·rename_i h' hh
  split at e
  ·cases e
  ·rename_i w' hw
   split at e
   ·rename_i hc
    simp at e
    obtain ⟨rfl,rfl⟩:=e
    exact ⟨hc.1,(numOf_iff.1 hh).1,(numOf_iff.1 hw).1,hc.2,hh,hw⟩
   ·cases e
theorem read_print (bl:Nat->Bool) (w h:Nat) (w1:1<=w) (w2:w<=16) (h1:1<=h) (h2:h<=16):readOf (printL bl w h)=.good w h ((List.range (h*w)).map bl):=by
 have hl:=print_len bl w h w1 w2 h1 h2
 unfold readOf
 rw [if_neg (by omega)]
 unfold printL
 rw [head_cut]
 simp only
 rw [size_head w h (by omega) (by omega) (by omega) (by omega)]
 simp only
 rw [if_pos ⟨decide_eq_true (by omega),decide_eq_true (by omega)⟩]
 rw [Int.toNat_natCast,Int.toNat_natCast,rowsL_from,rowsB_from]
 simp
end
section
open Go.RowKit
structure Env (w:World):Prop where
 es:∃ tp p,w.cell? ⟨3,0,none⟩=some (.iface tp p)
 er:∃ tp p,w.cell? ⟨4,0,none⟩=some (.iface tp p)
 tab : Lib.TabIs Tryz.prog w "internal/strconv.uint64pow10" .u64 Lib.pow10Tab
 z:8<=w.heap.size
theorem gPow : Tryz.prog.globalNamed "internal/strconv.uint64pow10" = some 5 := by kernel_rfl
theorem Env.below {B:Nat}{w w':World}(h:Env w) (hb:Below B w w') (hB:8<=B):Env w':=by
 obtain ⟨⟨t2,p2,h2⟩,⟨t3,p3,h3⟩,h4,h5⟩:=h
 refine ⟨⟨t2,p2,?_⟩,⟨t3,p3,?_⟩,?_,Nat.le_trans h5 hb.size⟩
 ·exact (hb.cell (p:=⟨3,0,none⟩) (by show 3 < B;omega)).trans h2
 ·exact (hb.cell (p:=⟨4,0,none⟩) (by show 4 < B;omega)).trans h3
 ·exact var?_below hb gPow (by omega) h4
theorem Env.grown {w w':World}(h:Env w) (hb:Below w.heap.size w w'):Env w':=h.below hb h.z
theorem itoa_len20 (v:Int) (h0:-9223372036854775808<=v) (h1:v<=9223372036854775807):(Lib.itoa v).length<=20:=by
 have key:∀ u:Nat,u < 10 ^ 19->Lib.nDigits u<=19:=by
  intro u hu
  rcases Nat.lt_or_ge (Lib.nDigits u) 20 with h | h
  ·omega
  ·exfalso
   by_cases hz:1<=u
   ·obtain ⟨c,r,hc,hd⟩:=dec_head u hz
    have hl:=Lib.decDigits_length u
    have hg:=dval_ge c r hd
    rw [<- hc,dval_dec] at hg
    rw [hc] at hl
    simp at hl
    have:10 ^ 19<=10 ^ r.length:=Nat.pow_le_pow_right (by decide) (by omega)
    omega
   ·rw [Lib.nDigits_small (by omega)] at h
    omega
 unfold Lib.itoa
 split
 ·rw [List.length_cons,Lib.decDigits_length]
  have:=key v.natAbs (by omega)
  omega
 ·rw [Lib.decDigits_length]
  have:=key v.toNat (by omega)
  omega
theorem itoa_any (n:Int) (h0:-9223372036854775808<=n) (h1:n<=9223372036854775807) (w:World) (E:Env w) :
  Calls Tryz.prog 133 #[.int .i64 n] w fun e w'=>e=.returned (.string ⟨(Lib.itoa n).toArray⟩)/\Below w.heap.size w w' :=
 (Tryz.strconv_Itoa n h0 h1 w E.tab).mono fun _ _ ⟨he,k,os,hw⟩=>⟨he,by rw [hw];exact Lib.below_grow _ w (Nat.le_refl _) k os⟩
def str (l:List UInt8):ByteArray:=⟨l.toArray⟩
theorem str_size (l:List UInt8):(str l).size=l.length:=by
 rw [Lib.size_eq]
 rfl
theorem str_data (l:List UInt8):(str l).data.toList=l:=rfl
theorem str_append (a b:List UInt8):str a++str b=str (a++b):=by
 apply ByteArray.ext
 rw [ByteArray.data_append]
 simp [str]
def headV (w h:Int):Array Value:=#[.string (str typeW),.string (str heightW++str (Lib.itoa h)),.string (str widthW++str (Lib.itoa w)),.string (str mapW)]
theorem info60:(Tryz.prog.info? 150).map (·.size)=some 4:=by kernel_rfl
theorem results_arr {P:Program}{fn:Func}{p:Tmp}{ty:TypeId}(h:fn.results=#[.cell p ty]) (tmps:Array Value) (w:World) (b:Nat) (cs:List Value) (d:TypeDesc)
  (hp:tmps.getD p undef=.pointer (some ⟨b,0,none⟩)) (hc:w.rangeAt b 0 cs) (hu:P.underlying ty=some d) (hd:d.isRow=true) (hi:(P.info? ty).map (·.size)=some cs.length) :
  (results fn tmps).run P w=.ok (.agg cs.toArray) w:=by
 have hp':tmps[p]?.getD undef=.pointer (some ⟨b,0,none⟩):=by simpa using hp
 simp [results,h,hp',asAddr,run_loadVar_mid w b 0 ty cs d hc hu hd hi]
theorem results_arr3 {P:Program}{fn:Func}{p u v:Tmp}{ty:TypeId}(h:fn.results=#[.cell p ty,.tmp u,.tmp v]) (tmps:Array Value) (w:World) (b:Nat) (cs:List Value) (d:TypeDesc)
  (hp:tmps.getD p undef=.pointer (some ⟨b,0,none⟩)) (hc:w.rangeAt b 0 cs) (hu:P.underlying ty=some d) (hd:d.isRow=true) (hi:(P.info? ty).map (·.size)=some cs.length) :
  (results fn tmps).run P w=.ok (.tuple #[.agg cs.toArray,tmps.getD u undef,tmps.getD v undef]) w:=by
 have hp':tmps[p]?.getD undef=.pointer (some ⟨b,0,none⟩):=by simpa using hp
 simp [results,h,hp',asAddr,run_loadVar_mid w b 0 ty cs d hc hu hd hi]
theorem range4 (w:World) (b:Nat) (v0 v1 v2 v3:Value) (ht:w.there b 0 4) :
  ((((w.setCell ⟨b,0,none⟩ v0).setCell ⟨b,1,none⟩ v1).setCell ⟨b,2,none⟩ v2).setCell ⟨b,3,none⟩ v3).rangeAt b 0 [v0,v1,v2,v3] :=
 World.rangeAt_setCells_same w b 0 [v0,v1,v2,v3] ht
theorem there4 {w:World}{b:Nat}(hc:∀ j,j < 4->∃ v,w.cell? ⟨b,j,none⟩=some v) (hf:∀ j,w.frozen? ⟨b,j,none⟩=false):w.there b 0 4:=fun j hj=>by
 rw [Nat.zero_add]
 obtain ⟨v,hv⟩:=hc j hj
 rw [hv]
 exact ⟨rfl,hf j⟩
theorem four_cells {b:Nat}{w:World}{v0 v1 v2 v3:Value}(h0:w.cell? ⟨b,0,none⟩=some v0) (h1:w.cell? ⟨b,1,none⟩=some v1) (h2:w.cell? ⟨b,2,none⟩=some v2) (h3:w.cell? ⟨b,3,none⟩=some v3):∀ j,j < 4->∃ v,w.cell? ⟨b,j,none⟩=some v:=by
 intro j hj
 match j,hj with
 | 0,_=>exact ⟨_,h0⟩
 | 1,_=>exact ⟨_,h1⟩
 | 2,_=>exact ⟨_,h2⟩
 | 3,_=>exact ⟨_,h3⟩
theorem itoa_v {n:Int}{I:ByteArray}(hI:str (Lib.itoa n)=I) (h0:-9223372036854775808<=n) (h1:n<=9223372036854775807) (w:World) (E:Env w) :
  Calls Tryz.prog 133 #[.int .i64 n] w fun e w'=>e=.returned (.string I)/\Below w.heap.size w w':=by
 subst hI
 exact itoa_any n h0 h1 w E
set_option maxHeartbeats 1000000 in
set_option maxRecDepth 100000 in
theorem headOf_any (W H:Int) (a0:-9223372036854775808<=W) (a1:W<=9223372036854775807) (b0:-9223372036854775808<=H) (b1:H<=9223372036854775807) (w:World) (E:Env w) :
  Calls Tryz.prog 93 #[.int .i64 W,.int .i64 H] w fun e w'=>e=.returned (.agg (headV W H))/\Below w.heap.size w w':=by
 have l1:=itoa_len20 W a0 a1
 have l2:=itoa_len20 H b0 b1
 rw [<- str_size] at l1 l2
 unfold headV
 obtain ⟨IW,hW⟩:∃ I,str (Lib.itoa W)=I:=⟨_,rfl⟩
 obtain ⟨IH,hH⟩:∃ I,str (Lib.itoa H)=I:=⟨_,rfl⟩
 rw [hW] at l1 ⊢
 rw [hH] at l2 ⊢
 have HW:Hid (str (Lib.itoa W)=IW):=hW
 have HH:Hid (str (Lib.itoa H)=IH):=hH
 clear hW hH
 have hb0:Below w.heap.size w (w.alloc (.cells #[.string ⟨#[]⟩,.string ⟨#[]⟩,.string ⟨#[]⟩,.string ⟨#[]⟩] 150)):=(Below.refl _ _).alloc (Nat.le_refl _) _
 go_enter Tryz.func93,Tryz.ntmps93
 go_wp2_with (go_at_call 133;refine (itoa_v HH.out b0 b1 _ (E.grown hb0)).mono ?_)
 rintro e w1 ⟨rfl,hb1⟩
 have hb01:=hb0.trans (hb1.mono (by simp))
 go_wp2_with (go_at_call 133;refine (itoa_v HW.out a0 a1 _ (E.grown hb01)).mono ?_)
 rintro e w2 ⟨rfl,hb2⟩
 have s1:=hb1.size
 simp only [World.size_alloc] at s1
 have hc:∀ j:Nat,w2.cell? ⟨w.heap.size,j,none⟩=(w.alloc (.cells #[.string ⟨#[]⟩,.string ⟨#[]⟩,.string ⟨#[]⟩,.string ⟨#[]⟩] 150)).cell? ⟨w.heap.size,j,none⟩:=fun j =>
  (hb2.cell (p:=⟨w.heap.size,j,none⟩) (by show w.heap.size < _;omega)).trans (hb1.cell (p:=⟨w.heap.size,j,none⟩) (by simp))
 have hf:∀ j:Nat,w2.frozen? ⟨w.heap.size,j,none⟩=false:=fun j =>
  ((hb2.frozen (p:=⟨w.heap.size,j,none⟩) (by show w.heap.size < _;omega)).trans (hb1.frozen (p:=⟨w.heap.size,j,none⟩) (by simp))).trans (free_alloc w _ _ _ (Nat.le_refl _) j)
 have hbb:=hb01.trans (hb2.mono (by omega))
 have k0:w2.cell? ⟨w.heap.size,0,none⟩=some (.string ⟨#[]⟩):=by rw [hc,World.cell?_alloc_new];rfl
 have k1:w2.cell? ⟨w.heap.size,1,none⟩=some (.string ⟨#[]⟩):=by rw [hc,World.cell?_alloc_new];rfl
 have k2:w2.cell? ⟨w.heap.size,2,none⟩=some (.string ⟨#[]⟩):=by rw [hc,World.cell?_alloc_new];rfl
 have k3:w2.cell? ⟨w.heap.size,3,none⟩=some (.string ⟨#[]⟩):=by rw [hc,World.cell?_alloc_new];rfl
 have f0:=hf 0
 have f1:=hf 1
 have f2:=hf 2
 have f3:=hf 3
 have ht:=there4 (four_cells k0 k1 k2 k3) hf
 clear hc hf
 go_wp2
 refine bodyPost_ret (results_arr rfl _ _ w.heap.size _ _ rfl (range4 w2 w.heap.size _ _ _ _ ht) Tryz.underlying150 rfl info60) rfl ⟨rfl,?_⟩
 exact (((hbb.setCell (p:=⟨w.heap.size,0,none⟩) (Nat.le_refl _) _).setCell (p:=⟨w.heap.size,1,none⟩) (Nat.le_refl _) _).setCell (p:=⟨w.heap.size,2,none⟩) (Nat.le_refl _) _).setCell (p:=⟨w.heap.size,3,none⟩) (Nat.le_refl _) _
end
end Go.Proofs.YtipbhlofbpnpjaaGreatDoor
