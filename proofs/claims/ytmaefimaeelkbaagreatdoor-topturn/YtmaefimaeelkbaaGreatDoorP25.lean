/-
  Texts laid together: Fill, Print, Parse, Size, Size2, Read.
-/
import Derived.Test.YtmaefimaeelkbaaGreatDoorP24
import Derived.Test.YtmaefimaeelkbaaGreatDoorP2
import Derived.Test.YtmaefimaeelkbaaGreatDoorP22
import Derived.Deep.LoopGhost
import Derived.Deep.Light
import Derived.ChangeKeysEq
namespace Go.Proofs.YtmaefimaeelkbaaGreatDoor
section
open Go.RowKit
theorem cellB_none {c:UInt8}(h:cellB c=none):((c.toNat:Int) == 46)=false/\((c.toNat:Int) == 71)=false/\((c.toNat:Int) == 83)=false/\((c.toNat:Int) == 64)=false/\((c.toNat:Int) == 79)=false/\((c.toNat:Int) == 84)=false/\((c.toNat:Int) == 87)=false:=by
 have key:∀ d:UInt8,c≠d->((c.toNat:Int) == (d.toNat:Int))=false:=fun d hd=>by
  rw [beq_eq_false_iff_ne]
  intro e
  exact hd (UInt8.toNat_inj.1 (by omega))
 unfold cellB at h
 split at h
 ·cases h
 ·rename_i h1
  split at h
  ·cases h
  ·rename_i h2
   simp only [not_or] at h1 h2
   exact ⟨key 46 h1.1,key 71 h1.2.1,key 83 h1.2.2,key 64 h2.1,key 79 h2.2.1,key 84 h2.2.2.1,key 87 h2.2.2.2⟩
theorem cellB_some {c:UInt8}{b:Bool}(h:cellB c=some b):(b=false/\(c=46\/c=71\/c=83))\/(b=true/\(c=64\/c=79\/c=84\/c=87)):=by
 unfold cellB at h
 split at h
 ·rename_i h1
  exact .inl ⟨by simpa using h.symm,h1⟩
 ·split at h
  ·rename_i h2
   exact .inr ⟨by simpa using h.symm,h2⟩
  ·cases h
set_option maxHeartbeats 1000000 in
theorem cellOf_none {c:UInt8}(h:cellB c=none)(w:World) :
  Calls Tryz.prog 159 #[.int .u8 c.toNat] w fun e w'=>e=.returned (.tuple #[.bool false,.bool false])/\w'=w:=by
 obtain ⟨h1,h2,h3,h4,h5,h6,h7⟩:=cellB_none h
 clear h
 generalize (c.toNat:Int)=n at *
 go_enter Tryz.func159,Tryz.ntmps159
 go_wp2
 go_ret2
 exact ⟨rfl,rfl⟩
set_option maxHeartbeats 1000000 in
theorem cellOf_some {c:UInt8}{b:Bool}(h:cellB c=some b)(w:World) :
  Calls Tryz.prog 159 #[.int .u8 c.toNat] w fun e w'=>e=.returned (.tuple #[.bool b,.bool true])/\w'=w:=by
 rcases cellB_some h with ⟨rfl,rfl|rfl|rfl⟩|⟨rfl,rfl|rfl|rfl|rfl⟩
 all_goals
  clear h
  go_enter Tryz.func159,Tryz.ntmps159
  go_wp2
  go_ret2
  exact ⟨rfl,rfl⟩
theorem Touch.trans {b:Nat}{u v w:World}(h:Touch b u v)(k:Touch b v w):Touch b u w :=
 ⟨k.os.trans h.os,k.tape.trans h.tape,k.output.trans h.output,k.size.trans h.size,fun i hi=>(k.other i hi).trans (h.other i hi)⟩
def cellsF (cs:List Bool) (i:Nat):Bool:=cs.getD i false
theorem cellsF_false (cs:List Bool):cellsF (cs++[false])=cellsF cs:=by
 funext i
 unfold cellsF
 simp only [List.getD_eq_getElem?_getD]
 rcases Nat.lt_trichotomy i cs.length with h|h|h
 ·rw [List.getElem?_append_left h]
 ·subst h
  simp
 ·rw [List.getElem?_eq_none (by simp;omega),List.getElem?_eq_none (by omega)]
theorem cellsF_true (cs:List Bool):upd (cellsF cs) cs.length true=cellsF (cs++[true]):=by
 funext i
 unfold upd cellsF
 simp only [List.getD_eq_getElem?_getD]
 rcases Nat.lt_trichotomy i cs.length with h|h|h
 ·rw [if_neg (by omega),List.getElem?_append_left h]
 ·subst h
  simp
 ·rw [if_neg (by omega),List.getElem?_eq_none (show cs.length<=i by omega),List.getElem?_eq_none (by rw [List.length_append];simp;omega)]
theorem cellsF_at (cs:List Bool):cellsF cs cs.length=false:=by
 unfold cellsF
 simp
def blocks (cs:List Bool):Nat:=cs.count true
theorem blocks_true (cs:List Bool):(blocks (cs++[true]):Int)=blocks cs+1:=by
 unfold blocks
 rw [List.count_append]
 simp
theorem blocks_false (cs:List Bool):blocks (cs++[false])=blocks cs:=by
 unfold blocks
 rw [List.count_append]
 simp
theorem blocks_le (cs:List Bool):blocks cs<=cs.length:=List.count_le_length
def CellsAt (w:World) (b:Nat) (W H:Nat) (cs:List Bool):Prop:=GridAt w b W H (blocks cs) (cellsF cs)/\Free w b
theorem rowB_take {row:List UInt8}{j:Nat}{a:List Bool}(h:rowB (row.take j)=some a)(hj:j<row.length):rowB (row.take (j+1))=(cellB row[j]).map (fun b=>a++[b]):=by
 have key:∀ (l:List UInt8) (a:List Bool) (c:UInt8),rowB l=some a->rowB (l++[c])=(cellB c).map fun b=>a++[b]:=by
  intro l
  induction l with
  |nil =>
   intro a c ha
   simp [rowB] at ha
   subst ha
   simp only [List.nil_append,rowB]
   cases cellB c <;> rfl
  |cons x l ih =>
   intro a c ha
   simp only [List.cons_append,rowB] at ha ⊢
   cases hx:cellB x with
   |none=>simp [hx] at ha
   |some b =>
    simp only [hx] at ha ⊢
    cases hl:rowB l with
    |none=>simp [hl] at ha
    |some m =>
     simp only [hl,Option.some.injEq] at ha
     subst ha
     rw [ih m c hl]
     cases cellB c <;> rfl
 rw [List.take_add_one,List.getElem?_eq_getElem hj]
 exact key _ _ _ h
theorem rowB_none {row:List UInt8}:∀ {j:Nat},rowB (row.take j)=none->rowB row=none:=by
 have key:∀ (l m:List UInt8),rowB l=none->rowB (l++m)=none:=by
  intro l m
  induction l with
  |nil=>intro h;simp [rowB] at h
  |cons x l ih =>
   intro h
   simp only [List.cons_append,rowB] at h ⊢
   cases hx:cellB x with
   |none=>simp
   |some b =>
    simp only [hx] at h ⊢
    cases hl:rowB l with
    |none=>rw [ih hl]
    |some q=>simp [hl] at h
 intro j h
 have:=key _ (row.drop j) h
 rwa [List.take_append_drop] at this
theorem inB_nat {W H c:Nat}(h:c<W*H):inB W H c=true:=decide_eq_true ⟨by omega,by rw [<- Int.natCast_mul];omega⟩
theorem set_false {b W H:Nat}{cs:List Bool}{i:Int}(hi:i=cs.length)(w:World)(g:CellsAt w b W H cs)(hlt:cs.length<W*H) :
  Calls Tryz.prog 107 #[.pointer (some ⟨b,0,none⟩),.int .i64 i,.bool false] w fun e w'=>e=.returned (.tuple #[.bool false,.nilIface])/\∃ m,w'=w.drewN m:=by
 subst hi
 exact set_same cs.length false w g.1 (inB_nat hlt) (cellsF_at cs)
theorem set_true {b W H:Nat}{cs:List Bool}{i:Int}(hi:i=cs.length)(w:World)(g:CellsAt w b W H cs)(hlt:cs.length<W*H)(hm:cs.length<=1000000) :
  Calls Tryz.prog 107 #[.pointer (some ⟨b,0,none⟩),.int .i64 i,.bool true] w fun e w'=>e=.returned (.tuple #[.bool true,.nilIface])/\Touch b w w'/\CellsAt w' b W H (cs++[true]):=by
 subst hi
 have hb:=blocks_le cs
 refine (set_new cs.length true w g.1 g.2 (inB_nat hlt) (cellsF_at cs) (by omega) (by omega)).mono fun e w' ⟨he,hT,hG,hF⟩=>⟨he,hT,?_,hF⟩
 rw [cellsF_true,<- blocks_true] at hG
 exact hG
theorem CellsAt.false {w:World}{b W H:Nat}{cs:List Bool}(g:CellsAt w b W H cs):CellsAt w b W H (cs++[false]):=by
 unfold CellsAt
 rw [cellsF_false,blocks_false]
 exact g
theorem CellsAt.drewN {w:World}{b W H:Nat}{cs:List Bool}(g:CellsAt w b W H cs)(m:Nat):CellsAt (w.drewN m) b W H cs:=⟨g.1.drewN m,g.2⟩
theorem idx_str (l:List UInt8)(j:Nat)(hj:j<l.length)(w:World):(Instr.index 9 (.string (str l)) (.int .i64 j)).run Tryz.prog w=.ok (.int .u8 (l[j]).toNat) w:=by
 rw [run_index_string w 9 (str l) .i64 j Tryz.underlying9,dif_pos ⟨by omega,by rw [str_size];omega⟩]
 congr 1
set_option maxHeartbeats 2000000 in
set_option maxRecDepth 100000 in
theorem fillRow_any {b W H:Nat}{cs:List Bool}(row:List UInt8)(w:World)(g:CellsAt w b W H cs)(hl:cs.length+row.length<=W*H) :
  Calls Tryz.prog 115 #[.pointer (some ⟨b,0,none⟩),.int .i64 cs.length,.string (str row)] w fun e w'=>e=.returned (.bool (rowB row).isSome)/\Touch b w w'/\(∀ a,rowB row=some a->CellsAt w' b W H (cs++a)):=by
 have w1:=g.1.w1
 have w2:=g.1.w2
 have h1:=g.1.h1
 have h2:=g.1.h2
 have k2:W*H<=16*16:=Nat.mul_le_mul (by omega) (by omega)
 have hsz:=str_size row
 obtain ⟨N,hN⟩:∃ N,W*H=N:=⟨_,rfl⟩
 have HN:Hid (W*H=N):=hN
 rw [hN] at hl k2
 clear hN
 go_enter Tryz.func115,Tryz.ntmps115
 go_wp2
 go_loopw [14] (fun i wr=>∃ (j:Nat) (a:List Bool),j<=row.length/\i=.int .i64 j/\rowB (row.take j)=some a/\Touch b w wr/\CellsAt wr b W H (cs++a))
  (fun i _=>row.length - (intOf i).toNat)
 case atStart=>exact ⟨0,[],by omega,rfl,rfl,Touch.refl b w,by simpa using g⟩
 case round =>
  obtain ⟨j,a,hj,rfl,ha,hT,hC⟩:=hrel
  by_cases hlt:j<row.length
  ·have hal:=rowB_len ha
   rw [List.length_take,Nat.min_eq_left hj] at hal
   have hcl:(cs++a).length=cs.length+j:=by rw [List.length_append,hal]
   have hta:=rowB_take ha hlt
   have hix:=idx_str row j hlt
   have hno:rowB (row.take (j+1))=none->rowB row=none:=rowB_none
   generalize row[j]=c at hta hix
   have hi:(cs.length:Int)+j=((cs++a).length:Nat):=by rw [hcl];omega
   have hin:(cs++a).length<W*H:=by rw [hcl,HN.out];omega
   have him:(cs++a).length<=1000000:=by rw [hcl];omega
   have HI:Hid ((cs.length:Int)+j=((cs++a).length:Nat)):=hi
   have j1:(0:Int)<=(cs.length:Int)+j/\(cs.length:Int)+j<=1000000:=by omega
   clear hi hcl hal
   cases hc:cellB c with
   |none =>
    have hbad:rowB row=none:=hno (by rw [hta,hc];rfl)
    clear hta
    go_wp2_with (first|(go_at_call 159;refine (cellOf_none hc _).mono ?_;rintro e w' ⟨rfl,rfl⟩)|(go_at_call 107;refine (set_false HI.out _ hC hin).mono ?_;rintro e w' ⟨rfl,m,rfl⟩))
    go_ret
    exact ⟨by rw [hbad];rfl,hT.drewN m,fun a' h'=>by rw [hbad] at h';cases h'⟩
   |some v =>
    rw [hc] at hta
    have HTA:Hid (rowB (row.take (j+1))=some (a++[v])):=hta
    clear hta
    cases v with
    |false =>
     go_wp2_with (first|(go_at_call 159;refine (cellOf_some hc _).mono ?_;rintro e w' ⟨rfl,rfl⟩)|(go_at_call 107;refine (set_false HI.out _ hC hin).mono ?_;rintro e w' ⟨rfl,m,rfl⟩))
     go_roundw
     case rel=>exact ⟨j+1,a++[false],by omega,by go_num,HTA.out,hT.drewN m,by rw [<- List.append_assoc];exact (hC.drewN m).false⟩
     case measure=>simp [intOf];omega
    |true =>
     go_wp2_with (first|(go_at_call 159;refine (cellOf_some hc _).mono ?_;rintro e w' ⟨rfl,rfl⟩)|(go_at_call 107;refine (set_true HI.out _ hC hin him).mono ?_;rintro e w3 ⟨rfl,T3,C3⟩))
     go_roundw
     case rel=>exact ⟨j+1,a++[true],by omega,by go_num,HTA.out,hT.trans T3,by rw [<- List.append_assoc];exact C3⟩
     case measure=>simp [intOf];omega
  ·have hjl:j=row.length:=by omega
   subst hjl
   rw [List.take_length] at ha
   go_wp2
   go_ret
   exact ⟨by rw [ha];rfl,hT,fun a' h'=>by rw [ha] at h';cases h';exact hC⟩
end
section
open Go.RowKit
theorem headV_str (w h:Int):headV w h=#[.string (str typeW),.string (str (heightW++Lib.itoa h)),.string (str (widthW++Lib.itoa w)),.string (str mapW)]:=by
 unfold headV
 rw [str_append,str_append]
theorem headOf_v {W H:Int}{a b c d:List UInt8}(ha:typeW=a)(hb:heightW++Lib.itoa H=b)(hc:widthW++Lib.itoa W=c)(hd:mapW=d)(a0:-9223372036854775808<=W)(a1:W<=9223372036854775807)(b0:-9223372036854775808<=H)(b1:H<=9223372036854775807)(w:World)(E:Env w) :
  Calls Tryz.prog 93 #[.int .i64 W,.int .i64 H] w fun e w'=>e=.returned (.agg #[.string (str a),.string (str b),.string (str c),.string (str d)])/\Below w.heap.size w w':=by
 subst ha hb hc hd
 exact (headOf_any W H a0 a1 b0 b1 w E).mono fun e w' ⟨he,h⟩=>⟨by rw [he,headV_str],h⟩
theorem rowL_snoc (bl:Nat->Bool)(c x:Nat):rowL bl c (x+1)=rowL bl c x++[byteL (bl (c+x))]:=by
 unfold rowL
 rw [List.range_succ,List.map_append]
 rfl
end
section
open Go.RowKit
theorem Touch.under {b:Nat}{w w':World}(h:Touch b w w'):Below b w w':=h.below (Below.refl _ _) (Nat.le_refl _)
theorem Env.touch {b:Nat}{w w':World}(h:Env w)(t:Touch b w w')(hb:8<=b):Env w':=h.below t.under hb
theorem cutL_len {s a b:List UInt8}(h:cutL s=some (a,b)):a.length+b.length+1=s.length:=by
 obtain ⟨e,_⟩:=cutL_some h
 rw [e]
 simp
 omega
theorem byte_nl:∀ (s:List UInt8),match cutL s with|none=>Lib.indexByte s 10=-1|some p=>Lib.indexByte s 10=(p.1.length:Int)
 |[]=>rfl
 |c::r=>by
  have ih:=byte_nl r
  unfold cutL
  by_cases hc:c=10
  ·rw [if_pos hc]
   subst hc
   simp [Lib.indexByte]
  ·rw [if_neg hc]
   have hb:(c == 10)=false:=by simpa using hc
   cases h:cutL r with
   |none =>
    rw [h] at ih
    simp only at ih ⊢
    unfold Lib.indexByte
    rw [hb,ih]
    rfl
   |some p =>
    rw [h] at ih
    simp only at ih ⊢
    unfold Lib.indexByte
    rw [hb,ih]
    have e:((p.1.length:Int) == -1)=false:=by
     rw [beq_eq_false_iff_ne]
     omega
    simp [e]
theorem index_v {s:List UInt8}{i:Int}(hi:Lib.indexByte s 10=i)(w:World) :
  Calls Tryz.prog 189 #[.string (str s),.string ⟨#[10]⟩] w fun e w'=>e=.returned (.int .i64 i)/\w'=w:=by
 subst hi
 exact Tryz.stringslite_Index_one (str s) 10 w
theorem ext_head (a b:List UInt8):(str (a++10::b)).extract 0 a.length=str a:=by
 rw [Lib.extract_eq,str_data]
 simp [str]
theorem ext_tail (a b:List UInt8)(n:Nat)(hn:n=a.length+1+b.length):(str (a++10::b)).extract (a.length+1) n=str b:=by
 subst hn
 rw [Lib.extract_eq,str_data]
 rw [show a.length+1+b.length - (a.length+1)=b.length by omega]
 simp [str]
set_option maxHeartbeats 2000000 in
set_option maxRecDepth 100000 in
theorem lcut_some {s a b:List UInt8}(h:cutL s=some (a,b))(hs:s.length<4294967281)(w:World) :
  Calls Tryz.prog 155 #[.string (str s),.string ⟨#[10]⟩] w fun e w'=>e=.returned (.tuple #[.string (str a),.string (str b),.bool true])/\∃ n,w'=w.drewN n:=by
 obtain ⟨e,_⟩:=cutL_some h
 have hi:=byte_nl s
 rw [h] at hi
 simp only at hi
 have HI:Hid (Lib.indexByte s 10=(a.length:Int)):=hi
 have hsz:=str_size s
 have hl:=cutL_len h
 have x1:(str s).extract 0 a.length=str a:=by rw [e];exact ext_head a b
 have x2:(str s).extract (a.length+1) s.length=str b:=by rw [e];exact ext_tail a b _ (by simp;omega)
 clear hi h e
 have s1:(⟨#[10]⟩:ByteArray).size=1:=rfl
 have c1:(0:Int)<=(a.length:Int):=by omega
 have c2:(a.length:Int)<=(s.length:Int):=by omega
 have c3:(0:Int)<=(a.length:Int)+1:=by omega
 have c4:(a.length:Int)+1<=(s.length:Int):=by omega
 have t1:((a.length:Int)+1).toNat=a.length+1:=by omega
 go_enter Tryz.func155,Tryz.ntmps155
 go_wp2_with (go_at_call 189;refine (index_v HI.out _).mono ?_;rintro e w' ⟨rfl,rfl⟩)
 go_quiet (fail)
 go_wp2
 go_ret3
 exact ⟨rfl,_,rfl⟩
set_option maxHeartbeats 2000000 in
set_option maxRecDepth 100000 in
theorem lcut_none {s:List UInt8}(h:cutL s=none)(w:World) :
  Calls Tryz.prog 155 #[.string (str s),.string ⟨#[10]⟩] w fun e w'=>e=.returned (.tuple #[.string (str s),.string (str []),.bool false])/\∃ n,w'=w.drewN n:=by
 have hi:=byte_nl s
 rw [h] at hi
 simp only at hi
 have HI:Hid (Lib.indexByte s 10=-1):=hi
 clear hi h
 go_enter Tryz.func155,Tryz.ntmps155
 go_wp2_with (go_at_call 189;refine (index_v HI.out _).mono ?_;rintro e w' ⟨rfl,rfl⟩)
 go_ret3
 exact ⟨rfl,0,rfl⟩
set_option maxHeartbeats 1000000 in
theorem cut_some {s a b:List UInt8}(h:cutL s=some (a,b))(hs:s.length<4294967281)(w:World)(_E:Env w) :
  Calls Tryz.prog 112 #[.string (str s),.string ⟨#[10]⟩] w fun e w'=>e=.returned (.tuple #[.string (str a),.string (str b),.bool true])/\∃ n,w'=w.drewN n:=by
 have H:Hid (cutL s=some (a,b)):=h
 clear h
 go_enter Tryz.func112,Tryz.ntmps112
 go_wp2_with (go_at_call 155;refine (lcut_some H.out hs _).mono ?_;rintro e w' ⟨rfl,m,rfl⟩)
 go_ret3
 exact ⟨rfl,_,rfl⟩
set_option maxHeartbeats 1000000 in
theorem cut_none {s:List UInt8}(h:cutL s=none)(_hs:s.length<4294967281)(w:World)(_E:Env w) :
  Calls Tryz.prog 112 #[.string (str s),.string ⟨#[10]⟩] w fun e w'=>e=.returned (.tuple #[.string (str s),.string (str []),.bool false])/\∃ n,w'=w.drewN n:=by
 have H:Hid (cutL s=none):=h
 clear h
 go_enter Tryz.func112,Tryz.ntmps112
 go_wp2_with (go_at_call 155;refine (lcut_none H.out _).mono ?_;rintro e w' ⟨rfl,m,rfl⟩)
 go_ret3
 exact ⟨rfl,_,rfl⟩
theorem fillRow_v {b W H:Nat}{cs:List Bool}{i:Int}{row:List UInt8}{r:Option (List Bool)}(hr:rowB row=r)(hi:i=cs.length)(w:World)(g:CellsAt w b W H cs)(hl:cs.length+row.length<=W*H) :
  Calls Tryz.prog 115 #[.pointer (some ⟨b,0,none⟩),.int .i64 i,.string (str row)] w fun e w'=>e=.returned (.bool r.isSome)/\Touch b w w'/\(∀ a,r=some a->CellsAt w' b W H (cs++a)):=by
 subst hr hi
 exact fillRow_any row w g hl
theorem toList_str (l:List UInt8):(str l).toList=l:=by
 rw [Lib.toList_data]
 rfl
theorem rowsB_step {W k:Nat}{rest row after:List UInt8}{x:List Bool}(hcut:cutL rest=some (row,after))(hw:row.length=W)(hro:rowB row=some x):rowsB W (k+1) rest=(rowsB W k after).map (fun l=>x++l):=by
 simp only [rowsB,hcut,hw,if_true,hro]
 cases rowsB W k after with
 |none=>rfl
 |some l=>rfl
set_option maxHeartbeats 2000000 in
set_option maxRecDepth 100000 in
theorem fill_any {b W H:Nat}(rows:List UInt8)(w:World)(E:Env w)(hb7:8<=b)(g:CellsAt w b W H [])(hl:rows.length<=1000) :
  Calls Tryz.prog 68 #[.pointer (some ⟨b,0,none⟩),.string (str rows)] w fun e w'=>e=.returned (.bool (rowsB W H rows).isSome)/\Touch b w w'/\(∀ a,rowsB W H rows=some a->CellsAt w' b W H a):=by
 have w1:=g.1.w1
 have w2:=g.1.w2
 have h1:=g.1.h1
 have h2:=g.1.h2
 go_enter Tryz.func68,Tryz.ntmps68
 go_wp2_with (go_at_call 92;refine (size_any _ g.1).mono ?_;rintro e w' ⟨rfl,m,rfl⟩)
 go_loopw [1,17] (fun r i wr=>∃ (y:Nat) (a:List Bool) (rest:List UInt8),y<=H/\i=.int .i64 y/\r=.string (str rest)/\Touch b w wr/\CellsAt wr b W H a/\a.length=y*W/\rowsB W H rows=(rowsB W (H - y) rest).map (fun l=>a++l)/\rest.length<=1000)
  (fun _ i _=>H - (intOf i).toNat)
 case atStart=>exact ⟨0,[],rows,by omega,rfl,rfl,(Touch.refl b w).drewN m,g.drewN m,by simp,by simp,hl⟩
 case round =>
  obtain ⟨y,a,rest,hy,rfl,rfl,hT,hC,hal,hrs,hrl⟩:=hrel
  have Er:=E.touch hT hb7
  by_cases hlt:y<H
  ·obtain ⟨k,hk⟩:∃ k,H - y=k+1:=⟨H - y - 1,by omega⟩
   have hk2:H - (y+1)=k:=by omega
   rw [hk] at hrs
   have y1:(y:Int)<(H:Int):=by omega
   have hyw:y*W+W<=W*H:=by
    have:=Nat.mul_le_mul_left W (show y+1<=H by omega)
    rw [Nat.mul_add,Nat.mul_comm W y] at this
    omega
   have hi:(y:Int)*(W:Int)=(a.length:Nat):=by rw [hal,Int.natCast_mul]
   have HI:Hid ((y:Int)*(W:Int)=(a.length:Nat)):=hi
   have j1:(0:Int)<=(y:Int)*W/\(y:Int)*W<=256:=by
    have:=Nat.mul_le_mul (show y<=16 by omega) (show W<=16 by omega)
    rw [<- Int.natCast_mul]
    omega
   clear hi
   cases hcut:cutL rest with
   |none =>
    have hbad:rowsB W H rows=none:=by rw [hrs];unfold rowsB;rw [hcut];rfl
    clear hrs
    go_wp2_with (go_at_call 112;refine (cut_none hcut (by omega) _ Er).mono ?_;rintro e w' ⟨rfl,m2,rfl⟩)
    go_ret
    exact ⟨by rw [hbad];rfl,hT.drewN m2,fun a' h'=>by rw [hbad] at h';cases h'⟩
   |some p =>
    obtain ⟨row,after⟩:=p
    have hcl:=cutL_len hcut
    have hsz:=str_size row
    by_cases hw:row.length=W
    ·cases hro:rowB row with
     |none =>
      have hbad:rowsB W H rows=none:=by rw [hrs];unfold rowsB;rw [hcut];simp [hw,hro]
      clear hrs
      go_wp2_with (first|(go_at_call 112;refine (cut_some hcut (by omega) _ Er).mono ?_;rintro e w' ⟨rfl,m2,rfl⟩)|(go_at_call 115;refine (fillRow_v hro HI.out _ (hC.drewN m2) (by rw [hal,hw];exact hyw)).mono ?_;rintro e w3 ⟨rfl,T3,C3⟩))
      go_ret
      exact ⟨by rw [hbad];rfl,(hT.drewN m2).trans T3,fun a' h'=>by rw [hbad] at h';cases h'⟩
     |some x =>
      have hxl:=rowB_len hro
      have hnx:rowsB W H rows=(rowsB W k after).map (fun l=>(a++x)++l):=by
       rw [hrs,rowsB_step hcut hw hro]
       cases rowsB W k after with
       |none=>rfl
       |some l=>simp
      have HX:Hid (rowsB W H rows=(rowsB W k after).map (fun l=>(a++x)++l)):=hnx
      clear hrs hnx
      go_wp2_with (first|(go_at_call 112;refine (cut_some hcut (by omega) _ Er).mono ?_;rintro e w' ⟨rfl,m2,rfl⟩)|(go_at_call 115;refine (fillRow_v hro HI.out _ (hC.drewN m2) (by rw [hal,hw];exact hyw)).mono ?_;rintro e w3 ⟨rfl,T3,C3⟩))
      go_roundw
      case rel=>exact ⟨y+1,a++x,after,by omega,by go_num,rfl,(hT.drewN m2).trans T3,C3 x rfl,by rw [List.length_append,hal,hxl,hw,Nat.succ_mul],by rw [hk2];exact HX.out,by omega⟩
      case measure=>simp [intOf];omega
    ·have hbad:rowsB W H rows=none:=by rw [hrs];unfold rowsB;rw [hcut];simp [hw]
     clear hrs
     have hne:((row.length:Int) == (W:Int))=false:=by rw [beq_eq_false_iff_ne];omega
     go_wp2_with (go_at_call 112;refine (cut_some hcut (by omega) _ Er).mono ?_;rintro e w' ⟨rfl,m2,rfl⟩)
     go_ret
     exact ⟨by rw [hbad];rfl,hT.drewN m2,fun a' h'=>by rw [hbad] at h';cases h'⟩
  ·have hyl:y=H:=by omega
   subst hyl
   rw [Nat.sub_self] at hrs
   have hts:=toList_str rest
   cases rest with
   |nil =>
    have hok:rowsB W y rows=some a:=by rw [hrs];simp [rowsB]
    clear hrs
    go_wp2
    go_ret
    exact ⟨by rw [hok];rfl,hT,fun a' h'=>by rw [hok] at h';cases h';exact hC⟩
   |cons c r =>
    have hbad:rowsB W y rows=none:=by rw [hrs];simp [rowsB]
    clear hrs
    go_wp2
    go_ret
    exact ⟨by rw [hbad];rfl,hT,fun a' h'=>by rw [hbad] at h';cases h'⟩
end
section
open Go.RowKit
theorem parts60 (v0 v1 v2 v3:Value)(_h0:v0.oneCell'=true)(w:World):(part 9 #[v0,v1,v2,v3] (0*1)).run Tryz.prog w=.ok v0 w/\(part 9 #[v0,v1,v2,v3] (1*1)).run Tryz.prog w=.ok v1 w/\(part 9 #[v0,v1,v2,v3] (2*1)).run Tryz.prog w=.ok v2 w/\(part 9 #[v0,v1,v2,v3] (3*1)).run Tryz.prog w=.ok v3 w :=
 ⟨by kernel_rfl,by kernel_rfl,by kernel_rfl,by kernel_rfl⟩
theorem cells9:Tryz.prog.cellsOf 9=1:=by kernel_rfl
theorem info9:(Tryz.prog.info? 9).isSome=true:=by kernel_rfl
theorem equalStr (d:Nat)(a b:ByteArray)(w:World):(Op.equalIn (d+1) 9 (.string a) (.string b)).run Tryz.prog w=.ok (a == b) w:=by
 simp [Op.equalIn,run_underlying Tryz.underlying9]
theorem items_step {P:Program}{d:Nat}{e:TypeId}{c i:Nat}{xs ys:Array Value}{is:List Nat}{a b:Value}{r:Bool}{w:World}(h1:(part e xs (i*c)).run P w=.ok a w)(h2:(part e ys (i*c)).run P w=.ok b w)(h3:(Op.equalIn d e a b).run P w=.ok r w) :
  (Op.eqItems d e c xs ys (i::is)).run P w=if r then (Op.eqItems d e c xs ys is).run P w else .ok false w:=by
 simp only [Op.eqItems,Sem.run_bind,h1,h2,h3,Result.andThen_ok]
 cases r <;> rfl
theorem eql60 (a0 a1 a2 a3 b0 b1 b2 b3:ByteArray)(w:World) :
  (binOp .eql 140 (.agg #[.string a0,.string a1,.string a2,.string a3]) (.agg #[.string b0,.string b1,.string b2,.string b3])).run Tryz.prog w=.ok (.bool (a0 == b0&&(a1 == b1&&(a2 == b2&&a3 == b3)))) w:=by
 obtain ⟨i,hi⟩:=Option.isSome_iff_exists.1 info9
 have h:(Op.equalIn (9999+1) 140 (.agg #[.string a0,.string a1,.string a2,.string a3]) (.agg #[.string b0,.string b1,.string b2,.string b3])).run Tryz.prog w=.ok (a0 == b0&&(a1 == b1&&(a2 == b2&&a3 == b3))) w:=by
  rw [run_equalIn_array w 9999 _ _ Tryz.underlying140 hi,cells9]
  obtain ⟨p0,p1,p2,p3⟩:=parts60 (.string a0) (.string a1) (.string a2) (.string a3) rfl w
  obtain ⟨q0,q1,q2,q3⟩:=parts60 (.string b0) (.string b1) (.string b2) (.string b3) rfl w
  have er:List.range 4=[0,1,2,3]:=rfl
  rw [er,items_step p0 q0 (equalStr 9998 a0 b0 w),items_step p1 q1 (equalStr 9998 a1 b1 w),items_step p2 q2 (equalStr 9998 a2 b2 w),items_step p3 q3 (equalStr 9998 a3 b3 w)]
  cases a0 == b0 <;> cases a1 == b1 <;> cases a2 == b2 <;> cases a3 == b3 <;> rfl
 simp only [binOp]
 simp [Op.equal,Op.maxDepth,h]
theorem beq_str (a b:List UInt8):(str a == str b)=decide (a=b):=by
 have h:(str a == str b)=(a.toArray == b.toArray):=rfl
 rw [h,Bool.eq_iff_iff,beq_iff_eq,decide_eq_true_eq]
 constructor
 ·intro h
  have:=congrArg Array.toList h
  simpa using this
 ·intro h
  rw [h]
theorem trim_v {l p r:List UInt8}(h:Lib.trimPrefix l p=r)(w:World) :
  Calls Tryz.prog 114 #[.string (str l),.string (str p)] w fun e w'=>e=.returned (.string (str r))/\w'=w:=by
 subst h
 exact Tryz.strings_TrimPrefix (str l) (str p) w
theorem trimH {l r:List UInt8}(h:Lib.trimPrefix l heightW=r)(w:World) :
  Calls Tryz.prog 114 #[.string (str l),.string ⟨#[104,101,105,103,104,116,32]⟩] w fun e w'=>e=.returned (.string (str r))/\w'=w:=trim_v h w
theorem trimW {l r:List UInt8}(h:Lib.trimPrefix l widthW=r)(w:World) :
  Calls Tryz.prog 114 #[.string (str l),.string ⟨#[119,105,100,116,104,32]⟩] w fun e w'=>e=.returned (.string (str r))/\w'=w:=trim_v h w
theorem atoi_ok {l:List UInt8}{v:Int}(h:Lib.atoiAll l=.ok v)(hl:l.length<=1000)(w:World) :
  Calls Tryz.prog 113 #[.string (str l)] w fun e w'=>e=.returned (.tuple #[.int .i64 v,.nilIface])/\Below w.heap.size w w' :=
 (Tryz.strconv_Atoi_ok (str l) (by rw [str_size];omega) v h w).mono fun e w' ⟨he,hw⟩=>⟨he,by
  rcases hw with rfl|⟨t,rfl⟩
  ·exact Below.refl _ _
  ·exact Lib.bytesWorld_below w 5 t⟩
end
section
open Go.RowKit
def four (a b c d:List UInt8):Obj:=.cells #[.string (str a),.string (str b),.string (str c),.string (str d)] 140
theorem four_at (w:World)(a b c d:List UInt8){w':World}(hb:Below (w.heap.size+1) (w.alloc (four a b c d)) w') :
  w'.cell? ⟨w.heap.size,0,none⟩=some (.string (str a))/\w'.cell? ⟨w.heap.size,1,none⟩=some (.string (str b))/\w'.cell? ⟨w.heap.size,2,none⟩=some (.string (str c))/\w'.cell? ⟨w.heap.size,3,none⟩=some (.string (str d)):=by
 have h:∀ j,w'.cell? ⟨w.heap.size,j,none⟩=(w.alloc (four a b c d)).cell? ⟨w.heap.size,j,none⟩:=fun j=>hb.cell (p:=⟨w.heap.size,j,none⟩) (Nat.lt_succ_self _)
 refine ⟨?_,?_,?_,?_⟩ <;> (rw [h];unfold four;rw [World.cell?_alloc_new];rfl)
theorem trim_len (l p:List UInt8)(h:l.length<=1000):(Lib.trimPrefix l p).length<=1000:=by
 unfold Lib.trimPrefix
 split
 ·rw [List.length_drop];omega
 ·exact h
set_option maxHeartbeats 4000000 in
set_option maxRecDepth 100000 in
theorem size_both {a b c d:List UInt8}{v1 v2:Int}(h:Lib.atoiAll (Lib.trimPrefix b heightW)=.ok v1)(h2:Lib.atoiAll (Lib.trimPrefix c widthW)=.ok v2)(hb:b.length<=1000)(hc:c.length<=1000)(w:World)(E:Env w) :
  Calls Tryz.prog 67 #[.agg #[.string (str a),.string (str b),.string (str c),.string (str d)]] w fun e w'=>e=.returned (.tuple #[.int .i64 v2,.int .i64 v1,.bool (decide (a=typeW)&&(decide (b=heightW++Lib.itoa v1)&&(decide (c=widthW++Lib.itoa v2)&&decide (d=mapW))))])/\Below w.heap.size w w':=by
 have bd1:=Lib.atoiAll_bounds h
 have bd2:=Lib.atoiAll_bounds h2
 obtain ⟨tb,etb⟩:∃ l,Lib.trimPrefix b heightW=l:=⟨_,rfl⟩
 obtain ⟨tc,etc⟩:∃ l,Lib.trimPrefix c widthW=l:=⟨_,rfl⟩
 have lb:=trim_len b heightW hb
 have lc:=trim_len c widthW hc
 rw [etb] at h lb
 rw [etc] at h2 lc
 have HB:Hid (Lib.trimPrefix b heightW=tb):=etb
 have HC:Hid (Lib.trimPrefix c widthW=tc):=etc
 have HA:Hid (Lib.atoiAll tb=.ok v1):=h
 have HA2:Hid (Lib.atoiAll tc=.ok v2):=h2
 clear etb etc h h2
 rw [<- beq_str,<- beq_str,<- beq_str,<- beq_str]
 obtain ⟨la,ea⟩:∃ l,typeW=l:=⟨_,rfl⟩
 obtain ⟨lb',eb⟩:∃ l,heightW++Lib.itoa v1=l:=⟨_,rfl⟩
 obtain ⟨lc',ec⟩:∃ l,widthW++Lib.itoa v2=l:=⟨_,rfl⟩
 obtain ⟨ld,ed⟩:∃ l,mapW=l:=⟨_,rfl⟩
 rw [ea,eb,ec,ed]
 have H1:Hid (typeW=la):=ea
 have H2:Hid (heightW++Lib.itoa v1=lb'):=eb
 have H3:Hid (widthW++Lib.itoa v2=lc'):=ec
 have H4:Hid (mapW=ld):=ed
 clear ea eb ec ed
 have heq:=eql60 (str a) (str b) (str c) (str d) (str la) (str lb') (str lc') (str ld)
 have hb0:Below w.heap.size w (w.alloc (four a b c d)):=(Below.refl _ _).alloc (Nat.le_refl _) _
 obtain ⟨k0,k1,k2,k3⟩:=four_at w a b c d (Below.refl _ _)
 unfold four at hb0 k0 k1 k2 k3
 go_enter Tryz.func67,Tryz.ntmps67
 go_wp2_with (first|(go_at_call 114;refine (trimH HB.out _).mono ?_;rintro e w' ⟨rfl,rfl⟩)|(go_at_call 113;refine (atoi_ok HA.out lb _).mono ?_))
 rintro e w1 ⟨rfl,hb1⟩
 have sz1:=hb1.size
 simp only [World.size_alloc] at sz1
 obtain ⟨k0,k1,k2,k3⟩:=four_at w a b c d (show Below (w.heap.size+1) _ w1 from by simpa [four] using hb1)
 have hb01:=hb0.trans (hb1.mono (by simp))
 go_wp2_with (first|(go_at_call 114;refine (trimW HC.out _).mono ?_;rintro e w' ⟨rfl,rfl⟩)|(go_at_call 113;refine (atoi_ok HA2.out lc _).mono ?_))
 rintro e w2 ⟨rfl,hb2⟩
 have sz2:=hb2.size
 have hb02:=hb01.trans (hb2.mono (by omega))
 have E2:=E.grown hb02
 have S0:∀ x:Since w2,x.u.cell? ⟨w.heap.size,0,none⟩=some (.string (str a)):=fun x=>((x.cell _ _ (by omega)).trans (hb2.cell (p:=⟨w.heap.size,0,none⟩) (by show w.heap.size<_;omega))).trans k0
 have S1:∀ x:Since w2,x.u.cell? ⟨w.heap.size,1,none⟩=some (.string (str b)):=fun x=>((x.cell _ _ (by omega)).trans (hb2.cell (p:=⟨w.heap.size,1,none⟩) (by show w.heap.size<_;omega))).trans k1
 have S2:∀ x:Since w2,x.u.cell? ⟨w.heap.size,2,none⟩=some (.string (str c)):=fun x=>((x.cell _ _ (by omega)).trans (hb2.cell (p:=⟨w.heap.size,2,none⟩) (by show w.heap.size<_;omega))).trans k2
 have S3:∀ x:Since w2,x.u.cell? ⟨w.heap.size,3,none⟩=some (.string (str d)):=fun x=>((x.cell _ _ (by omega)).trans (hb2.cell (p:=⟨w.heap.size,3,none⟩) (by show w.heap.size<_;omega))).trans k3
 have hne:Nonempty (Since w2):=⟨⟨w2,Below.refl _ _⟩⟩
 go_wp2
 refine wp_region_since (by kernel_rfl) (by kernel_rfl) ?_
 repeat (go_big_quiet_step (first|(go_at_call 93;exact Calls.since_of (headOf_v H1.out H2.out H3.out H4.out bd2.1 bd2.2 bd1.1 bd1.2 _ (E2.grown (Since.h _))))))
 refine wpQuiet_nil ?_
 rintro _ ⟨x,rfl⟩
 have hzx:=x.h.size
 go_wp2
 go_ret3
 exact ⟨rfl,hb02.trans (x.h.mono (by omega))⟩
end
section
open Go.RowKit
theorem size_ok {a b c d:List UInt8}{W H:Int}(h:sizeOf4 a b c d=some (W,H))(hb:b.length<=1000)(hc:c.length<=1000)(w:World)(E:Env w) :
  Calls Tryz.prog 67 #[.agg #[.string (str a),.string (str b),.string (str c),.string (str d)]] w fun e w'=>e=.returned (.tuple #[.int .i64 W,.int .i64 H,.bool true])/\Below w.heap.size w w':=by
 obtain ⟨ea,eb,ec,ed,nb,nc⟩:=sizeOf4_some h
 have bb:=(numOf_iff.1 nb).2
 have bc:=(numOf_iff.1 nc).2
 have h1:Lib.atoiAll (Lib.trimPrefix b heightW)=.ok H:=by rw [eb,trim_app];exact atoi_itoa H bb.1 bb.2
 have h2:Lib.atoiAll (Lib.trimPrefix c widthW)=.ok W:=by rw [ec,trim_app];exact atoi_itoa W bc.1 bc.2
 refine (size_both h1 h2 hb hc w E).mono fun e w' ⟨he,hw⟩=>⟨?_,hw⟩
 rw [he,decide_eq_true ea,decide_eq_true eb,decide_eq_true ec,decide_eq_true ed]
 rfl
def cutN:Nat->List UInt8->Option (List (List UInt8) × List UInt8)
 |0,s=>some ([],s)
 |n+1,s=>match cutL s with
  |none=>none
  |some p=>match cutN n p.2 with
   |none=>none
   |some q=>some (p.1::q.1,q.2)
theorem cut4_N (s:List UInt8):cutN 4 s=(cut4 s).map fun p=>([p.1,p.2.1,p.2.2.1,p.2.2.2.1],p.2.2.2.2):=by
 unfold cut4
 simp only [cutN]
 cases cutL s with
 |none=>rfl
 |some p =>
  simp only
  cases cutL p.2 with
  |none=>rfl
  |some q =>
   simp only
   cases cutL q.2 with
   |none=>rfl
   |some r =>
    simp only
    cases cutL r.2 with
    |none=>rfl
    |some t=>rfl
theorem cutN_step {n:Nat}{s a r:List UInt8}(h:cutL s=some (a,r)):cutN (n+1) s=(cutN n r).map fun q=>(a::q.1,q.2):=by
 simp only [cutN,h]
 cases cutN n r <;> rfl
def LinesAt (w:World) (b:Nat) (ls:List (List UInt8)):Prop:=∀ i,i<4->w.cell? ⟨b,i,none⟩=some (.string (str (ls.getD i [])))
theorem LinesAt.set {w:World}{b:Nat}{ls:List (List UInt8)}(h:LinesAt w b ls)(l:List UInt8)(hl:ls.length<4):LinesAt (w.setCell ⟨b,ls.length,none⟩ (.string (str l))) b (ls++[l]):=by
 intro i hi
 by_cases e:i=ls.length
 ·subst e
  rw [World.cell?_setCell_same _ _ _ (h _ hl)]
  simp
 ·rw [World.cell?_setCell_other _ _ _ _ (addr_ne (by omega)),h i hi]
  congr 3
  simp only [List.getD_eq_getElem?_getD]
  rcases Nat.lt_or_ge i ls.length with h1|h1
  ·rw [List.getElem?_append_left h1]
  ·rw [List.getElem?_eq_none h1,List.getElem?_eq_none (by simp;omega)]
theorem alloc4_free (w:World)(c:Array Value)(t:TypeId):Free (w.alloc (.cells c t)) w.heap.size:=free_alloc w c t _ (Nat.le_refl _)
theorem LinesAt.all {w:World}{b:Nat}{l0 l1 l2 l3:List UInt8}(h:LinesAt w b [l0,l1,l2,l3]):w.cell? ⟨b,0,none⟩=some (.string (str l0))/\w.cell? ⟨b,1,none⟩=some (.string (str l1))/\w.cell? ⟨b,2,none⟩=some (.string (str l2))/\w.cell? ⟨b,3,none⟩=some (.string (str l3)) :=
 ⟨h 0 (by decide),h 1 (by decide),h 2 (by decide),h 3 (by decide)⟩
theorem LinesAt.none {w:World}{b:Nat}(h:LinesAt w b []):w.cell? ⟨b,0,none⟩=some (.string ⟨#[]⟩)/\w.cell? ⟨b,1,none⟩=some (.string ⟨#[]⟩)/\w.cell? ⟨b,2,none⟩=some (.string ⟨#[]⟩)/\w.cell? ⟨b,3,none⟩=some (.string ⟨#[]⟩) :=
 ⟨h 0 (by decide),h 1 (by decide),h 2 (by decide),h 3 (by decide)⟩
theorem lines_new (w:World)(w':World)(hb:Below (w.heap.size+1) (w.alloc (.cells #[.string ⟨#[]⟩,.string ⟨#[]⟩,.string ⟨#[]⟩,.string ⟨#[]⟩] 140)) w'):LinesAt w' w.heap.size []/\Free w' w.heap.size:=by
 constructor
 ·intro i hi
  rw [hb.cell (p:=⟨w.heap.size,i,Option.none⟩) (Nat.lt_succ_self _),World.cell?_alloc_new]
  match i,hi with
  |0,_=>rfl
  |1,_=>rfl
  |2,_=>rfl
  |3,_=>rfl
 ·intro o
  rw [hb.frozen (p:=⟨w.heap.size,o,Option.none⟩) (Nat.lt_succ_self _)]
  exact alloc4_free w _ _ o
theorem there_lines {w:World}{b:Nat}{ls:List (List UInt8)}(h:LinesAt w b ls)(f:Free w b):w.there b 0 4:=there4 (fun j hj=>⟨_,h j hj⟩) f
theorem below_set4 {B b:Nat}{a w:World}{v0 v1 v2 v3:Value}(h:Below B a w)(hB:B<=b):Below B a ((((w.setCell ⟨b,0,none⟩ v0).setCell ⟨b,1,none⟩ v1).setCell ⟨b,2,none⟩ v2).setCell ⟨b,3,none⟩ v3) :=
 (((h.setCell (p:=⟨b,0,none⟩) hB _).setCell (p:=⟨b,1,none⟩) hB _).setCell (p:=⟨b,2,none⟩) hB _).setCell (p:=⟨b,3,none⟩) hB _
theorem LinesAt.touch {w w':World}{b:Nat}{ls:List (List UInt8)}(h:LinesAt w b ls){c o:Nat}{v:Value}(hw:w'=w.setCell ⟨c,o,Option.none⟩ v)(hne:b≠c):LinesAt w' b ls:=fun i hi=>by
 rw [hw,World.cell?_setCell_other _ _ _ _ (by intro e;cases e;exact hne rfl)]
 exact h i hi
def HeadPost (s:List UInt8) (e:Ending):Prop:=match cut4 s with
 |none=>e=.returned (.tuple #[.agg #[.string (str []),.string (str []),.string (str []),.string (str [])],.string (str []),.bool false])
 |some (a,b,c,d,r)=>e=.returned (.tuple #[.agg #[.string (str a),.string (str b),.string (str c),.string (str d)],.string (str r),.bool true])
set_option maxHeartbeats 4000000 in
set_option maxRecDepth 100000 in
theorem cutHead_any (s:List UInt8)(hs:s.length<=1000)(w:World)(E:Env w) :
  Calls Tryz.prog 66 #[.string (str s)] w fun e w'=>HeadPost s e/\Below w.heap.size w w':=by
 go_enter Tryz.func66,Tryz.ntmps66
 go_wp2
 go_loopw [6,12] (fun r i wr=>∃ (j:Nat) (ls:List (List UInt8)) (rest:List UInt8),j<=4/\ls.length=j/\i=.int .i64 j/\r=.string (str rest)/\rest.length<=1000/\cutN 4 s=(cutN (4 - j) rest).map (fun q=>(ls++q.1,q.2)) /\
   LinesAt wr w.heap.size []/\LinesAt wr (w.heap.size+1) ls/\Free wr w.heap.size/\Free wr (w.heap.size+1)/\Below w.heap.size w wr)
  (fun _ i _=>4 - (intOf i).toNat)
 case atStart =>
  have b1:Below (w.heap.size+1) (w.alloc (.cells #[.string ⟨#[]⟩,.string ⟨#[]⟩,.string ⟨#[]⟩,.string ⟨#[]⟩] 140)) ((w.alloc (.cells #[.string ⟨#[]⟩,.string ⟨#[]⟩,.string ⟨#[]⟩,.string ⟨#[]⟩] 140)).alloc (.cells #[.string ⟨#[]⟩,.string ⟨#[]⟩,.string ⟨#[]⟩,.string ⟨#[]⟩] 140)):=(Below.refl _ _).alloc (by simp) _
  obtain ⟨L0,F0⟩:=lines_new w _ b1
  obtain ⟨L1,F1⟩:=lines_new (w.alloc (.cells #[.string ⟨#[]⟩,.string ⟨#[]⟩,.string ⟨#[]⟩,.string ⟨#[]⟩] 140)) _ (Below.refl _ _)
  rw [World.size_alloc] at L1 F1
  exact ⟨0,[],s,by omega,rfl,rfl,rfl,hs,by simp,L0,L1,F0,F1,((Below.refl _ _).alloc (Nat.le_refl _) _).alloc (by simp) _⟩
 case round =>
  obtain ⟨j,ls,rest,hj,hls,rfl,rfl,hrl,hcn,L0,L1,F0,F1,hB⟩:=hrel
  have Er:=E.grown hB
  by_cases hlt:j<4
  ·have hst:=fun l=>L1.set l (by rw [hls];exact hlt)
   rw [hls] at hst
   have c1:=L1 j hlt
   have f1:=F1 j
   obtain ⟨k,hk⟩:∃ k,4 - j=k+1:=⟨3 - j,by omega⟩
   have hk2:4 - (j+1)=k:=by omega
   rw [hk] at hcn
   have j1:(0:Int)<=(j:Int)/\(j:Int)<4:=by omega
   cases hcut:cutL rest with
   |none =>
    have hno:cut4 s=none:=by
     have h4:=cut4_N s
     rw [hcn] at h4
     simp only [cutN,hcut,Option.map_none] at h4
     cases hc4:cut4 s with
     |none=>rfl
     |some p=>rw [hc4] at h4;cases h4
    have ht:=there_lines L0 F0
    obtain ⟨r0,r1,r2,r3⟩:=L0.none
    have f0:=F0 0
    have f1:=F0 1
    have f2:=F0 2
    have f3:=F0 3
    have HNO:Hid (cut4 s=none):=hno
    clear hcn hst L0 L1 F0 F1 hno
    go_wp2_with (go_at_call 112;refine (cut_none hcut (by omega) _ Er).mono ?_;rintro e w' ⟨rfl,m2,rfl⟩)
    (try simp only [Exit.inBlock,Exit.then])
    refine bodyPost_ret (results_arr3 rfl _ _ w.heap.size _ _ rfl (range4 (wr.drewN m2) w.heap.size _ _ _ _ ht) Tryz.underlying140 rfl info60) rfl ⟨by unfold HeadPost;rw [HNO.out];rfl,?_⟩
    exact below_set4 (below_drewN hB m2) (Nat.le_refl _)
   |some p =>
    obtain ⟨l,after⟩:=p
    have hcl:=cutL_len hcut
    have hnx:cutN 4 s=(cutN k after).map (fun q=>((ls++[l])++q.1,q.2)):=by
     rw [hcn,cutN_step hcut]
     cases cutN k after with
     |none=>rfl
     |some q=>simp
    have HX:Hid (cutN 4 s=(cutN k after).map (fun q=>((ls++[l])++q.1,q.2))):=hnx
    have hne:w.heap.size≠w.heap.size+1:=by omega
    have HST:Hid (LinesAt (wr.setCell ⟨w.heap.size+1,j,none⟩ (.string (str l))) (w.heap.size+1) (ls++[l])):=hst l
    clear hcn hst hnx
    go_wp2_with (go_at_call 112;refine (cut_some hcut (by omega) _ Er).mono ?_;rintro e w' ⟨rfl,m2,rfl⟩)
    go_roundw
    case rel=>exact ⟨j+1,ls++[l],after,by omega,by simp [hls],by go_num,rfl,by omega,by rw [hk2];exact HX.out,L0.touch (w':=wr.setCell ⟨w.heap.size+1,j,none⟩ (.string (str l))) rfl hne,HST.out,fun o=>by simpa using F0 o,fun o=>by simpa using F1 o,(below_drewN hB m2).setCell (p:=⟨w.heap.size+1,j,none⟩) (Nat.le_succ _) _⟩
    case measure=>simp [intOf];omega
  ·have h4:ls.length=4:=by omega
   obtain ⟨a,b,c,d,rfl⟩:∃ a b c d,ls=[a,b,c,d]:=by
    match ls,h4 with
    |[a,b,c,d],_=>exact ⟨a,b,c,d,rfl⟩
   have hyes:cut4 s=some (a,b,c,d,rest):=by
    have h4:=cut4_N s
    rw [hcn] at h4
    have e0:4 - j=0:=by omega
    rw [e0] at h4
    simp only [cutN,Option.map_some,List.append_nil] at h4
    cases hc4:cut4 s with
    |none=>rw [hc4] at h4;cases h4
    |some p =>
     rw [hc4] at h4
     simp at h4
     obtain ⟨⟨e1,e2,e3,e4⟩,e5⟩:=h4
     rw [e1,e2,e3,e4,e5]
   have ht:=there_lines L0 F0
   obtain ⟨r0,r1,r2,r3⟩:=L0.none
   obtain ⟨c0,c1,c2,c3⟩:=L1.all
   have f0:=F0 0
   have f1:=F0 1
   have f2:=F0 2
   have f3:=F0 3
   have HY:Hid (cut4 s=some (a,b,c,d,rest)):=hyes
   have hj4:j=4:=by omega
   clear hcn L0 L1 F0 F1 hyes hls h4
   subst hj4
   rw [show ((4:Nat):Int)=4 from rfl]
   go_wp2
   (try simp only [Exit.inBlock,Exit.then])
   refine bodyPost_ret (results_arr3 rfl _ _ w.heap.size _ _ rfl (range4 wr w.heap.size _ _ _ _ ht) Tryz.underlying140 rfl info60) rfl ⟨by unfold HeadPost;rw [HY.out];rfl,?_⟩
   exact below_set4 hB (Nat.le_refl _)
end
end Go.Proofs.YtmaefimaeelkbaaGreatDoor
