/-
  Texts laid together: Fill, Print, Parse, Size.
-/
import Derived.Test.YtipbhlofbpnpjaaGreatDoorQ36
import Derived.Test.YtipbhlofbpnpjaaGreatDoorQ3
import Derived.Test.YtipbhlofbpnpjaaGreatDoorQ33
import Derived.Deep.LoopGhost
import Derived.Deep.Light
import Derived.ChangeKeysEq
namespace Go.Proofs.YtipbhlofbpnpjaaGreatDoor
section
open Go.RowKit
theorem cellB_none {c:UInt8}(h:cellB c=none):((c.toNat:Int) == 46)=false/\((c.toNat:Int) == 71)=false/\((c.toNat:Int) == 83)=false/\((c.toNat:Int) == 64)=false/\((c.toNat:Int) == 79)=false/\((c.toNat:Int) == 84)=false/\((c.toNat:Int) == 87)=false:=by
 have key:∀ d:UInt8,c≠d->((c.toNat:Int) == (d.toNat:Int))=false:=fun d hd=>by
  rw [beq_eq_false_iff_ne]
  intro e
  exact hd (UInt8.toNat_inj.1 (by omega))
 unfold cellB at h
 split at h
 ·cases h
 ·rename_i h1
  split at h
  ·cases h
  ·rename_i h2
   simp only [not_or] at h1 h2
   exact ⟨key 46 h1.1,key 71 h1.2.1,key 83 h1.2.2,key 64 h2.1,key 79 h2.2.1,key 84 h2.2.2.1,key 87 h2.2.2.2⟩
theorem cellB_some {c:UInt8}{b:Bool}(h:cellB c=some b):(b=false/\(c=46\/c=71\/c=83))\/(b=true/\(c=64\/c=79\/c=84\/c=87)):=by
 unfold cellB at h
 split at h
 ·rename_i h1
  exact .inl ⟨by simpa using h.symm,h1⟩
 ·split at h
  ·rename_i h2
   exact .inr ⟨by simpa using h.symm,h2⟩
  ·cases h
set_option maxHeartbeats 1000000 in
theorem cellOf_none {c:UInt8}(h:cellB c=none) (w:World) :
  Calls Tryz.prog 170 #[.int .u8 c.toNat] w fun e w'=>e=.returned (.tuple #[.bool false,.bool false])/\w'=w:=by
 obtain ⟨h1,h2,h3,h4,h5,h6,h7⟩:=cellB_none h
 clear h
 generalize (c.toNat:Int)=n at *
 go_enter Tryz.func170,Tryz.ntmps170
 go_wp2
 go_ret2
 exact ⟨rfl,rfl⟩
set_option maxHeartbeats 1000000 in
theorem cellOf_some {c:UInt8}{b:Bool}(h:cellB c=some b) (w:World) :
  Calls Tryz.prog 170 #[.int .u8 c.toNat] w fun e w'=>e=.returned (.tuple #[.bool b,.bool true])/\w'=w:=by
 rcases cellB_some h with ⟨rfl,rfl | rfl | rfl⟩ | ⟨rfl,rfl | rfl | rfl | rfl⟩
 all_goals
  clear h
  go_enter Tryz.func170,Tryz.ntmps170
  go_wp2
  go_ret2
  exact ⟨rfl,rfl⟩
theorem Touch.trans {b:Nat}{u v w:World}(h:Touch b u v) (k:Touch b v w):Touch b u w :=
 ⟨k.os.trans h.os,k.tape.trans h.tape,k.output.trans h.output,k.size.trans h.size,fun i hi=>(k.other i hi).trans (h.other i hi)⟩
def cellsF (cs:List Bool) (i:Nat):Bool:=cs.getD i false
theorem cellsF_false (cs:List Bool):cellsF (cs++[false])=cellsF cs:=by
 funext i
 unfold cellsF
 simp only [List.getD_eq_getElem?_getD]
 rcases Nat.lt_trichotomy i cs.length with h | h | h
 ·rw [List.getElem?_append_left h]
 ·subst h
  simp
 ·rw [List.getElem?_eq_none (by simp;omega),List.getElem?_eq_none (by omega)]
theorem cellsF_true (cs:List Bool):upd (cellsF cs) cs.length true=cellsF (cs++[true]):=by
 funext i
 unfold upd cellsF
 simp only [List.getD_eq_getElem?_getD]
 rcases Nat.lt_trichotomy i cs.length with h | h | h
 ·rw [if_neg (by omega),List.getElem?_append_left h]
 ·subst h
  simp
 ·rw [if_neg (by omega),List.getElem?_eq_none (show cs.length<=i by omega),List.getElem?_eq_none (by rw [List.length_append];simp;omega)]
theorem cellsF_at (cs:List Bool):cellsF cs cs.length=false:=by
 unfold cellsF
 simp
def blocks (cs:List Bool):Nat:=cs.count true
theorem blocks_true (cs:List Bool):(blocks (cs++[true]):Int)=blocks cs+1:=by
 unfold blocks
 rw [List.count_append]
 simp
theorem blocks_false (cs:List Bool):blocks (cs++[false])=blocks cs:=by
 unfold blocks
 rw [List.count_append]
 simp
theorem blocks_le (cs:List Bool):blocks cs<=cs.length:=List.count_le_length
def CellsAt (w:World) (b:Nat) (W H:Nat) (cs:List Bool):Prop:=GridAt w b W H (blocks cs) (cellsF cs)/\Free w b
theorem rowB_take {row:List UInt8}{j:Nat}{a:List Bool}(h:rowB (row.take j)=some a) (hj:j < row.length):rowB (row.take (j+1))=(cellB row[j]).map (fun b=>a++[b]):=by
 have key:∀ (l:List UInt8) (a:List Bool) (c:UInt8),rowB l=some a->rowB (l++[c])=(cellB c).map fun b=>a++[b]:=by
  intro l
  induction l with
  | nil =>
    intro a c ha
    simp [rowB] at ha
    subst ha
    simp only [List.nil_append,rowB]
    cases cellB c <;> rfl
  | cons x l ih =>
    intro a c ha
    simp only [List.cons_append,rowB] at ha ⊢
    cases hx:cellB x with
    | none=>simp [hx] at ha
    | some b =>
      simp only [hx] at ha ⊢
      cases hl:rowB l with
      | none=>simp [hl] at ha
      | some m =>
        simp only [hl,Option.some.injEq] at ha
        subst ha
        rw [ih m c hl]
        cases cellB c <;> rfl
 rw [List.take_add_one,List.getElem?_eq_getElem hj]
 exact key _ _ _ h
theorem rowB_none {row:List UInt8}:∀ {j:Nat},rowB (row.take j)=none->rowB row=none:=by
 have key:∀ (l m:List UInt8),rowB l=none->rowB (l++m)=none:=by
  intro l m
  induction l with
  | nil=>intro h;simp [rowB] at h
  | cons x l ih =>
    intro h
    simp only [List.cons_append,rowB] at h ⊢
    cases hx:cellB x with
    | none=>simp
    | some b =>
      simp only [hx] at h ⊢
      cases hl:rowB l with
      | none=>rw [ih hl]
      | some q=>simp [hl] at h
 intro j h
 have:=key _ (row.drop j) h
 rwa [List.take_append_drop] at this
theorem inB_nat {W H c:Nat}(h:c < W*H):inB W H c=true:=decide_eq_true ⟨by omega,by rw [<- Int.natCast_mul];omega⟩
theorem set_false {b W H:Nat}{cs:List Bool}{i:Int}(hi:i=cs.length) (w:World) (g:CellsAt w b W H cs) (hlt:cs.length < W*H) :
  Calls Tryz.prog 70 #[.pointer (some ⟨b,0,none⟩),.int .i64 i,.bool false] w fun e w'=>e=.returned (.tuple #[.bool false,.nilIface])/\∃ m,w'=w.drewN m:=by
 subst hi
 exact set_same cs.length false w g.1 (inB_nat hlt) (cellsF_at cs)
theorem set_true {b W H:Nat}{cs:List Bool}{i:Int}(hi:i=cs.length) (w:World) (g:CellsAt w b W H cs) (hlt:cs.length < W*H) (hm:cs.length<=1000000) :
  Calls Tryz.prog 70 #[.pointer (some ⟨b,0,none⟩),.int .i64 i,.bool true] w fun e w'=>e=.returned (.tuple #[.bool true,.nilIface])/\Touch b w w'/\CellsAt w' b W H (cs++[true]):=by
 subst hi
 have hb:=blocks_le cs
 refine (set_new cs.length true w g.1 g.2 (inB_nat hlt) (cellsF_at cs) (by omega) (by omega)).mono fun e w' ⟨he,hT,hG,hF⟩=>⟨he,hT,?_,hF⟩
 rw [cellsF_true,<- blocks_true] at hG
 exact hG
theorem CellsAt.false {w:World}{b W H:Nat}{cs:List Bool}(g:CellsAt w b W H cs):CellsAt w b W H (cs++[false]):=by
 unfold CellsAt
 rw [cellsF_false,blocks_false]
 exact g
theorem CellsAt.drewN {w:World}{b W H:Nat}{cs:List Bool}(g:CellsAt w b W H cs) (m:Nat):CellsAt (w.drewN m) b W H cs:=⟨g.1.drewN m,g.2⟩
theorem idx_str (l:List UInt8) (j:Nat) (hj:j < l.length) (w:World):(Instr.index 9 (.string (str l)) (.int .i64 j)).run Tryz.prog w=.ok (.int .u8 (l[j]).toNat) w:=by
 rw [run_index_string w 9 (str l) .i64 j Tryz.underlying9,dif_pos ⟨by omega,by rw [str_size];omega⟩]
 congr 1
set_option maxHeartbeats 2000000 in
set_option maxRecDepth 100000 in
theorem fillRow_any {b W H:Nat}{cs:List Bool}(row:List UInt8) (w:World) (g:CellsAt w b W H cs) (hl:cs.length+row.length<=W*H) :
  Calls Tryz.prog 129 #[.pointer (some ⟨b,0,none⟩),.int .i64 cs.length,.string (str row)] w fun e w'=>e=.returned (.bool (rowB row).isSome)/\Touch b w w'/\(∀ a,rowB row=some a->CellsAt w' b W H (cs++a)):=by
 have w1:=g.1.w1
 have w2:=g.1.w2
 have h1:=g.1.h1
 have h2:=g.1.h2
 have k2:W*H<=16*16:=Nat.mul_le_mul (by omega) (by omega)
 have hsz:=str_size row
 obtain ⟨N,hN⟩:∃ N,W*H=N:=⟨_,rfl⟩
 have HN:Hid (W*H=N):=hN
 rw [hN] at hl k2
 clear hN
 go_enter Tryz.func129,Tryz.ntmps129
 go_wp2
 go_loopw [14] (fun i wr=>∃ (j:Nat) (a:List Bool),j<=row.length/\i=.int .i64 j/\rowB (row.take j)=some a/\Touch b w wr/\CellsAt wr b W H (cs++a))
  (fun i _=>row.length - (intOf i).toNat)
 case atStart=>exact ⟨0,[],by omega,rfl,rfl,Touch.refl b w,by simpa using g⟩
 case round =>
  obtain ⟨j,a,hj,rfl,ha,hT,hC⟩:=hrel
  by_cases hlt:j < row.length
  ·have hal:=rowB_len ha
   rw [List.length_take,Nat.min_eq_left hj] at hal
   have hcl:(cs++a).length=cs.length+j:=by rw [List.length_append,hal]
   have hta:=rowB_take ha hlt
   have hix:=idx_str row j hlt
   have hno:rowB (row.take (j+1))=none->rowB row=none:=rowB_none
   generalize row[j]=c at hta hix
   have hi:(cs.length:Int)+j=((cs++a).length:Nat):=by rw [hcl];omega
   have hin:(cs++a).length < W*H:=by rw [hcl,HN.out];omega
   have him:(cs++a).length<=1000000:=by rw [hcl];omega
   have HI:Hid ((cs.length:Int)+j=((cs++a).length:Nat)):=hi
   have j1:(0:Int)<=(cs.length:Int)+j/\(cs.length:Int)+j<=1000000:=by omega
   clear hi hcl hal
   cases hc:cellB c with
   | none =>
     have hbad:rowB row=none:=hno (by rw [hta,hc];rfl)
     clear hta
     go_wp2_with (first | (go_at_call 170;refine (cellOf_none hc _).mono ?_;rintro e w' ⟨rfl,rfl⟩) | (go_at_call 70;refine (set_false HI.out _ hC hin).mono ?_;rintro e w' ⟨rfl,m,rfl⟩))
     go_ret
     exact ⟨by rw [hbad];rfl,hT.drewN m,fun a' h'=>by rw [hbad] at h';cases h'⟩
   | some v =>
     rw [hc] at hta
     have HTA:Hid (rowB (row.take (j+1))=some (a++[v])):=hta
     clear hta
     cases v with
     | false =>
       go_wp2_with (first | (go_at_call 170;refine (cellOf_some hc _).mono ?_;rintro e w' ⟨rfl,rfl⟩) | (go_at_call 70;refine (set_false HI.out _ hC hin).mono ?_;rintro e w' ⟨rfl,m,rfl⟩))
       go_roundw
       case rel=>exact ⟨j+1,a++[false],by omega,by go_num,HTA.out,hT.drewN m,by rw [<- List.append_assoc];exact (hC.drewN m).false⟩
       case measure=>simp [intOf];omega
     | true =>
       go_wp2_with (first | (go_at_call 170;refine (cellOf_some hc _).mono ?_;rintro e w' ⟨rfl,rfl⟩) | (go_at_call 70;refine (set_true HI.out _ hC hin him).mono ?_;rintro e w3 ⟨rfl,T3,C3⟩))
       go_roundw
       case rel=>exact ⟨j+1,a++[true],by omega,by go_num,HTA.out,hT.trans T3,by rw [<- List.append_assoc];exact C3⟩
       case measure=>simp [intOf];omega
  ·have hjl:j=row.length:=by omega
   subst hjl
   rw [List.take_length] at ha
   go_wp2
   go_ret
   exact ⟨by rw [ha];rfl,hT,fun a' h'=>by rw [ha] at h';cases h';exact hC⟩
end
section
open Go.RowKit
theorem headV_str (w h:Int):headV w h=#[.string (str typeW),.string (str (heightW++Lib.itoa h)),.string (str (widthW++Lib.itoa w)),.string (str mapW)]:=by
 unfold headV
 rw [str_append,str_append]
theorem headOf_v {W H:Int}{a b c d:List UInt8}(ha:typeW=a) (hb:heightW++Lib.itoa H=b) (hc:widthW++Lib.itoa W=c) (hd:mapW=d) (a0:-9223372036854775808<=W) (a1:W<=9223372036854775807) (b0:-9223372036854775808<=H) (b1:H<=9223372036854775807) (w:World) (E:Env w) :
  Calls Tryz.prog 93 #[.int .i64 W,.int .i64 H] w fun e w'=>e=.returned (.agg #[.string (str a),.string (str b),.string (str c),.string (str d)])/\Below w.heap.size w w':=by
 subst ha hb hc hd
 exact (headOf_any W H a0 a1 b0 b1 w E).mono fun e w' ⟨he,h⟩=>⟨by rw [he,headV_str],h⟩
theorem rowL_snoc (bl:Nat->Bool) (c x:Nat):rowL bl c (x+1)=rowL bl c x++[byteL (bl (c+x))]:=by
 unfold rowL
 rw [List.range_succ,List.map_append]
 rfl
end
section
open Go.RowKit
theorem Touch.under {b:Nat}{w w':World}(h:Touch b w w'):Below b w w':=h.below (Below.refl _ _) (Nat.le_refl _)
theorem Env.touch {b:Nat}{w w':World}(h:Env w) (t:Touch b w w') (hb:8<=b):Env w':=h.below t.under hb
theorem cutL_len {s a b:List UInt8}(h:cutL s=some (a,b)):a.length+b.length+1=s.length:=by
 obtain ⟨e,_⟩:=cutL_some h
 rw [e]
 simp
 omega
theorem byte_nl:∀ (s:List UInt8),match cutL s with | none=>Lib.indexByte s 10=-1 | some p=>Lib.indexByte s 10=(p.1.length:Int)
 | []=>rfl
 | c::r=>by
   have ih:=byte_nl r
   unfold cutL
   by_cases hc:c=10
   ·rw [if_pos hc]
    subst hc
    simp [Lib.indexByte]
   ·rw [if_neg hc]
    have hb:(c == 10)=false:=by simpa using hc
    cases h:cutL r with
    | none =>
      rw [h] at ih
      simp only at ih ⊢
      unfold Lib.indexByte
      rw [hb,ih]
      rfl
    | some p =>
      rw [h] at ih
      simp only at ih ⊢
      unfold Lib.indexByte
      rw [hb,ih]
      have e:((p.1.length:Int) == -1)=false:=by
       rw [beq_eq_false_iff_ne]
       omega
      simp [e]
theorem index_v {s:List UInt8}{i:Int}(hi:Lib.indexByte s 10=i) (w:World) :
  Calls Tryz.prog 187 #[.string (str s),.string ⟨#[10]⟩] w fun e w'=>e=.returned (.int .i64 i)/\w'=w:=by
 subst hi
 exact Tryz.stringslite_Index_one (str s) 10 w
theorem ext_head (a b:List UInt8):(str (a++10::b)).extract 0 a.length=str a:=by
 rw [Lib.extract_eq,str_data]
 simp [str]
theorem ext_tail (a b:List UInt8) (n:Nat) (hn:n=a.length+1+b.length):(str (a++10::b)).extract (a.length+1) n=str b:=by
 subst hn
 rw [Lib.extract_eq,str_data]
 rw [show a.length+1+b.length - (a.length+1)=b.length by omega]
 simp [str]
set_option maxHeartbeats 2000000 in
set_option maxRecDepth 100000 in
theorem lcut_some {s a b:List UInt8}(h:cutL s=some (a,b)) (hs:s.length < 4294967281) (w:World) :
  Calls Tryz.prog 166 #[.string (str s),.string ⟨#[10]⟩] w fun e w'=>e=.returned (.tuple #[.string (str a),.string (str b),.bool true])/\∃ n,w'=w.drewN n:=by
 obtain ⟨e,_⟩:=cutL_some h
 have hi:=byte_nl s
 rw [h] at hi
 simp only at hi
 have HI:Hid (Lib.indexByte s 10=(a.length:Int)):=hi
 have hsz:=str_size s
 have hl:=cutL_len h
 have x1:(str s).extract 0 a.length=str a:=by rw [e];exact ext_head a b
 have x2:(str s).extract (a.length+1) s.length=str b:=by rw [e];exact ext_tail a b _ (by simp;omega)
 clear hi h e
 have s1:(⟨#[10]⟩:ByteArray).size=1:=rfl
 have c1:(0:Int)<=(a.length:Int):=by omega
 have c2:(a.length:Int)<=(s.length:Int):=by omega
 have c3:(0:Int)<=(a.length:Int)+1:=by omega
 have c4:(a.length:Int)+1<=(s.length:Int):=by omega
 have t1:((a.length:Int)+1).toNat=a.length+1:=by omega
 go_enter Tryz.func166,Tryz.ntmps166
 go_wp2_with (go_at_call 187;refine (index_v HI.out _).mono ?_;rintro e w' ⟨rfl,rfl⟩)
 go_quiet (fail)
 go_wp2
 go_ret3
 exact ⟨rfl,_,rfl⟩
set_option maxHeartbeats 2000000 in
set_option maxRecDepth 100000 in
theorem lcut_none {s:List UInt8}(h:cutL s=none) (w:World) :
  Calls Tryz.prog 166 #[.string (str s),.string ⟨#[10]⟩] w fun e w'=>e=.returned (.tuple #[.string (str s),.string (str []),.bool false])/\∃ n,w'=w.drewN n:=by
 have hi:=byte_nl s
 rw [h] at hi
 simp only at hi
 have HI:Hid (Lib.indexByte s 10=-1):=hi
 clear hi h
 go_enter Tryz.func166,Tryz.ntmps166
 go_wp2_with (go_at_call 187;refine (index_v HI.out _).mono ?_;rintro e w' ⟨rfl,rfl⟩)
 go_ret3
 exact ⟨rfl,0,rfl⟩
set_option maxHeartbeats 1000000 in
theorem cut_some {s a b:List UInt8}(h:cutL s=some (a,b)) (hs:s.length < 4294967281) (w:World) (_E:Env w) :
  Calls Tryz.prog 126 #[.string (str s),.string ⟨#[10]⟩] w fun e w'=>e=.returned (.tuple #[.string (str a),.string (str b),.bool true])/\∃ n,w'=w.drewN n:=by
 have H:Hid (cutL s=some (a,b)):=h
 clear h
 go_enter Tryz.func126,Tryz.ntmps126
 go_wp2_with (go_at_call 166;refine (lcut_some H.out hs _).mono ?_;rintro e w' ⟨rfl,m,rfl⟩)
 go_ret3
 exact ⟨rfl,_,rfl⟩
set_option maxHeartbeats 1000000 in
theorem cut_none {s:List UInt8}(h:cutL s=none) (_hs:s.length < 4294967281) (w:World) (_E:Env w) :
  Calls Tryz.prog 126 #[.string (str s),.string ⟨#[10]⟩] w fun e w'=>e=.returned (.tuple #[.string (str s),.string (str []),.bool false])/\∃ n,w'=w.drewN n:=by
 have H:Hid (cutL s=none):=h
 clear h
 go_enter Tryz.func126,Tryz.ntmps126
 go_wp2_with (go_at_call 166;refine (lcut_none H.out _).mono ?_;rintro e w' ⟨rfl,m,rfl⟩)
 go_ret3
 exact ⟨rfl,_,rfl⟩
theorem fillRow_v {b W H:Nat}{cs:List Bool}{i:Int}{row:List UInt8}{r:Option (List Bool)}(hr:rowB row=r) (hi:i=cs.length) (w:World) (g:CellsAt w b W H cs) (hl:cs.length+row.length<=W*H) :
  Calls Tryz.prog 129 #[.pointer (some ⟨b,0,none⟩),.int .i64 i,.string (str row)] w fun e w'=>e=.returned (.bool r.isSome)/\Touch b w w'/\(∀ a,r=some a->CellsAt w' b W H (cs++a)):=by
 subst hr hi
 exact fillRow_any row w g hl
theorem toList_str (l:List UInt8):(str l).toList=l:=by
 rw [Lib.toList_data]
 rfl
theorem rowsB_step {W k:Nat}{rest row after:List UInt8}{x:List Bool}(hcut:cutL rest=some (row,after)) (hw:row.length=W) (hro:rowB row=some x):rowsB W (k+1) rest=(rowsB W k after).map (fun l=>x++l):=by
 simp only [rowsB,hcut,hw,if_true,hro]
 cases rowsB W k after with
 | none=>rfl
 | some l=>rfl
set_option maxHeartbeats 2000000 in
set_option maxRecDepth 100000 in
theorem fill_any {b W H:Nat}(rows:List UInt8) (w:World) (E:Env w) (hb7:8<=b) (g:CellsAt w b W H []) (hl:rows.length<=1000) :
  Calls Tryz.prog 89 #[.pointer (some ⟨b,0,none⟩),.string (str rows)] w fun e w'=>e=.returned (.bool (rowsB W H rows).isSome)/\Touch b w w'/\(∀ a,rowsB W H rows=some a->CellsAt w' b W H a):=by
 have w1:=g.1.w1
 have w2:=g.1.w2
 have h1:=g.1.h1
 have h2:=g.1.h2
 go_enter Tryz.func89,Tryz.ntmps89
 go_wp2_with (go_at_call 92;refine (size_any _ g.1).mono ?_;rintro e w' ⟨rfl,m,rfl⟩)
 go_loopw [1,17] (fun r i wr=>∃ (y:Nat) (a:List Bool) (rest:List UInt8),y<=H/\i=.int .i64 y/\r=.string (str rest)/\Touch b w wr/\CellsAt wr b W H a/\a.length=y*W/\rowsB W H rows=(rowsB W (H - y) rest).map (fun l=>a++l)/\rest.length<=1000)
  (fun _ i _=>H - (intOf i).toNat)
 case atStart=>exact ⟨0,[],rows,by omega,rfl,rfl,(Touch.refl b w).drewN m,g.drewN m,by simp,by simp,hl⟩
 case round =>
  obtain ⟨y,a,rest,hy,rfl,rfl,hT,hC,hal,hrs,hrl⟩:=hrel
  have Er:=E.touch hT hb7
  by_cases hlt:y < H
  ·obtain ⟨k,hk⟩:∃ k,H - y=k+1:=⟨H - y - 1,by omega⟩
   have hk2:H - (y+1)=k:=by omega
   rw [hk] at hrs
   have y1:(y:Int) < (H:Int):=by omega
   have hyw:y*W+W<=W*H:=by
    have:=Nat.mul_le_mul_left W (show y+1<=H by omega)
    rw [Nat.mul_add,Nat.mul_comm W y] at this
    omega
   have hi:(y:Int)*(W:Int)=(a.length:Nat):=by rw [hal,Int.natCast_mul]
   have HI:Hid ((y:Int)*(W:Int)=(a.length:Nat)):=hi
   have j1:(0:Int)<=(y:Int)*W/\(y:Int)*W<=256:=by
    have:=Nat.mul_le_mul (show y<=16 by omega) (show W<=16 by omega)
    rw [<- Int.natCast_mul]
    omega
   clear hi
   cases hcut:cutL rest with
   | none =>
     have hbad:rowsB W H rows=none:=by rw [hrs];unfold rowsB;rw [hcut];rfl
     clear hrs
     go_wp2_with (go_at_call 126;refine (cut_none hcut (by omega) _ Er).mono ?_;rintro e w' ⟨rfl,m2,rfl⟩)
     go_ret
     exact ⟨by rw [hbad];rfl,hT.drewN m2,fun a' h'=>by rw [hbad] at h';cases h'⟩
   | some p =>
     obtain ⟨row,after⟩:=p
     have hcl:=cutL_len hcut
     have hsz:=str_size row
     by_cases hw:row.length=W
     ·cases hro:rowB row with
      | none =>
        have hbad:rowsB W H rows=none:=by rw [hrs];unfold rowsB;rw [hcut];simp [hw,hro]
        clear hrs
        go_wp2_with (first | (go_at_call 126;refine (cut_some hcut (by omega) _ Er).mono ?_;rintro e w' ⟨rfl,m2,rfl⟩) | (go_at_call 129;refine (fillRow_v hro HI.out _ (hC.drewN m2) (by rw [hal,hw];exact hyw)).mono ?_;rintro e w3 ⟨rfl,T3,C3⟩))
        go_ret
        exact ⟨by rw [hbad];rfl,(hT.drewN m2).trans T3,fun a' h'=>by rw [hbad] at h';cases h'⟩
      | some x =>
        have hxl:=rowB_len hro
        have hnx:rowsB W H rows=(rowsB W k after).map (fun l=>(a++x)++l):=by
         rw [hrs,rowsB_step hcut hw hro]
         cases rowsB W k after with
         | none=>rfl
         | some l=>simp
        have HX:Hid (rowsB W H rows=(rowsB W k after).map (fun l=>(a++x)++l)):=hnx
        clear hrs hnx
        go_wp2_with (first | (go_at_call 126;refine (cut_some hcut (by omega) _ Er).mono ?_;rintro e w' ⟨rfl,m2,rfl⟩) | (go_at_call 129;refine (fillRow_v hro HI.out _ (hC.drewN m2) (by rw [hal,hw];exact hyw)).mono ?_;rintro e w3 ⟨rfl,T3,C3⟩))
        go_roundw
        case rel=>exact ⟨y+1,a++x,after,by omega,by go_num,rfl,(hT.drewN m2).trans T3,C3 x rfl,by rw [List.length_append,hal,hxl,hw,Nat.succ_mul],by rw [hk2];exact HX.out,by omega⟩
        case measure=>simp [intOf];omega
     ·have hbad:rowsB W H rows=none:=by rw [hrs];unfold rowsB;rw [hcut];simp [hw]
      clear hrs
      have hne:((row.length:Int) == (W:Int))=false:=by rw [beq_eq_false_iff_ne];omega
      go_wp2_with (go_at_call 126;refine (cut_some hcut (by omega) _ Er).mono ?_;rintro e w' ⟨rfl,m2,rfl⟩)
      go_ret
      exact ⟨by rw [hbad];rfl,hT.drewN m2,fun a' h'=>by rw [hbad] at h';cases h'⟩
  ·have hyl:y=H:=by omega
   subst hyl
   rw [Nat.sub_self] at hrs
   have hts:=toList_str rest
   cases rest with
   | nil =>
     have hok:rowsB W y rows=some a:=by rw [hrs];simp [rowsB]
     clear hrs
     go_wp2
     go_ret
     exact ⟨by rw [hok];rfl,hT,fun a' h'=>by rw [hok] at h';cases h';exact hC⟩
   | cons c r =>
     have hbad:rowsB W y rows=none:=by rw [hrs];simp [rowsB]
     clear hrs
     go_wp2
     go_ret
     exact ⟨by rw [hbad];rfl,hT,fun a' h'=>by rw [hbad] at h';cases h'⟩
end
section
open Go.RowKit
theorem parts60 (v0 v1 v2 v3:Value) (_h0:v0.oneCell'=true) (w:World):(part 9 #[v0,v1,v2,v3] (0*1)).run Tryz.prog w=.ok v0 w/\(part 9 #[v0,v1,v2,v3] (1*1)).run Tryz.prog w=.ok v1 w/\(part 9 #[v0,v1,v2,v3] (2*1)).run Tryz.prog w=.ok v2 w/\(part 9 #[v0,v1,v2,v3] (3*1)).run Tryz.prog w=.ok v3 w :=
 ⟨by kernel_rfl,by kernel_rfl,by kernel_rfl,by kernel_rfl⟩
theorem cells9:Tryz.prog.cellsOf 9=1:=by kernel_rfl
theorem info9:(Tryz.prog.info? 9).isSome=true:=by kernel_rfl
theorem equalStr (d:Nat) (a b:ByteArray) (w:World):(Op.equalIn (d+1) 9 (.string a) (.string b)).run Tryz.prog w=.ok (a == b) w:=by
 simp [Op.equalIn,run_underlying Tryz.underlying9]
theorem items_step {P:Program}{d:Nat}{e:TypeId}{c i:Nat}{xs ys:Array Value}{is:List Nat}{a b:Value}{r:Bool}{w:World}(h1:(part e xs (i*c)).run P w=.ok a w) (h2:(part e ys (i*c)).run P w=.ok b w) (h3:(Op.equalIn d e a b).run P w=.ok r w) :
  (Op.eqItems d e c xs ys (i::is)).run P w=if r then (Op.eqItems d e c xs ys is).run P w else .ok false w:=by
 simp only [Op.eqItems,Sem.run_bind,h1,h2,h3,Result.andThen_ok]
 cases r <;> rfl
theorem eql60 (a0 a1 a2 a3 b0 b1 b2 b3:ByteArray) (w:World) :
  (binOp .eql 150 (.agg #[.string a0,.string a1,.string a2,.string a3]) (.agg #[.string b0,.string b1,.string b2,.string b3])).run Tryz.prog w=.ok (.bool (a0 == b0&&(a1 == b1&&(a2 == b2&&a3 == b3)))) w:=by
 obtain ⟨i,hi⟩:=Option.isSome_iff_exists.1 info9
 have h:(Op.equalIn (9999+1) 150 (.agg #[.string a0,.string a1,.string a2,.string a3]) (.agg #[.string b0,.string b1,.string b2,.string b3])).run Tryz.prog w=.ok (a0 == b0&&(a1 == b1&&(a2 == b2&&a3 == b3))) w:=by
  rw [run_equalIn_array w 9999 _ _ Tryz.underlying150 hi,cells9]
  obtain ⟨p0,p1,p2,p3⟩:=parts60 (.string a0) (.string a1) (.string a2) (.string a3) rfl w
  obtain ⟨q0,q1,q2,q3⟩:=parts60 (.string b0) (.string b1) (.string b2) (.string b3) rfl w
  have er:List.range 4=[0,1,2,3]:=rfl
  rw [er,items_step p0 q0 (equalStr 9998 a0 b0 w),items_step p1 q1 (equalStr 9998 a1 b1 w),items_step p2 q2 (equalStr 9998 a2 b2 w),items_step p3 q3 (equalStr 9998 a3 b3 w)]
  cases a0 == b0 <;> cases a1 == b1 <;> cases a2 == b2 <;> cases a3 == b3 <;> rfl
 simp only [binOp]
 simp [Op.equal,Op.maxDepth,h]
theorem beq_str (a b:List UInt8):(str a == str b)=decide (a=b):=by
 have h:(str a == str b)=(a.toArray == b.toArray):=rfl
 rw [h,Bool.eq_iff_iff,beq_iff_eq,decide_eq_true_eq]
 constructor
 ·intro h
  have:=congrArg Array.toList h
  simpa using this
 ·intro h
  rw [h]
theorem trim_v {l p r:List UInt8}(h:Lib.trimPrefix l p=r) (w:World) :
  Calls Tryz.prog 128 #[.string (str l),.string (str p)] w fun e w'=>e=.returned (.string (str r))/\w'=w:=by
 subst h
 exact Tryz.strings_TrimPrefix (str l) (str p) w
theorem trimH {l r:List UInt8}(h:Lib.trimPrefix l heightW=r) (w:World) :
  Calls Tryz.prog 128 #[.string (str l),.string ⟨#[104,101,105,103,104,116,32]⟩] w fun e w'=>e=.returned (.string (str r))/\w'=w:=trim_v h w
theorem trimW {l r:List UInt8}(h:Lib.trimPrefix l widthW=r) (w:World) :
  Calls Tryz.prog 128 #[.string (str l),.string ⟨#[119,105,100,116,104,32]⟩] w fun e w'=>e=.returned (.string (str r))/\w'=w:=trim_v h w
theorem atoi_ok {l:List UInt8}{v:Int}(h:Lib.atoiAll l=.ok v) (hl:l.length<=1000) (w:World) :
  Calls Tryz.prog 127 #[.string (str l)] w fun e w'=>e=.returned (.tuple #[.int .i64 v,.nilIface])/\Below w.heap.size w w' :=
 (Tryz.strconv_Atoi_ok (str l) (by rw [str_size];omega) v h w).mono fun e w' ⟨he,hw⟩=>⟨he,by
  rcases hw with rfl | ⟨t,rfl⟩
  ·exact Below.refl _ _
  ·exact Lib.bytesWorld_below w 5 t⟩
end
end Go.Proofs.YtipbhlofbpnpjaaGreatDoor
