/-
  Texts laid together: LvRead, LvCat, LvUnp, SdA, SdB, SdC.
-/
import Derived.Test.YtmaefimaeelkbaaGreatDoorP18
import Derived.Test.YtmaefimaeelkbaaGreatDoorP15
import Derived.Test.YtmaefimaeelkbaaGreatDoorP16
namespace Go.Proofs.YtmaefimaeelkbaaGreatDoor
section
open Go.RowKit Go.Maps
section
variable {N lb vb eb top n : Nat} {L : List Nat} {st : LSt} {f : Int → Option Value}
set_option maxHeartbeats 400000 in
theorem top_any (w:World)(V:LvAt w N lb vb eb top L st f):Calls Tryz.prog 57 #[.pointer (some ⟨lb,0,none⟩)] w fun e w'=>e=.returned (.int .i64 (top:Int))/\w'=w:=by
 have c0:=V.c0
 clear V
 generalize (top:Int)=t at *
 go_enter Tryz.func57,Tryz.ntmps57
 go_wp2
 go_ret
 exact ⟨rfl,rfl⟩
set_option maxHeartbeats 400000 in
theorem level_yes (w:World)(V:LvAt w N lb vb eb top L st f)(hn:n ∈ L):Calls Tryz.prog 171 #[.pointer (some ⟨lb,0,none⟩),.int .i64 (n:Int)] w fun e w'=>e=.returned (.tuple #[.int .i64 (st.lev n:Int),.nilIface])/\w'=w:=by
 have c1:=V.c1
 have hl:(Instr.lookup 129 (.map (some vb)) (.int .i64 (n:Int)) true).run Tryz.prog w=.ok (.tuple #[.int .i64 (st.lev n:Int),.bool true]) w:=V.lv.look_some law3 Tryz.underV (zero3 w) (wf_small (by omega) (by have:=V.bd n hn;omega)) (lvF_in hn) true
 clear V
 generalize (st.lev n:Int)=t at *
 go_enter Tryz.func171,Tryz.ntmps171
 go_wp2
 go_ret2
 exact ⟨rfl,rfl⟩
set_option maxHeartbeats 400000 in
theorem level_no {c:Int}(w:World)(V:LvAt w N lb vb eb top L st f)(hc:¬ (0<=c/\c.toNat ∈ L))(hw:(Lit.int .i64 c).wf=true):Calls Tryz.prog 171 #[.pointer (some ⟨lb,0,none⟩),.int .i64 c] w fun e w'=>e=.returned (.tuple #[.int .i64 0,.iface 54 (.int .i64 5)])/\w'=w:=by
 have c1:=V.c1
 have hl:(Instr.lookup 129 (.map (some vb)) (.int .i64 c) true).run Tryz.prog w=.ok (.tuple #[.int .i64 0,.bool false]) w:=V.lv.look_none law3 Tryz.underV (zero3 w) hw (by unfold lvF;rw [if_neg hc]) true
 clear V
 go_enter Tryz.func171,Tryz.ntmps171
 go_wp2
 go_ret2
 exact ⟨rfl,rfl⟩
set_option maxHeartbeats 1000000 in
theorem ledges_yes (w:World)(V:LvAt w N lb vb eb top L st f)(hn:n ∈ L)(hlen:(st.es n).length<=256):Calls Tryz.prog 176 #[.pointer (some ⟨lb,0,none⟩),.int .i64 (n:Int)] w fun e w'=>∃ v,e=.returned (.tuple #[v,.nilIface])/\w'.ownsRow w.heap.size 204 4 v (st.es n).length (lesV (st.es n))/\Below w.heap.size w w':=by
 have c2:=V.c2
 obtain ⟨v,hf,hown⟩:=V.row n hn
 have hl:(Instr.lookup 123 (.map (some eb)) (.int .i64 (n:Int)) true).run Tryz.prog w=.ok (.tuple #[v,.bool true]) w:=V.em.look_some law3 Tryz.underM (zeroM w) (wf_small (by omega) (by have:=V.bd n hn;omega)) hf true
 clear V hf
 rcases hown.2 with ⟨rfl,h0⟩|⟨g,cap,cur,rfl,_⟩
 ·have hcl:=clone_nil w
  have e0:st.es n=[]:=List.length_eq_zero_iff.1 h0
  have HE:Hid (st.es n=[]):=e0
  clear hown h0 e0
  go_enter Tryz.func176,Tryz.ntmps176
  go_wp2_with fail
  refine hcl.mono ?_
  rintro e w1 ⟨rfl,rfl⟩
  clear hcl
  go_wp2
  go_ret2
  refine ⟨_,rfl,?_,Below.refl _ _⟩
  rw [HE.out];exact World.ownsRow_nil _ _ _ _
 ·have hcl:=clone_row w (own_base hown (Nat.zero_le _)) (lesV_cells _) hlen
  generalize (st.es n).length=len at *
  clear hown
  go_enter Tryz.func176,Tryz.ntmps176
  go_wp2_with fail
  refine hcl.mono ?_
  rintro e w1 ⟨v',rfl,hown',hb1⟩
  clear hcl
  go_wp2
  go_ret2
  exact ⟨_,rfl,hown',hb1⟩
end
end
section
open Go.RowKit Go.Maps Go.Lib
def RowN (w:World) (a o:Nat) (l:List Nat):Prop:=∀ j u,(vals l)[j]? = some u->w.cell? ((⟨a,o,none⟩:Addr).add j)=some u
theorem RowN.below {w w':World}{a o:Nat}{l:List Nat}(h:RowN w a o l)(hb:Below w.heap.size w w'):RowN w' a o l:=fun j u hj=>by
 have h1:=h j u hj
 rw [Addr.add_lit] at h1 ⊢
 exact (hb.cell (World.block_lt_of_cell? _ _ h1)).trans h1
theorem vals_len (l:List Nat):(vals l).length=l.length:=by simp [vals]
theorem vals_one (l:List Nat):∀ u ∈ vals l,u.oneCell'=true:=by
 intro u hu
 simp [vals] at hu
 obtain ⟨n,_,rfl⟩:=hu
 rfl
theorem vals_app (l l':List Nat):vals (l++l')=vals l++vals l':=by simp [vals]
set_option maxHeartbeats 2000000 in
set_option maxRecDepth 100000 in
theorem grow_nil {n:Nat}(w:World)(h1:0<n)(h2:n<=1000):Calls Tryz.prog 238 #[.slice none 0 0,.int .i64 (n:Int)] w fun e w'=>∃ v,e=.returned v/\w'.ownsRow w.heap.size 3 1 v 0 (vals [])/\Below w.heap.size w w':=by
 obtain ⟨i0,hi0,hz0,hz1,hz2⟩:=info_parts Tryz.info3
 obtain ⟨G,hG⟩:∃ G,G=grownCap w n 0 3:=⟨_,rfl⟩
 have hold:(Builtin.firstCells i0.size 0 (.slice none 0 0)).run Tryz.prog w.drew=.ok ([]:List Value).toArray w.drew:=by
  simp [Builtin.firstCells]
 obtain ⟨ROW,hROW⟩:∃ ROW:Array Value,ROW=([]:List Value).toArray++Builtin.zeroCells (Value.int .i64 0).cells n++Builtin.zeroCells (Value.int .i64 0).cells (G - n):=⟨_,rfl⟩
 have hGn:n<=G:=by rw [hG];exact grownCap_ge w _ _ _
 have hGm:G<=maxLen:=by rw [hG];exact grownCap_le_maxLen w _ _ _ (by unfold maxLen;omega)
 have hrz:∀ ty,(Builtin.append_ #[51,3] ty #[.slice none 0 0,.int .i64 (n:Int)]).run Tryz.prog w=.ok (.slice (some ⟨w.heap.size,0,none⟩) n G) (w.drew.alloc (.cells ROW 3)):=fun ty=>by
  have h:=Lib.run_append_grow_zeros w 51 3 ty 3 i0 _ .i64 .i64 Tryz.underlying51 law3 hi0 hz0 none 0 0 [] hold n h1 (by omega) (by omega) (by omega) (by rw [hz2];omega) (by rw [hz2,Nat.zero_add];exact growslice_fits (by omega) (by omega))
  rw [Nat.zero_add,<- hG] at h
  rw [hROW];exact h
 have hRl:ROW.size=G*1:=by
  rw [hROW]
  simp [Builtin.zeroCells,Value.cells]
  omega
 have hG63:G<=9223372036854775807:=by unfold maxLen at hGm;omega
 have n1:(0:Int)<(n:Int):=by omega
 have HRL:Hid _:=hRl
 have HGM:Hid _:=hGm
 clear hG hROW hold hRl hGm
 go_enter Tryz.func238,Tryz.ntmps238
 go_wp2_with (at_builtin;refine Lib.wpList_append_run _ rfl _ _ _ _ rfl _ _ rfl rfl _ _ (hrz _) ?_)
 go_wp2
 go_ret
 refine ⟨_,rfl,⟨rfl,Or.inr ⟨w.heap.size,G,ROW,rfl,Nat.le_refl _,heap_alloc_new w _,Nat.zero_le _,HGM.out,HRL.out,by simp [vals]⟩⟩,((Below.refl _ _).drew).alloc (Nat.le_refl _) _⟩
set_option maxHeartbeats 4000000 in
set_option maxRecDepth 100000 in
theorem concat_two {g a1 o1 c1 a2 o2 c2:Nat}{l1 l2:List Nat}(w:World)(q0:w.cell? ⟨g,0,none⟩=some (.slice (some ⟨a1,o1,none⟩) l1.length c1))(q1:w.cell? ⟨g,1,none⟩=some (.slice (some ⟨a2,o2,none⟩) l2.length c2))(r1:RowN w a1 o1 l1)(r2:RowN w a2 o2 l2)(h1:0<l1.length)(h2:0<l2.length)(b1:l1.length<=300)(b2:l2.length<=300) :
  Calls Tryz.prog 206 #[.slice (some ⟨g,0,none⟩) 2 2] w fun e w'=>∃ v,e=.returned v/\w'.ownsRow w.heap.size 3 1 v (l1++l2).length (vals (l1++l2))/\Below w.heap.size w w':=by
 obtain ⟨i0,hi,hz0,hz1,hz2⟩:=info_parts Tryz.info3
 have hlt1:a1<w.heap.size:=by
  have:=r1 0 _ (List.getElem?_eq_getElem (by rw [vals_len];omega))
  rw [Addr.add_lit] at this
  exact World.block_lt_of_cell? _ _ this
 have hlt2:a2<w.heap.size:=by
  have:=r2 0 _ (List.getElem?_eq_getElem (by rw [vals_len];omega))
  rw [Addr.add_lit] at this
  exact World.block_lt_of_cell? _ _ this
 have hgl:g<w.heap.size:=World.block_lt_of_cell? _ _ q0
 have HR1:Hid (RowN w a1 o1 l1):=r1
 have HR2:Hid (RowN w a2 o2 l2):=r2
 have HLA:Hid ((l1++l2).length=l1.length+l2.length):=List.length_append
 clear r1 r2
 go_enter Tryz.func206,Tryz.ntmps206
 go_wp2
 go_loopw [3,11] (fun sv iv wr=>Hid (wr=w)/\((sv=.int .i64 0/\iv=.int .i64 0)\/(sv=.int .i64 (l1.length:Int)/\iv=.int .i64 1)\/(sv=.int .i64 ((l1.length:Int)+(l2.length:Int))/\iv=.int .i64 2)))
  (fun _ i _=>2 - (intOf i).toNat)
 case atStart=>exact ⟨(rfl:_=_),Or.inl ⟨rfl,rfl⟩⟩
 case round =>
  obtain ⟨hww,h|h|h⟩:=hrel
  all_goals
   have hww:=hww.out
   subst hww
  ·obtain ⟨rfl,rfl⟩:=h
   go_wp2
   go_roundw
   case rel=>exact ⟨by first|exact trivial|exact rfl,Or.inr (Or.inl ⟨rfl,rfl⟩)⟩
   case measure=>simp [intOf]
  ·obtain ⟨rfl,rfl⟩:=h
   go_wp2
   go_roundw
   case rel=>exact ⟨by first|exact trivial|exact rfl,Or.inr (Or.inr ⟨rfl,rfl⟩)⟩
   case measure=>simp [intOf]
  ·obtain ⟨rfl,rfl⟩:=h
   obtain ⟨WB,hWB⟩:∃ WB,WB=wr:=⟨_,rfl⟩
   subst hWB
   have hgw:=grow_nil (n:=l1.length+l2.length) WB (by omega) (by omega)
   rw [Int.natCast_add] at hgw
   go_wp2_with fail
   refine hgw.mono ?_
   rintro e w5 ⟨v5,rfl,own5,hb5⟩
   clear hgw
   have z5:=hb5.size
   go_wp2
   go_loopw [6,27] (fun nv iv wq=>Below WB.heap.size WB wq/\((iv=.int .i64 0/\wq.ownsRow WB.heap.size 3 1 nv 0 (vals []))\/(iv=.int .i64 1/\wq.ownsRow WB.heap.size 3 1 nv l1.length (vals l1))\/(iv=.int .i64 2/\wq.ownsRow WB.heap.size 3 1 nv (l1++l2).length (vals (l1++l2)))))
    (fun _ i _=>2 - (intOf i).toNat)
   case atStart=>exact ⟨hb5,Or.inl ⟨rfl,own5⟩⟩
   case round =>
    clear own5 hb5 z5
    obtain ⟨hB,h|h|h⟩:=hrel
    ·obtain ⟨rfl,own5⟩:=h
     have p:=(hB.cell (p:=⟨g,0,none⟩) hgl).trans q0
     have src:=HR1.out.below hB
     have z:=hB.size
     go_wp2_with (at_builtin;refine wpList_append_own _ rfl _ _ 51 rfl WB.heap.size 3 i0 (.int .i64 0) 1 8 Tryz.underlying51 hi hz0 hz1 hz2 rfl (by decide) _ _ _ rfl own5 ⟨a1,o1,none⟩ l1.length c1 (vals l1) rfl ?c0 src (vals_one _) ?c3 ?c4 ?c5 ?_)
     case c0=>rw [vals_len];omega
     case c3=>unfold maxLen;omega
     case c4=>omega
     case c5=>exact z
     intro v' w6 hown' hgrow _
     have B6:Below WB.heap.size WB w6:=hB.grown hgrow z (fun q hq=>(own5.lt q hq).1)
     have O6:w6.ownsRow WB.heap.size 3 1 v' l1.length (vals l1):=by simpa [vals] using hown'
     clear hown' hgrow own5 hB src
     go_wp2
     go_roundw
     case rel=>exact ⟨B6,Or.inr (Or.inl ⟨rfl,O6⟩)⟩
     case measure=>simp [intOf]
    ·obtain ⟨rfl,own5⟩:=h
     have p:=(hB.cell (p:=⟨g,1,none⟩) hgl).trans q1
     have src:=HR2.out.below hB
     have z:=hB.size
     go_wp2_with (at_builtin;refine wpList_append_own _ rfl _ _ 51 rfl WB.heap.size 3 i0 (.int .i64 0) 1 8 Tryz.underlying51 hi hz0 hz1 hz2 rfl (by decide) _ _ _ rfl own5 ⟨a2,o2,none⟩ l2.length c2 (vals l2) rfl ?c0 src (vals_one _) ?c3 ?c4 ?c5 ?_)
     case c0=>rw [vals_len];omega
     case c3=>unfold maxLen;omega
     case c4=>omega
     case c5=>exact z
     intro v' w6 hown' hgrow _
     have B6:Below WB.heap.size WB w6:=hB.grown hgrow z (fun q hq=>(own5.lt q hq).1)
     have O6:w6.ownsRow WB.heap.size 3 1 v' (l1++l2).length (vals (l1++l2)):=by rw [vals_app,HLA.out];exact hown'
     clear hown' hgrow own5 hB src
     go_wp2
     go_roundw
     case rel=>exact ⟨B6,Or.inr (Or.inr ⟨rfl,O6⟩)⟩
     case measure=>simp [intOf]
    ·obtain ⟨rfl,own5⟩:=h
     go_wp2
     go_ret
     exact ⟨_,rfl,own5,hB⟩
end
section
open Go.RowKit Go.Maps Go.Lib
theorem Unp.two {es:Nat->List LE}:∀ {f a b:Nat}{way:List Nat},Unp es f a b way->2<=way.length/\way.length<=2 ^ f+1
 |0,_,_,_,h=>h.elim
 |f+1,a,b,way,⟨e,_,_,h⟩=>by
  have hp:1<=2 ^ f:=Nat.one_le_two_pow
  rcases h with ⟨_,rfl⟩|⟨_,w1,w2,h1,h2,rfl⟩
  ·simp only [List.length_cons,List.length_nil,Nat.pow_succ]
   omega
  ·have k1:=Unp.two h1
   have k2:=Unp.two h2
   rw [List.length_append,List.length_tail,Nat.pow_succ]
   omega
theorem place_of {l:List LE}(hR:Rsg l){e:LE}(he:e ∈ l):hasL l e.to=true/\l[posL l e.to]? = some e:=by
 have h:=(hasL_iff hR (t:=e.to)).2 ⟨e,he,rfl⟩
 refine ⟨h,?_⟩
 unfold hasL at h
 cases hx:l[posL l e.to]? with
 |none=>rw [hx] at h;cases h
 |some x =>
  rw [hx] at h
  have:=hR.one (List.mem_of_getElem? hx) he (of_decide_eq_true h)
  rw [this]
set_option maxHeartbeats 400000 in
theorem isAdded_any (w:World)(et es ed em:Int):Calls Tryz.prog 102 #[.agg #[.int .i64 et,.int .i64 es,.int .i64 ed,.int .i64 em]] w fun e w'=>e=.returned (.bool (decide (0<=em)))/\Below w.heap.size w w':=by
 have B0:Below w.heap.size w (w.alloc (.cells #[.int .i64 et,.int .i64 es,.int .i64 ed,.int .i64 em] 204)):=(Below.refl _ _).alloc (Nat.le_refl _) _
 go_enter Tryz.func102,Tryz.ntmps102
 go_wp2
 go_ret
 exact ⟨by simp,B0⟩
theorem rowN_of {w:World}{base:Nat}{v:Value}{l:List Nat}(h:w.ownsRow base 3 1 v l.length (vals l))(hl:0<l.length):∃ g cap,v=.slice (some ⟨g,0,none⟩) l.length cap/\RowN w g 0 l/\base<=g/\g<w.heap.size/\l.length<=cap/\cap<=9223372036854775807:=by
 rcases h.2 with ⟨_,h0⟩|⟨g,cap,cur,rfl,hb,hg,h1,h2,_⟩
 ·omega
 ·exact ⟨g,cap,rfl,fun j u hj=>h.cells (g:=g) rfl j u hj,hb,(Array.getElem?_eq_some_iff.1 hg).1,h1,by unfold maxLen at h2;omega⟩
theorem RowN.tail {w:World}{a o:Nat}{l:List Nat}(h:RowN w a o l):RowN w a (o+1) l.tail:=fun j u hj=>by
 have h1:=h (j+1) u (by
  cases l with
  |nil=>simp [vals] at hj
  |cons x l=>simpa [vals] using hj)
 rw [Addr.add_lit] at h1 ⊢
 rw [show o+1+j=o+(j+1) by omega]
 exact h1
set_option maxHeartbeats 8000000 in
set_option maxRecDepth 1000000 in
theorem unpack_yes {N lb vb eb top:Nat}{L:List Nat}{st:LSt}{f:Int->Option Value}(hR:∀ a,Rsg (st.es a))(hC:∀ {a e},e ∈ st.es a->a ∈ L/\e.to ∈ L)(hl:∀ a,(st.es a).length<=256)(hLb:∀ n ∈ L,n<256):∀ (F a b:Nat) (way:List Nat) (w:World),F<=7->Unp st.es F a b way->LvAt w N lb vb eb top L st f ->
  Calls Tryz.prog 179 #[.pointer (some ⟨lb,0,none⟩),.int .i64 (a:Int),.int .i64 (b:Int)] w fun e w'=>∃ v,e=.returned (.tuple #[v,.nilIface])/\w'.ownsRow w.heap.size 3 1 v way.length (vals way)/\Below w.heap.size w w'
 |0,_,_,_,_,_,hu,_=>hu.elim
 |F+1,a,b,way,w,hF,hu,V=>by
  obtain ⟨e,he,het,hcase⟩:=hu
  subst het
  have haL:=(hC he).1
  have hwa:=wf_small (a:=(a:Int)) (by omega) (by have:=hLb a haL;omega)
  obtain ⟨A,cap,hl1,row1,hf1⟩:=V.edges haL
  have c2:=V.c2
  have hpl:=place_any (cap:=cap) (t:=e.to) w row1 (hl a) (hR a)
  obtain ⟨hh,hp⟩:=place_of (hR a) he
  rw [hh] at hpl
  have hps:posL (st.es a) e.to<(st.es a).length:=(List.getElem?_eq_some_iff.1 hp).1
  generalize posL (st.es a) e.to=ps at *
  clear hh
  go_enter Tryz.func179,Tryz.ntmps179
  go_wp2_with fail
  refine hpl.mono ?_
  rintro r w1 ⟨rfl,hb1⟩
  have V1:=V.below hb1
  have c21:=V1.c2
  have row2:=row1.below hb1
  have hl2:(Instr.lookup 123 (.map (some eb)) (.int .i64 (a:Int)) false).run Tryz.prog w1=.ok (.slice A (st.es a).length cap) w1:=V1.em.look_some law3 Tryz.underM (zeroM _) hwa hf1 false
  obtain ⟨bb,o,rfl,q1,q2,q3,q4⟩:=row2 ps e hp
  have p1:(0:Int)<=(ps:Int):=by omega
  have p2:(ps:Int)<((st.es a).length:Int):=by omega
  have b2:Below w1.heap.size w1 (w1.alloc (.cells #[.int .i64 (e.to:Int),.int .i64 e.s,.int .i64 e.d,.int .i64 e.mid] 204)):=(Below.refl _ _).alloc (Nat.le_refl _) _
  have y3:(w1.alloc (.cells #[.int .i64 (e.to:Int),.int .i64 e.s,.int .i64 e.d,.int .i64 e.mid] 204)).cell? ⟨w1.heap.size,3,none⟩=some (.int .i64 e.mid):=World.cell?_alloc_at _ _ _ 3 rfl
  have hia:=isAdded_any (w1.alloc (.cells #[.int .i64 (e.to:Int),.int .i64 e.s,.int .i64 e.d,.int .i64 e.mid] 204)) (e.to:Int) e.s e.d e.mid
  have B2:=hb1.trans (b2.mono hb1.size)
  clear hpl hl1 c2 row1 row2 hp hf1
  rcases hcase with ⟨hm,rfl⟩|⟨hm,y1,y2,u1,u2,rfl⟩
  ·rw [decide_eq_false (by omega)] at hia
   go_wp2_with fail
   refine hia.mono ?_
   rintro r w3 ⟨rfl,hb3⟩
   have B3:=B2.trans (hb3.mono B2.size)
   clear hia hb3
   go_wp2
   go_ret2
   refine ⟨_,rfl,?_,B3.alloc B3.size _⟩
   have:=World.ownsRow_lit (base:=w.heap.size) (e:=3) (size:=1) w3 #[.int .i64 (a:Int),.int .i64 (e.to:Int)] 2 B3.size (by unfold maxLen;omega) rfl
   exact this
  ·obtain ⟨mn,hmn⟩:∃ mn:Nat,e.mid=(mn:Int):=⟨e.mid.toNat,by omega⟩
   have hmt:e.mid.toNat=mn:=by omega
   rw [hmt] at u1 u2
   rw [decide_eq_true hm,hmn] at hia
   rw [hmn] at y3 q4
   have k1:=u1.two
   have k2:=u2.two
   have hF2:2 ^ F<=64:=by
    have:=Nat.pow_le_pow_right (show 0<2 by decide) (show F<=6 by omega)
    simpa using this
   rw [hmn] at B2
   have HN:Hid (e.mid=(mn:Int)):=hmn
   clear hmn hmt hm
   go_wp2_with fail
   refine hia.mono ?_
   rintro r w3 ⟨rfl,hb3⟩
   have B3:=B2.trans (hb3.mono B2.size)
   have V3:=V.below B3
   have z3:=(hb3.cell (World.block_lt_of_cell? _ _ y3)).trans y3
   have hu1:=unpack_yes hR hC hl hLb F a mn y1 w3 (by omega) u1 V3
   clear hia hb3 y3 b2
   go_wp2_with fail
   refine hu1.mono ?_
   rintro r w4 ⟨v4,rfl,own4,hb4⟩
   have B4:=B3.trans (hb4.mono B3.size)
   have V4:=V.below B4
   have z4:=(hb4.cell (World.block_lt_of_cell? _ _ z3)).trans z3
   have hu2:=unpack_yes hR hC hl hLb F mn e.to y2 w4 (by omega) u2 V4
   obtain ⟨g4,cap4,rfl,r4,hg4,hg4',hc4,hc4'⟩:=rowN_of own4 (by omega)
   clear hu1 own4 hb4 V3 z3
   go_wp2_with fail
   refine hu2.mono ?_
   rintro r w5 ⟨v5,rfl,own5,hb5⟩
   have B5:=B4.trans (hb5.mono B4.size)
   obtain ⟨g5,cap5,rfl,r5,hg5,hg5',hc5,hc5'⟩:=rowN_of own5 (by omega)
   have r45:=r4.below hb5
   have t5:=r5.tail
   have hcap:¬ cap5=1:=by omega
   have hy0:0<y2.length:=by omega
   have hy1:1<=y2.length:=by omega
   have hy2:(1:Int)<=(y2.length:Int):=by omega
   have hl1:y1.length<=300:=by omega
   have hl1':0<y1.length:=by omega
   have hl2:y2.length<=300:=by omega
   have hl2':2<=y2.length:=by omega
   have htl:Hid (y2.length - 1=y2.tail.length):=by unfold Hid;rw [List.length_tail]
   clear hu2 own5 hb5 V4 z4 r4 r5 k1 k2 hF2
   go_wp2_with fail
   have b6:Below w5.heap.size w5 (w5.alloc (.cells #[.slice (some ⟨g4,0,none⟩) y1.length cap4,.slice (some ⟨g5,1,none⟩) (y2.length - 1) (cap5 - 1)] 51)):=(Below.refl _ _).alloc (Nat.le_refl _) _
   have q0:(w5.alloc (.cells #[.slice (some ⟨g4,0,none⟩) y1.length cap4,.slice (some ⟨g5,1,none⟩) (y2.length - 1) (cap5 - 1)] 51)).cell? ⟨w5.heap.size,0,none⟩=some (.slice (some ⟨g4,0,none⟩) y1.length cap4):=World.cell?_alloc_at _ _ _ 0 rfl
   have q1:(w5.alloc (.cells #[.slice (some ⟨g4,0,none⟩) y1.length cap4,.slice (some ⟨g5,1,none⟩) (y2.length - 1) (cap5 - 1)] 51)).cell? ⟨w5.heap.size,1,none⟩=some (.slice (some ⟨g5,1,none⟩) y2.tail.length (cap5 - 1)):=by
    rw [World.cell?_alloc_at _ _ _ 1 rfl]
    exact congrArg some (congrArg (fun z=>Value.slice (some ⟨g5,1,none⟩) z (cap5 - 1)) htl)
   have e1:0<y2.tail.length:=by rw [List.length_tail];omega
   have e2:y2.tail.length<=300:=by rw [List.length_tail];omega
   have hcat:=concat_two (l1:=y1) (l2:=y2.tail) _ q0 q1 (r45.below b6) (t5.below b6) hl1' e1 hl1 e2
   have B6:=B5.trans (b6.mono B5.size)
   refine hcat.mono ?_
   rintro r w6 ⟨v6,rfl,own6,hb6⟩
   have B7:=B6.trans (hb6.mono B6.size)
   clear hcat q0 q1 e1 e2
   go_wp2
   go_ret2
   refine ⟨_,rfl,?_,B7⟩
   exact own_base own6 B6.size
end
section
open Go.RowKit
def av (A:Int->Option Int):Int->Option Value:=fun a=>(A a).map fun n=>.int .i64 n
theorem av_some {A:Int->Option Int}{a n:Int}(h:A a=some n):av A a=some (.int .i64 n):=by unfold av;rw [h];rfl
theorem av_none {A:Int->Option Int}{a:Int}(h:A a=none):av A a=none:=by unfold av;rw [h];rfl
theorem av_put (A:Int->Option Int)(a n:Int):putF (av A) a (.int .i64 n)=av (putA A a n):=by
 funext i
 unfold putF av putA
 by_cases e:i=a
 ·rw [if_pos e,if_pos e];rfl
 ·rw [if_neg e,if_neg e]
structure SBk where
 sb:Nat
 cb:Nat
 ab:Nat
 hb:Nat
 mb:Nat
structure SideAt (w:World) (N:Nat) (k:SBk) (lb r:Nat) (gv v:Value) (nh na:Nat) (x:SS):Prop where
 c0:w.cell? ⟨k.sb,0,none⟩=some (.pointer (some ⟨lb,0,none⟩))
 c1:w.cell? ⟨k.sb,1,none⟩=some (.int .i64 (r:Int))
 c2:w.cell? ⟨k.sb,2,none⟩=some gv
 c3:w.cell? ⟨k.sb,3,none⟩=some (.map (some k.cb))
 c4:w.cell? ⟨k.sb,4,none⟩=some (.map (some k.ab))
 c5:w.cell? ⟨k.sb,5,none⟩=some (.pointer (some ⟨k.hb,0,none⟩))
 fm:MapF Tryz.prog 3 w k.cb (fv x.F) (cnt x.F 256)
 am:MapF Tryz.prog 3 w k.ab (av x.A) na
 hp:HeapAt w k.hb k.mb v nh x.H
 nb:N<=k.sb/\N<=k.cb/\N<=k.ab/\N<=k.hb/\N<=k.mb
 n1:k.sb≠k.cb/\k.sb≠k.ab/\k.sb≠k.hb/\k.sb≠k.mb
 n2:k.cb≠k.ab/\k.cb≠k.hb/\k.cb≠k.mb
 n3:k.ab≠k.hb/\k.ab≠k.mb
 vo:∀ g,v.ownBlock=some g->N<=g/\g≠k.sb/\g≠k.cb/\g≠k.ab
def sb5 (k:SBk) (v:Value) (g:Nat):Prop:=g=k.cb\/g=k.ab\/hb3 k.hb k.mb v g
section
variable {w w' : World} {N : Nat} {k : SBk} {lb r : Nat} {gv v v' : Value} {nh nh' na : Nat} {x : SS}
theorem SideAt.keep {F:Nat->Prop}(S:SideAt w N k lb r gv v nh na x)(K:Keep F w w')(h0:¬ F k.sb)(h1:∀ g,sb5 k v g->¬ F g):SideAt w' N k lb r gv v nh na x :=
 ⟨K.cellOf S.c0 h0,K.cellOf S.c1 h0,K.cellOf S.c2 h0,K.cellOf S.c3 h0,K.cellOf S.c4 h0,K.cellOf S.c5 h0,S.fm.keep K (h1 _ (Or.inl rfl)),S.am.keep K (h1 _ (Or.inr (Or.inl rfl))),S.hp.keep K (h1 _ (Or.inr (Or.inr (Or.inl rfl)))) (h1 _ (Or.inr (Or.inr (Or.inr (Or.inl rfl))))) (fun g hg=>h1 g (Or.inr (Or.inr (Or.inr (Or.inr hg))))),S.nb,S.n1,S.n2,S.n3,S.vo⟩
theorem SideAt.below (S:SideAt w N k lb r gv v nh na x)(hb:Below w.heap.size w w'):SideAt w' N k lb r gv v nh na x:=S.keep (F:=fun _=>False) (Keep.of_below hb) id (fun _ _=>id)
theorem SideAt.from (S:SideAt w N k lb r gv v nh na x):∀ g,sb5 k v g->N<=g/\g≠k.sb:=by
 obtain ⟨a1,a2,a3,a4,a5⟩:=S.nb
 obtain ⟨b1,b2,b3,b4⟩:=S.n1
 rintro g (rfl|rfl|rfl|rfl|h)
 ·exact ⟨a2,fun e=>b1 e.symm⟩
 ·exact ⟨a3,fun e=>b2 e.symm⟩
 ·exact ⟨a4,fun e=>b3 e.symm⟩
 ·exact ⟨a5,fun e=>b4 e.symm⟩
 ·exact ⟨(S.vo g h).1,(S.vo g h).2.1⟩
theorem SideAt.to_below (S:SideAt w N k lb r gv v nh na x)(K:Keep (sb5 k v) w w'):Below N w w':=K.to_below (by have:=S.nb.1;have:k.sb<w.heap.size:=World.block_lt_of_cell? _ _ S.c0;omega) (fun g hg=>(S.from g hg).1)
theorem SideAt.cost (S:SideAt w N k lb r gv v nh na x){F':Int->Option (Int × Int)}(K:Keep (fun g=>g=k.cb) w w')(fm:MapF Tryz.prog 3 w' k.cb (fv F') (cnt F' 256)):SideAt w' N k lb r gv v nh na ⟨F',x.A,x.H⟩:=by
 obtain ⟨b1,b2,b3,b4⟩:=S.n1
 obtain ⟨d1,d2,d3⟩:=S.n2
 exact ⟨K.cellOf S.c0 b1,K.cellOf S.c1 b1,K.cellOf S.c2 b1,K.cellOf S.c3 b1,K.cellOf S.c4 b1,K.cellOf S.c5 b1,fm,S.am.keep K (fun e=>d1 e.symm),S.hp.keep K (fun e=>d2 e.symm) (fun e=>d3 e.symm) (fun g hg=>(S.vo g hg).2.2.1),S.nb,S.n1,S.n2,S.n3,S.vo⟩
theorem SideAt.ahead (S:SideAt w N k lb r gv v nh na x){A':Int->Option Int}{na':Nat}(K:Keep (fun g=>g=k.ab) w w')(am:MapF Tryz.prog 3 w' k.ab (av A') na'):SideAt w' N k lb r gv v nh na' ⟨x.F,A',x.H⟩:=by
 obtain ⟨b1,b2,b3,b4⟩:=S.n1
 obtain ⟨d1,d2,d3⟩:=S.n2
 obtain ⟨e1,e2⟩:=S.n3
 exact ⟨K.cellOf S.c0 b2,K.cellOf S.c1 b2,K.cellOf S.c2 b2,K.cellOf S.c3 b2,K.cellOf S.c4 b2,K.cellOf S.c5 b2,S.fm.keep K d1,am,S.hp.keep K (fun e=>e1 e.symm) (fun e=>e2 e.symm) (fun g hg=>(S.vo g hg).2.2.2),S.nb,S.n1,S.n2,S.n3,S.vo⟩
theorem SideAt.heap (S:SideAt w N k lb r gv v nh na x){H':Int->Option (Int × Int)}(K:Keep (hb3 k.hb k.mb v) w w')(hp:HeapAt w' k.hb k.mb v' nh' H')(ho:∀ g,v'.ownBlock=some g->v.ownBlock=some g\/w.heap.size<=g)(hN:N<=w.heap.size):SideAt w' N k lb r gv v' nh' na ⟨x.F,x.A,H'⟩:=by
 obtain ⟨b1,b2,b3,b4⟩:=S.n1
 obtain ⟨d1,d2,d3⟩:=S.n2
 obtain ⟨e1,e2⟩:=S.n3
 have ls:k.sb<w.heap.size:=World.block_lt_of_cell? _ _ S.c0
 have lc:=S.fm.lt
 have la:=S.am.lt
 have hs:¬ hb3 k.hb k.mb v k.sb:=by
  rintro (h|h|h)
  ·exact b3 h
  ·exact b4 h
  ·exact (S.vo _ h).2.1 rfl
 have hc:¬ hb3 k.hb k.mb v k.cb:=by
  rintro (h|h|h)
  ·exact d2 h
  ·exact d3 h
  ·exact (S.vo _ h).2.2.1 rfl
 have ha:¬ hb3 k.hb k.mb v k.ab:=by
  rintro (h|h|h)
  ·exact e1 h
  ·exact e2 h
  ·exact (S.vo _ h).2.2.2 rfl
 refine ⟨K.cellOf S.c0 hs,K.cellOf S.c1 hs,K.cellOf S.c2 hs,K.cellOf S.c3 hs,K.cellOf S.c4 hs,K.cellOf S.c5 hs,S.fm.keep K hc,S.am.keep K ha,hp,S.nb,S.n1,S.n2,S.n3,fun g hg=>?_⟩
 rcases ho g hg with h|h
 ·exact S.vo g h
 ·exact ⟨by omega,by omega,by omega,by omega⟩
end
def GsOk (w0:World) (N gf:Nat) (cs:List Value) (g:Int->Int × Int):Prop:=(∀ (args:Array Value) (w:World),(callFunc gf args).run Tryz.prog w=.ok (.enter gf args) w)/\∀ (w:World) (n:Nat),Below N w0 w->n<256->Calls Tryz.prog gf (.int .i64 (n:Int)::cs).toArray w fun e w'=>e=.returned (.agg #[.int .i64 (g n).1,.int .i64 (g n).2])/\Below w.heap.size w w'
set_option maxHeartbeats 2000000 in
set_option maxRecDepth 1000000 in
theorem lower_any {N Ng gf:Nat}{k:SBk}{lb r nh na n:Nat}{v:Value}{cs:List Value}{g:Int->Int × Int}{x:SS}{s d:Int}(w0 w:World)(S:SideAt w N k lb r (.func (.func gf) #[] cs.toArray) v nh na x)(hg:GsOk w0 Ng gf cs g)(hNN:Ng<=N)(hB:Below Ng w0 w)(hn:n<256)(hc:okC s d)(hF:∀ {p q},x.F (n:Int)=some (p,q)->okC p q)(hgn:okC (g n).1 (g n).2)(hk:okC (s+(g n).1) (d+(g n).2))(hnh:nh<1000000) :
  Calls Tryz.prog 173 #[.pointer (some ⟨k.sb,0,none⟩),.int .i64 (n:Int),.agg #[.int .i64 s,.int .i64 d]] w fun e w'=>e=.returned (.bool (pushB x.F (n:Int) s d))/\∃ v' nh',SideAt w' N k lb r (.func (.func gf) #[] cs.toArray) v' nh' na (lowS g x (n:Int) s d)/\nh'<=nh+1/\Keep (sb5 k v) w w'/\∀ g,v'.ownBlock=some g->v.ownBlock=some g\/w.heap.size<=g:=by
 have hwn:=wf_small (a:=(n:Int)) (by omega) (by omega)
 have b0:Below w.heap.size w (w.alloc (.cells #[.int .i64 s,.int .i64 d] 53)):=(Below.refl _ _).alloc (Nat.le_refl _) _
 have S0:=S.below b0
 have sl0:=Slot.new w s d
 have q3:=S0.c3
 have l0:=sl0.c0
 have l1:=sl0.c1
 have hcn:=cnt_le x.F 256
 have hNw:N<=w.heap.size:=by have:=S.nb.1;have:k.sb<w.heap.size:=World.block_lt_of_cell? _ _ S.c0;omega
 obtain ⟨gs,gd,hgq⟩:∃ gs gd,g (n:Int)=(gs,gd):=⟨_,_,rfl⟩
 have hlow:pushB x.F (n:Int) s d=true->lowS g x (n:Int) s d=⟨putH x.F (n:Int) s d,x.A,pushH x.H (n:Int) (s+gs) (d+gd)⟩:=fun h=>by
  unfold lowS;rw [if_pos h,hgq]
 rw [hgq] at hgn hk
 have hnsb:¬ hb3 k.hb k.mb v k.sb:=fun h=>(S.from _ (Or.inr (Or.inr h))).2 rfl
 have hnw:¬ hb3 k.hb k.mb v w.heap.size:=fun h=>absurd (hb3_lt S.hp h) (Nat.lt_irrefl _)
 cases hx:x.F (n:Int) with
 |none =>
  have hl:(Instr.lookup 225 (.map (some k.cb)) (.int .i64 (n:Int)) true).run Tryz.prog (w.alloc (.cells #[.int .i64 s,.int .i64 d] 53))=.ok (.tuple #[.agg #[.int .i64 0,.int .i64 0],.bool false]) (w.alloc (.cells #[.int .i64 s,.int .i64 d] 53)):=S0.fm.look_none law3 Tryz.underK (zeroK _) hwn (fv_none hx) true
  have e1:pushB x.F (n:Int) s d=true:=pushB_iff.2 (fun p q h=>by rw [hx] at h;cases h)
  rw [hlow e1,e1]
  have hcq:∀ {ww:World}{f:Int->Option Value},MapF Tryz.prog 3 ww k.cb f (if (fv x.F (n:Int)).isSome then cnt x.F 256 else cnt x.F 256+1)->MapF Tryz.prog 3 ww k.cb f (cnt (putH x.F (n:Int) s d) 256):=fun h=>by
   rw [fv_none hx] at h
   rw [cnt_put x.F (n:Int) s d 256 (by omega) (by omega) hx];exact h
  have bA:=b0.alloc b0.size (.cells #[.int .i64 0,.int .i64 0] 53)
  have slA:Slot ((w.alloc (.cells #[.int .i64 s,.int .i64 d] 53)).alloc (.cells #[.int .i64 0,.int .i64 0] 53)) w.heap.size s d:=sl0.below ((Below.refl _ _).alloc (Nat.le_refl _) _)
  clear hlow e1 hF
  go_enter Tryz.func173,Tryz.ntmps173
  go_wp2_with fail
  clear hl S0 q3 l0 l1
  generalize (w.alloc (.cells #[.int .i64 s,.int .i64 d] 53)).alloc (.cells #[.int .i64 0,.int .i64 0] 53)=wA at *
  have S1:=(S.below bA).below (w':=wA.drew) ((Below.refl _ _).drew)
  have sl1:Slot wA.drew w.heap.size s d:=slA.below ((Below.refl _ _).drew)
  obtain ⟨w2,hrun2,hm2,ht2⟩:=S1.fm.store law3 Tryz.underK (by unfold maxLen;omega) hwn (.agg #[.int .i64 s,.int .i64 d])
  have BN1:Below N w wA.drew:=(bA.mono hNw).drew
  have q3:=S1.c3
  have l0:=sl1.c0
  have l1:=sl1.c1
  go_region
  go_wp2_with fail
  have K2:=turned_keep ht2
  have S2:=S1.cost (F':=putH x.F (n:Int) s d) K2 (by rw [<- fv_put];exact hcq hm2)
  have B2:Below N w w2:=BN1.trans (K2.to_below (Nat.le_trans hNw BN1.size) (fun g hg=>by rw [hg];exact S.nb.2.1))
  have sl2:=sl1.keep K2 (by have:=S.fm.lt;omega)
  have K03:Keep (sb5 k v) w w2.drew:=((((Keep.of_below bA).drew:Keep (sb5 k v) w wA.drew).trans K2 (fun _ _ h=>Or.inl h))).drew
  have S3:=S2.below (w':=w2.drew) ((Below.refl _ _).drew)
  have B3:Below N w w2.drew:=B2.drew
  have sl3:Slot w2.drew w.heap.size s d:=sl2.below ((Below.refl _ _).drew)
  have t0:=S3.c2
  have t1:=S3.c5
  have t2:=sl3.c0
  have t3:=sl3.c1
  have hgs:=hg.2 w2.drew n (hB.trans (B3.mono hNN)) hn
  rw [hgq] at hgs
  have hcf:=hg.1 (.int .i64 (n:Int)::cs).toArray w2.drew
  have hadd:Hid (∀ w10,_):=fun w10=>add_any s d gs gd w10 hc hgn
  have hpush:Hid (∀ w11,HeapAt w11 k.hb k.mb v nh x.H->_):=fun w11 h=>push_all (n:Int) (s+gs) (d+gd) w11 h hk hwn hnh
  have HS3:Hid _:=S3
  have hNz:N<=w2.drew.heap.size:=Nat.le_trans hNw B3.size
  clear S3 S2 S1 S sl3 sl2 sl1 sl0 slA K2 ht2 hm2 hrun2 BN1 B2 bA b0 hcq q3 l0 l1
  go_region_held3 (fun w'=>w'.cell? ⟨k.sb,2,none⟩=some (.func (.func gf) #[] cs.toArray)/\w'.cell? ⟨k.sb,5,none⟩=some (.pointer (some ⟨k.hb,0,none⟩))/\w'.cell? ⟨w.heap.size,0,none⟩=some (.int .i64 s)/\w'.cell? ⟨w.heap.size,1,none⟩=some (.int .i64 d)) (first|exact ⟨t0,t1,t2,t3⟩|exact ⟨u0,u1,u2,u3⟩|exact ⟨x0,x1,x2,x3⟩|exact ⟨z0,z1,z2,z3⟩)
   (first
    |(go_at_call 177;refine (hadd.out w10).mono ?_;rintro r w11 ⟨rfl,hb11⟩;have x0:=(hb11.cell (World.block_lt_of_cell? _ _ u0)).trans u0;have x1:=(hb11.cell (World.block_lt_of_cell? _ _ u1)).trans u1;have x2:=(hb11.cell (World.block_lt_of_cell? _ _ u2)).trans u2;have x3:=(hb11.cell (World.block_lt_of_cell? _ _ u3)).trans u3;have b11:=hb10.trans (hb11.mono hb10.size))
    |(go_at_call 202;refine (hpush.out w11 (HS3.out.hp.below b11)).mono ?_;rintro r w12 ⟨rfl,HT12,K12⟩;have z0:=K12.cellOf x0 hnsb;have z1:=K12.cellOf x1 hnsb;have z2:=K12.cellOf x2 hnw;have z3:=K12.cellOf x3 hnw)
    |(refine hgs.mono ?_;rintro r w10 ⟨rfl,hb10⟩;have u0:=(hb10.cell (World.block_lt_of_cell? _ _ t0)).trans t0;have u1:=(hb10.cell (World.block_lt_of_cell? _ _ t1)).trans t1;have u2:=(hb10.cell (World.block_lt_of_cell? _ _ t2)).trans t2;have u3:=(hb10.cell (World.block_lt_of_cell? _ _ t3)).trans t3))
  obtain ⟨v12,n12,hp12,hle12,ho12⟩:=HT12
  have S12:=(HS3.out.below b11).heap K12 hp12 ho12 (Nat.le_trans hNz b11.size)
  have K04:=K03.below b11
  have K05:=K04.trans K12 (fun _ _ h=>Or.inr (Or.inr h))
  have HO:Hid (∀ g,v12.ownBlock=some g->v.ownBlock=some g\/w.heap.size<=g):=fun g hg=>by
   rcases ho12 g hg with h|h
   ·exact Or.inl h
   ·exact Or.inr (Nat.le_trans K04.size h)
  clear t0 t1 t2 t3 u0 u1 u2 u3 x0 x1 x2 x3 z0 z1 z2 z3 K12 hp12 ho12 HS3 hgs hcf hadd hpush hb10 hb11 b11 B3 K03 K04
  go_wp2
  go_ret
  exact ⟨rfl,v12,n12,S12,hle12,K05,HO.out⟩
 |some c =>
  obtain ⟨p,q⟩:=c
  have hl:(Instr.lookup 225 (.map (some k.cb)) (.int .i64 (n:Int)) true).run Tryz.prog (w.alloc (.cells #[.int .i64 s,.int .i64 d] 53))=.ok (.tuple #[.agg #[.int .i64 p,.int .i64 q],.bool true]) (w.alloc (.cells #[.int .i64 s,.int .i64 d] 53)):=S0.fm.look_some law3 Tryz.underK (zeroK _) hwn (fv_some hx) true
  have okp:=hF hx
  have b1:=b0.alloc b0.size (.cells #[.int .i64 p,.int .i64 q] 53)
  have sl2:Slot ((w.alloc (.cells #[.int .i64 s,.int .i64 d] 53)).alloc (.cells #[.int .i64 p,.int .i64 q] 53)) w.heap.size s d:=sl0.below ((Below.refl _ _).alloc (Nat.le_refl _) _)
  have sl3:Slot ((w.alloc (.cells #[.int .i64 s,.int .i64 d] 53)).alloc (.cells #[.int .i64 p,.int .i64 q] 53)) (w.heap.size+1) p q:=by
   have h:=Slot.new (w.alloc (.cells #[.int .i64 s,.int .i64 d] 53)) p q
   have e:(w.alloc (.cells #[.int .i64 s,.int .i64 d] 53)).heap.size=w.heap.size+1:=by simp
   rw [e] at h;exact h
  have m0:=sl2.c0
  have m1:=sl2.c1
  have m2:=sl3.c0
  have m3:=sl3.c1
  have hlt:=less_v (r:=pushB x.F (n:Int) s d) (s:=s) (d:=d) (t:=p) (u:=q) (by
   unfold pushB
   rw [hx]
   show ltB s d p q=decide (val s d<val p q)
   cases hb:ltB s d p q with
   |true=>exact (decide_eq_true ((ltB_val hc okp).1 hb)).symm
   |false=>exact (decide_eq_false (fun h=>by rw [(ltB_val hc okp).2 h] at hb;cases hb)).symm) ((w.alloc (.cells #[.int .i64 s,.int .i64 d] 53)).alloc (.cells #[.int .i64 p,.int .i64 q] 53)) hc okp
  cases e1:pushB x.F (n:Int) s d with
  |false =>
   have hlx:lowS g x (n:Int) s d=x:=by unfold lowS;rw [e1];rfl
   rw [hlx]
   rw [e1] at hlt
   clear hlow hx hF hlx
   go_enter Tryz.func173,Tryz.ntmps173
   go_wp2_with fail
   refine hlt.mono ?_
   rintro e w3 ⟨rfl,hb3'⟩
   have b3:=b1.trans (hb3'.mono b1.size)
   have S3:=S.below b3
   clear hlt hl S0 q3 l0 l1 m0 m1 m2 m3 sl2 sl3 hb3' b1
   go_wp2
   go_ret
   exact ⟨rfl,v,nh,S3,by omega,Keep.of_below b3,fun _ h=>Or.inl h⟩
  |true =>
  rw [hlow e1]
  rw [e1] at hlt
  have hcq:∀ {ww:World}{f:Int->Option Value},MapF Tryz.prog 3 ww k.cb f (if (fv x.F (n:Int)).isSome then cnt x.F 256 else cnt x.F 256+1)->MapF Tryz.prog 3 ww k.cb f (cnt (putH x.F (n:Int) s d) 256):=fun h=>by
   rw [fv_some hx] at h
   rw [cntG_again x.F (n:Int) s d 256 (by rw [hx];rfl)];exact h
  clear hlow hx hF e1
  go_enter Tryz.func173,Tryz.ntmps173
  go_wp2_with fail
  refine hlt.mono ?_
  rintro e wA ⟨rfl,hbA⟩
  have bA:=b1.trans (hbA.mono b1.size)
  have slA:=sl2.below hbA
  clear hlt hl S0 q3 l0 l1 m0 m1 m2 m3 sl2 sl3 hbA b1
  go_wp2_with fail
  have S1:=(S.below bA).below (w':=wA.drew) ((Below.refl _ _).drew)
  have sl1:Slot wA.drew w.heap.size s d:=slA.below ((Below.refl _ _).drew)
  obtain ⟨w2,hrun2,hm2,ht2⟩:=S1.fm.store law3 Tryz.underK (by unfold maxLen;omega) hwn (.agg #[.int .i64 s,.int .i64 d])
  have BN1:Below N w wA.drew:=(bA.mono hNw).drew
  have q3:=S1.c3
  have l0:=sl1.c0
  have l1:=sl1.c1
  go_region
  go_wp2_with fail
  have K2:=turned_keep ht2
  have S2:=S1.cost (F':=putH x.F (n:Int) s d) K2 (by rw [<- fv_put];exact hcq hm2)
  have B2:Below N w w2:=BN1.trans (K2.to_below (Nat.le_trans hNw BN1.size) (fun g hg=>by rw [hg];exact S.nb.2.1))
  have sl2:=sl1.keep K2 (by have:=S.fm.lt;omega)
  have K03:Keep (sb5 k v) w w2.drew:=((((Keep.of_below bA).drew:Keep (sb5 k v) w wA.drew).trans K2 (fun _ _ h=>Or.inl h))).drew
  have S3:=S2.below (w':=w2.drew) ((Below.refl _ _).drew)
  have B3:Below N w w2.drew:=B2.drew
  have sl3:Slot w2.drew w.heap.size s d:=sl2.below ((Below.refl _ _).drew)
  have t0:=S3.c2
  have t1:=S3.c5
  have t2:=sl3.c0
  have t3:=sl3.c1
  have hgs:=hg.2 w2.drew n (hB.trans (B3.mono hNN)) hn
  rw [hgq] at hgs
  have hcf:=hg.1 (.int .i64 (n:Int)::cs).toArray w2.drew
  have hadd:Hid (∀ w10,_):=fun w10=>add_any s d gs gd w10 hc hgn
  have hpush:Hid (∀ w11,HeapAt w11 k.hb k.mb v nh x.H->_):=fun w11 h=>push_all (n:Int) (s+gs) (d+gd) w11 h hk hwn hnh
  have HS3:Hid _:=S3
  have hNz:N<=w2.drew.heap.size:=Nat.le_trans hNw B3.size
  clear S3 S2 S1 S sl3 sl2 sl1 sl0 slA K2 ht2 hm2 hrun2 BN1 B2 bA b0 hcq q3 l0 l1
  go_region_held3 (fun w'=>w'.cell? ⟨k.sb,2,none⟩=some (.func (.func gf) #[] cs.toArray)/\w'.cell? ⟨k.sb,5,none⟩=some (.pointer (some ⟨k.hb,0,none⟩))/\w'.cell? ⟨w.heap.size,0,none⟩=some (.int .i64 s)/\w'.cell? ⟨w.heap.size,1,none⟩=some (.int .i64 d)) (first|exact ⟨t0,t1,t2,t3⟩|exact ⟨u0,u1,u2,u3⟩|exact ⟨x0,x1,x2,x3⟩|exact ⟨z0,z1,z2,z3⟩)
   (first
    |(go_at_call 177;refine (hadd.out w10).mono ?_;rintro r w11 ⟨rfl,hb11⟩;have x0:=(hb11.cell (World.block_lt_of_cell? _ _ u0)).trans u0;have x1:=(hb11.cell (World.block_lt_of_cell? _ _ u1)).trans u1;have x2:=(hb11.cell (World.block_lt_of_cell? _ _ u2)).trans u2;have x3:=(hb11.cell (World.block_lt_of_cell? _ _ u3)).trans u3;have b11:=hb10.trans (hb11.mono hb10.size))
    |(go_at_call 202;refine (hpush.out w11 (HS3.out.hp.below b11)).mono ?_;rintro r w12 ⟨rfl,HT12,K12⟩;have z0:=K12.cellOf x0 hnsb;have z1:=K12.cellOf x1 hnsb;have z2:=K12.cellOf x2 hnw;have z3:=K12.cellOf x3 hnw)
    |(refine hgs.mono ?_;rintro r w10 ⟨rfl,hb10⟩;have u0:=(hb10.cell (World.block_lt_of_cell? _ _ t0)).trans t0;have u1:=(hb10.cell (World.block_lt_of_cell? _ _ t1)).trans t1;have u2:=(hb10.cell (World.block_lt_of_cell? _ _ t2)).trans t2;have u3:=(hb10.cell (World.block_lt_of_cell? _ _ t3)).trans t3))
  obtain ⟨v12,n12,hp12,hle12,ho12⟩:=HT12
  have S12:=(HS3.out.below b11).heap K12 hp12 ho12 (Nat.le_trans hNz b11.size)
  have K04:=K03.below b11
  have K05:=K04.trans K12 (fun _ _ h=>Or.inr (Or.inr h))
  have HO:Hid (∀ g,v12.ownBlock=some g->v.ownBlock=some g\/w.heap.size<=g):=fun g hg=>by
   rcases ho12 g hg with h|h
   ·exact Or.inl h
   ·exact Or.inr (Nat.le_trans K04.size h)
  clear t0 t1 t2 t3 u0 u1 u2 u3 x0 x1 x2 x3 z0 z1 z2 z3 K12 hp12 ho12 HS3 hgs hcf hadd hpush hb10 hb11 b11 B3 K03 K04
  go_wp2
  go_ret
  exact ⟨rfl,v12,n12,S12,hle12,K05,HO.out⟩
end
section
open Go.RowKit
set_option maxHeartbeats 400000 in
theorem within_any (n:Int)(w:World):Calls Tryz.prog 201 #[.int .i64 n] w fun e w'=>e=.returned (.bool (decide (0<=n/\n<=1048576)))/\w'=w:=by
 by_cases h:0<=n
 ·by_cases k:n<=1048576
  ·rw [decide_eq_true (show 0<=n/\n<=1048576 from ⟨h,k⟩)]
   go_enter Tryz.func201,Tryz.ntmps201
   go_wp2
   go_ret
   exact ⟨rfl,rfl⟩
  ·rw [decide_eq_false (show ¬ (0<=n/\n<=1048576) from fun g=>k g.2)]
   go_enter Tryz.func201,Tryz.ntmps201
   go_wp2
   go_ret
   exact ⟨rfl,rfl⟩
 ·rw [decide_eq_false (show ¬ (0<=n/\n<=1048576) from fun g=>h g.1)]
  go_enter Tryz.func201,Tryz.ntmps201
  go_wp2
  go_ret
  exact ⟨rfl,rfl⟩
set_option maxHeartbeats 400000 in
theorem costCheck_ok (s d:Int)(w:World)(h:inC s d):Calls Tryz.prog 172 #[.agg #[.int .i64 s,.int .i64 d]] w fun e w'=>e=.returned .nilIface/\Below w.heap.size w w':=by
 obtain ⟨h1,h2,h3,h4⟩:=h
 have e1:decide (0<=s/\s<=1048576)=true:=decide_eq_true ⟨h1,h2⟩
 have e2:decide (0<=d/\d<=1048576)=true:=decide_eq_true ⟨h3,h4⟩
 go_enter Tryz.func172,Tryz.ntmps172
 go_wp2_with (go_at_call 201;refine (within_any _ _).mono ?_;rintro e w' ⟨rfl,rfl⟩)
 go_ret
 exact ⟨rfl,(Below.refl _ _).alloc (Nat.le_refl _) _⟩
set_option maxHeartbeats 400000 in
theorem costCheck_bad (s d:Int)(w:World)(h:¬ inC s d):Calls Tryz.prog 172 #[.agg #[.int .i64 s,.int .i64 d]] w fun e w'=>e=.returned (.iface 54 (.int .i64 1))/\Below w.heap.size w w':=by
 by_cases g:0<=s/\s<=1048576
 ·have e1:decide (0<=s/\s<=1048576)=true:=decide_eq_true g
  have e2:decide (0<=d/\d<=1048576)=false:=decide_eq_false fun k=>h ⟨g.1,g.2,k.1,k.2⟩
  clear g h
  go_enter Tryz.func172,Tryz.ntmps172
  go_wp2_with (go_at_call 201;refine (within_any _ _).mono ?_;rintro e w' ⟨rfl,rfl⟩)
  go_ret
  exact ⟨rfl,(Below.refl _ _).alloc (Nat.le_refl _) _⟩
 ·have e1:decide (0<=s/\s<=1048576)=false:=decide_eq_false g
  clear g h
  go_enter Tryz.func172,Tryz.ntmps172
  go_wp2_with (go_at_call 201;refine (within_any _ _).mono ?_;rintro e w' ⟨rfl,rfl⟩)
  go_ret
  exact ⟨rfl,(Below.refl _ _).alloc (Nat.le_refl _) _⟩
def RowI (w:World) (A:Option Addr) (l:List IE):Prop:=∀ (i:Nat) (e:IE),l[i]? = some e->(Lit.int .i64 e.to).wf=true/\∃ b o,A=some ⟨b,o,none⟩/\w.cell? ⟨b,o+i*4,none⟩=some (.int .i64 e.to)/\w.cell? ⟨b,o+i*4+1,none⟩=some (.int .i64 e.s)/\w.cell? ⟨b,o+i*4+2,none⟩=some (.int .i64 e.d)/\w.cell? ⟨b,o+i*4+3,none⟩=some (.int .i64 e.mid)
theorem RowI.below {w w':World}{N:Nat}{A:Option Addr}{l:List IE}(h:RowI w A l)(hN:w.heap.size<=N)(hb:Below N w w'):RowI w' A l:=fun i e hi=>by
 obtain ⟨q,b,o,e0,h1,h2,h3,h4⟩:=h i e hi
 have hlt:b<N:=Nat.lt_of_lt_of_le (World.block_lt_of_cell? _ _ h1) hN
 exact ⟨q,b,o,e0,(hb.cell (p:=⟨b,_,none⟩) hlt).trans h1,(hb.cell (p:=⟨b,_,none⟩) hlt).trans h2,(hb.cell (p:=⟨b,_,none⟩) hlt).trans h3,(hb.cell (p:=⟨b,_,none⟩) hlt).trans h4⟩
theorem fromS_snoc (L:List Nat)(g:Int->Int × Int){l:List IE}{i:Nat}{e:IE}(h:l[i]? = some e):fromS L g (l.take (i+1))=stepF L g (fromS L g (l.take i)) e:=by
 unfold fromS
 rw [List.take_add_one,h,List.foldl_append]
 rfl
set_option maxHeartbeats 4000000 in
set_option maxRecDepth 1000000 in
theorem sfrom_any {N0 lb vb eb top r gf cap:Nat}{L:List Nat}{lv:LSt}{f:Int->Option Value}{cs:List Value}{g:Int->Int × Int}{A:Option Addr}{l:List IE}(w0 w:World)(V0:LvAt w0 N0 lb vb eb top L lv f)(O:LvOk L lv)(hg:GsOk w0 w0.heap.size gf cs g)(hB:Below w0.heap.size w0 w)(hrow:RowI w A l)(hl:l.length<=1000)(hgb:∀ n:Nat,0<=(g n).1/\(g n).1<=1024/\0<=(g n).2/\(g n).2<=1024) :
  Calls Tryz.prog 131 #[.pointer (some ⟨lb,0,none⟩),.slice A l.length cap,.int .i64 (r:Int),.func (.func gf) #[] cs.toArray] w fun e w'=>∃ k v nh,e=.returned (.pointer (some ⟨k.sb,0,none⟩))/\SideAt w' w.heap.size k lb r (.func (.func gf) #[] cs.toArray) v nh 0 (fromS L g l)/\nh<=l.length/\Below w.heap.size w w':=by
 have hmm:=@run_makeMap Tryz.prog
 have b0:Below w.heap.size w ((w.alloc (.map #[] 0)).alloc (.map #[] 0)):=((Below.refl _ _).alloc (Nat.le_refl _) _).alloc (by simp) _
 have hz0:((w.alloc (.map #[] 0)).alloc (.map #[] 0)).heap.size=w.heap.size+2:=by simp
 have M0:MapF Tryz.prog 3 ((w.alloc (.map #[] 0)).alloc (.map #[] 0)) w.heap.size (fv fun _=>none) (cnt (fun _=>none) 256):=by
  rw [cnt_none]
  exact (MapF.made w Tryz.prog 3).keep (F:=fun _=>False) ((Keep.refl _ _).alloc _) id
 have M1:MapF Tryz.prog 3 ((w.alloc (.map #[] 0)).alloc (.map #[] 0)) (w.heap.size+1) (av fun _=>none) 0:=by
  have h:=MapF.made (w.alloc (.map #[] 0)) Tryz.prog 3
  have e:(w.alloc (.map #[] 0)).heap.size=w.heap.size+1:=by simp
  rw [e] at h
  exact h
 have hnew:=new_any ((w.alloc (.map #[] 0)).alloc (.map #[] 0))
 rw [hz0] at hnew
 go_enter Tryz.func131,Tryz.ntmps131
 go_wp2_with fail
 generalize (w.alloc (.map #[] 0)).alloc (.map #[] 0)=wa at *
 refine hnew.mono ?_
 rintro e w1 ⟨rfl,HA,hb1,hz1⟩
 have b1:Below wa.heap.size wa w1:=by rw [hz0];exact hb1
 have B1:=b0.trans (b1.mono b0.size)
 have BW:Below w.heap.size w (w1.alloc (.cells #[.pointer (some ⟨lb,0,none⟩),.int .i64 (r:Int),.func (.func gf) #[] cs.toArray,.map (some w.heap.size),.map (some (w.heap.size+1)),.pointer (some ⟨w.heap.size+2+1,0,none⟩)] 228)):=B1.alloc B1.size _
 have bw:Below w1.heap.size w1 (w1.alloc (.cells #[.pointer (some ⟨lb,0,none⟩),.int .i64 (r:Int),.func (.func gf) #[] cs.toArray,.map (some w.heap.size),.map (some (w.heap.size+1)),.pointer (some ⟨w.heap.size+2+1,0,none⟩)] 228)):=(Below.refl _ _).alloc (Nat.le_refl _) _
 have hw1:w1.heap.size=w.heap.size+4:=by omega
 have S1:SideAt (w1.alloc (.cells #[.pointer (some ⟨lb,0,none⟩),.int .i64 (r:Int),.func (.func gf) #[] cs.toArray,.map (some w.heap.size),.map (some (w.heap.size+1)),.pointer (some ⟨w.heap.size+2+1,0,none⟩)] 228)) w.heap.size ⟨w.heap.size+4,w.heap.size,w.heap.size+1,w.heap.size+2+1,w.heap.size+2⟩ lb r (.func (.func gf) #[] cs.toArray) (.slice none 0 0) 0 0 homeS :=
  ⟨World.cell?_alloc_at _ _ _ 0 (by simp [hw1]),World.cell?_alloc_at _ _ _ 1 (by simp [hw1]),World.cell?_alloc_at _ _ _ 2 (by simp [hw1]),World.cell?_alloc_at _ _ _ 3 (by simp [hw1]),World.cell?_alloc_at _ _ _ 4 (by simp [hw1]),World.cell?_alloc_at _ _ _ 5 (by simp [hw1]),
   (M0.keep (F:=fun _=>False) (Keep.of_below b1) id).keep (F:=fun _=>False) (Keep.of_below bw) id,(M1.keep (F:=fun _=>False) (Keep.of_below b1) id).keep (F:=fun _=>False) (Keep.of_below bw) id,HA.below bw,
   by simp only;omega,by simp only;omega,by simp only;omega,by simp only;omega,fun g hg=>(by cases hg)⟩
 clear hnew HA hb1 hz1 b1 B1 bw M0 M1 b0 hz0
 go_wp2
 generalize w1.alloc (.cells #[.pointer (some ⟨lb,0,none⟩),.int .i64 (r:Int),.func (.func gf) #[] cs.toArray,.map (some w.heap.size),.map (some (w.heap.size+1)),.pointer (some ⟨w.heap.size+2+1,0,none⟩)] 228)=w2 at *
 try rw [hw1]
 obtain ⟨k,hk⟩:∃ k:SBk,k=⟨w.heap.size+4,w.heap.size,w.heap.size+1,w.heap.size+2+1,w.heap.size+2⟩:=⟨_,rfl⟩
 have hks:w.heap.size+4=k.sb:=by rw [hk]
 rw [<- hk] at S1
 rw [hks]
 clear hk hks hw1
 go_loopw [24] (fun iv wr=>∃ (i:Nat) (v:Value) (nh:Nat),i<=l.length/\iv=.int .i64 i/\SideAt wr w.heap.size k lb r (.func (.func gf) #[] cs.toArray) v nh 0 (fromS L g (l.take i))/\nh<=i/\Below w.heap.size w wr)
  (fun i _=>l.length - (intOf i).toNat)
 case atStart=>exact ⟨0,_,0,Nat.zero_le _,rfl,S1,Nat.le_refl _,BW⟩
 case round =>
  clear S1 BW
  obtain ⟨i,v,nh,hi,rfl,S,hnh,hBr⟩:=hrel
  by_cases hlt:i<l.length
  ·obtain ⟨e,he⟩:∃ e,l[i]? = some e:=⟨l[i],List.getElem?_eq_getElem hlt⟩
   obtain ⟨hwe,b,o,rfl,q0,q1,q2,q3⟩:=(hrow.below (Nat.le_refl _) hBr) i e he
   have hsn:=fromS_snoc L g he
   have FI0:FI L lv r g (l.take i) (fromS L g (l.take i)):=by
    have h:=FI.fold O (l':=l.take i) (FI.start L lv r g)
    exact h
   have HFI:Hid _:=FI0
   have i1:(0:Int)<=(i:Int):=by omega
   have i2:(i:Int)<(l.length:Int):=by omega
   have b10:Below wr.heap.size wr (wr.alloc (.cells #[.int .i64 e.to,.int .i64 e.s,.int .i64 e.d,.int .i64 e.mid] 204)):=(Below.refl _ _).alloc (Nat.le_refl _) _
   have y0:(wr.alloc (.cells #[.int .i64 e.to,.int .i64 e.s,.int .i64 e.d,.int .i64 e.mid] 204)).cell? ⟨wr.heap.size,0,none⟩=some (.int .i64 e.to):=World.cell?_alloc_at _ _ _ 0 rfl
   have y1:(wr.alloc (.cells #[.int .i64 e.to,.int .i64 e.s,.int .i64 e.d,.int .i64 e.mid] 204)).cell? ⟨wr.heap.size,1,none⟩=some (.int .i64 e.s):=World.cell?_alloc_at _ _ _ 1 rfl
   have y2:(wr.alloc (.cells #[.int .i64 e.to,.int .i64 e.s,.int .i64 e.d,.int .i64 e.mid] 204)).cell? ⟨wr.heap.size,2,none⟩=some (.int .i64 e.d):=World.cell?_alloc_at _ _ _ 2 rfl
   have B10:=hBr.trans (b10.mono hBr.size)
   have C10:=hB.trans (B10.mono hB.size)
   have V10:=V0.below C10
   have S10:=S.below b10
   by_cases hin:0<=e.to/\e.to.toNat ∈ L
   ·obtain ⟨n,hn⟩:∃ n:Nat,e.to=(n:Int):=⟨e.to.toNat,by omega⟩
    have hnL:n ∈ L:=by have h:=hin.2;rw [hn,Int.toNat_natCast] at h;exact h
    rw [hn] at q0 y0 b10 B10 C10 V10 S10 y1 y2
    have hlev:=level_yes _ V10 hnL
    have hn256:=O.small _ hnL
    have okin:okEB L e=true↔inC e.s e.d:=by
     rw [okEB_iff];unfold okE inC;exact ⟨fun h=>h.2,fun h=>⟨hin,h⟩⟩
    by_cases hc:inC e.s e.d
    ·have hck:Hid (∀ w',_):=fun w'=>costCheck_ok e.s e.d w' hc
     have hst:stepF L g (fromS L g (l.take i)) e=lowS g (fromS L g (l.take i)) (n:Int) e.s e.d:=by unfold stepF;rw [if_pos (okin.2 hc),hn]
     rw [hst] at hsn
     have hgn:=hgb n
     have hcc:0<=e.s/\e.s<=1048576/\0<=e.d/\e.d<=1048576:=hc
     have HSN:Hid (fromS L g (l.take (i+1))=lowS g (fromS L g (l.take i)) (n:Int) e.s e.d):=hsn
     have HC:Hid (inC e.s e.d):=hc
     have HN:Hid (e.to=(n:Int)):=hn
     clear hsn hst okin hin he hn S hwe hBr V10 hc
     generalize fromS L g (l.take i)=x at *
     generalize e.s=es at *
     generalize e.d=ed at *
     generalize e.mid=em at *
     go_wp2_with fail
     clear q0 q1 q2 q3
     generalize wr.alloc (.cells #[.int .i64 (n:Int),.int .i64 es,.int .i64 ed,.int .i64 em] 204)=w3 at *
     generalize wr.heap.size=E at *
     refine hlev.mono ?_
     rintro r1 wl ⟨rfl,hwl⟩
     replace hwl:=hwl.symm
     subst hwl
     clear hlev
     go_wp2_with fail
     refine (hck.out _).mono ?_
     rintro r1 w4 ⟨rfl,hb4⟩
     have S4:=S10.below hb4
     have B4:=B10.trans (hb4.mono B10.size)
     have C4:=C10.trans (hb4.mono C10.size)
     have z0:=(hb4.cell (World.block_lt_of_cell? _ _ y0)).trans y0
     have z1:=(hb4.cell (World.block_lt_of_cell? _ _ y1)).trans y1
     have z2:=(hb4.cell (World.block_lt_of_cell? _ _ y2)).trans y2
     have hlo:=lower_any (s:=es) (d:=ed) w0 w4 S4 hg hB.size C4 hn256 (by unfold okC;omega) (fun h=>by have:=HFI.out.si.big h;unfold okC;omega) (by unfold okC;omega) (by unfold okC;omega) (by omega)
     have HS4:Hid _:=S4
     clear S4 S10 hb4 y0 y1 y2 B10 C10 C4 b10 hck
     go_wp2_with fail
     refine hlo.mono ?_
     rintro r1 w5 ⟨rfl,v5,n5,S5,hn5,K5,_⟩
     have B5:=B4.trans (HS4.out.to_below K5)
     rw [<- HSN.out] at S5
     clear hlo z0 z1 z2 B4 K5 HS4
     go_wp2
     go_roundw
     case rel=>exact ⟨i+1,v5,n5,by omega,by go_num,S5,by omega,B5⟩
     case measure=>simp [intOf];omega
    ·have hck:Hid (∀ w',_):=fun w'=>costCheck_bad e.s e.d w' hc
     have hst:stepF L g (fromS L g (l.take i)) e=fromS L g (l.take i):=by unfold stepF;rw [if_neg (fun h=>hc (okin.1 h))]
     rw [hst] at hsn
     have HSN:Hid (fromS L g (l.take (i+1))=fromS L g (l.take i)):=hsn
     have HC:Hid (¬ inC e.s e.d):=hc
     clear hsn hst okin hin he hn S hwe hBr V10 hc HFI FI0
     generalize e.s=es at *
     generalize e.d=ed at *
     generalize e.mid=em at *
     go_wp2_with fail
     clear q0 q1 q2 q3
     generalize wr.alloc (.cells #[.int .i64 (n:Int),.int .i64 es,.int .i64 ed,.int .i64 em] 204)=w3 at *
     generalize wr.heap.size=E at *
     refine hlev.mono ?_
     rintro r1 wl ⟨rfl,hwl⟩
     replace hwl:=hwl.symm
     subst hwl
     clear hlev
     go_wp2_with fail
     refine (hck.out _).mono ?_
     rintro r1 w4 ⟨rfl,hb4⟩
     have S4:=S10.below hb4
     have B4:=B10.trans (hb4.mono B10.size)
     rw [<- HSN.out] at S4
     clear S10 hb4 y0 y1 y2 B10 C10 b10 hck
     go_wp2
     go_roundw
     case rel=>exact ⟨i+1,v,nh,by omega,by go_num,S4,by omega,B4⟩
     case measure=>simp [intOf];omega
   ·have hlev:=level_no _ V10 hin hwe
    have hst:stepF L g (fromS L g (l.take i)) e=fromS L g (l.take i):=by unfold stepF;rw [if_neg (fun h=>hin (okEB_iff.1 h).1)]
    rw [hst,] at hsn
    rw [<- hsn] at S10
    clear hsn hst hin he S hwe hBr V10 HFI FI0
    generalize e.to=et at *
    generalize e.s=es at *
    generalize e.d=ed at *
    generalize e.mid=em at *
    go_wp2_with fail
    clear q0 q1 q2 q3
    generalize wr.alloc (.cells #[.int .i64 et,.int .i64 es,.int .i64 ed,.int .i64 em] 204)=w3 at *
    generalize wr.heap.size=E at *
    refine hlev.mono ?_
    rintro r1 wl ⟨rfl,hwl⟩
    replace hwl:=hwl.symm
    subst hwl
    clear hlev
    go_wp2
    go_roundw
    case rel=>exact ⟨i+1,v,nh,by omega,by go_num,S10,by omega,B10⟩
    case measure=>simp [intOf];omega
  ·have e:i=l.length:=by omega
   subst e
   rw [List.take_length] at S
   go_wp2
   go_ret
   exact ⟨k,v,nh,rfl,S,hnh,hBr⟩
end
section
open Go.RowKit
def ca (A:Int->Option Int):Nat:=cnt (fun a=>(A a).map fun n=>(n,(0:Int))) 256
theorem ca_le (A:Int->Option Int):ca A<=256:=cnt_le _ _
theorem ca_put (A:Int->Option Int){a:Int}(n:Int)(h0:0<=a)(h1:a<256):(if (av A a).isSome then ca A else ca A+1)=ca (putA A a n):=by
 have e:(fun i=>(putA A a n i).map fun n=>(n,(0:Int)))=putH (fun i=>(A i).map fun n=>(n,(0:Int))) a n 0:=by
  funext i
  unfold putA putH
  by_cases q:i=a
  ·rw [if_pos q,if_pos q];rfl
  ·rw [if_neg q,if_neg q]
 unfold ca
 rw [e]
 cases hA:A a with
 |none =>
  rw [av_none hA,cnt_put _ a n 0 256 h0 h1 (by rw [hA];rfl)];rfl
 |some m =>
  rw [av_some hA,cntG_again _ a n 0 256 (by rw [hA];rfl)];rfl
theorem HeapAt.few {w:World}{b mb n:Nat}{v:Value}{H:Int->Option (Int × Int)}(h:HeapAt w b mb v n H)(hs:∀ {a s d},H a=some (s,d)->0<=a/\a<256):n<=256:=by
 obtain ⟨it,f,S,O⟩:=h.ex
 have hp:=S.atf.apart
 have key:((List.range n).map (fun i=>(it i).id.toNat)).Nodup:=by
  unfold List.Nodup
  rw [List.pairwise_map]
  refine List.Pairwise.imp_of_mem ?_ (List.nodup_range (n:=n))
  intro i j hi hj hne
  have hi:=List.mem_range.1 hi
  have hj:=List.mem_range.1 hj
  intro q
  have a1:=hs (S.holds.at hi)
  have a2:=hs (S.holds.at hj)
  exact hne (hp i j hi hj (by omega))
 have:=nodup_len 256 key (fun m hm=>by
  obtain ⟨i,hi,rfl⟩:=List.mem_map.1 hm
  have a1:=hs (S.holds.at (List.mem_range.1 hi))
  omega)
 simpa using this
theorem SI.few {L:List Nat}{lv:LSt}{r:Nat}{g:Int->Int × Int}{src:Int->Int->Int->Prop}{P:Int->Int->Prop}{x:SS}(O:LvOk L lv)(h:SI L lv r g src P x){w:World}{b mb n:Nat}{v:Value}(hp:HeapAt w b mb v n x.H):n<=256:=hp.few (fun ha=>by
 obtain ⟨s',d',k1,_⟩:=h.key ha
 obtain ⟨l1,l2,_⟩:=h.lab k1
 have:=O.small _ l2
 omega)
theorem stepS_up {lv:LSt}{r n:Nat}{g:Int->Int × Int}{x:SS}{e:LE}{s d:Int}(hF:x.F (n:Int)=some (s,d))(h:lv.lev n+r<=lv.lev e.to):stepS lv r g n x e=if pushB x.F (e.to:Int) (s+e.s) (d+e.d)=true then aheadS (lowS g x (e.to:Int) (s+e.s) (d+e.d)) (e.to:Int) (n:Int) else x:=by
 unfold stepS
 rw [hF]
 show (if lv.lev n+r<=lv.lev e.to/\pushB x.F (e.to:Int) (s+e.s) (d+e.d)=true then aheadS (lowS g x (e.to:Int) (s+e.s) (d+e.d)) (e.to:Int) (n:Int) else x)=_
 by_cases q:pushB x.F (e.to:Int) (s+e.s) (d+e.d)=true
 ·rw [if_pos ⟨h,q⟩,if_pos q]
 ·rw [if_neg (fun h=>q h.2),if_neg q]
theorem lowS_A (g:Int->Int × Int)(x:SS)(n s d:Int):(lowS g x n s d).A=x.A:=by
 unfold lowS
 split <;> rfl
theorem stepS_no {lv:LSt}{r n:Nat}{g:Int->Int × Int}{x:SS}{e:LE}(h:¬ lv.lev n+r<=lv.lev e.to):stepS lv r g n x e=x:=by
 unfold stepS
 exact if_neg (fun q=>h q.1)
set_option maxHeartbeats 4000000 in
set_option maxRecDepth 1000000 in
theorem goOn_any {N Ng N0 lb vb eb top r gf n nh:Nat}{k:SBk}{L:List Nat}{lv:LSt}{f:Int->Option Value}{v:Value}{cs:List Value}{g:Int->Int × Int}{src:Int->Int->Int->Prop}{x:SS}{s d:Int}(w0 w:World)(V0:LvAt w0 N0 lb vb eb top L lv f)(O:LvOk L lv)(hlv:∀ n,1<=lv.lev n/\lv.lev n<=7)(hr:r<=1)(hg:GsOk w0 Ng gf cs g)(hNw:Ng=w0.heap.size)(hNN:Ng<=N)(hB:Below Ng w0 w)(hgb:∀ n:Nat,0<=(g n).1/\(g n).1<=1024/\0<=(g n).2/\(g n).2<=1024)
  (S:SideAt w N k lb r (.func (.func gf) #[] cs.toArray) v nh (ca x.A) x) (hSI:SI L lv r g src (fun a _=>a≠(n:Int)\/False) x) (hn:x.F (n:Int)=some (s,d)) (hH:x.H (n:Int)=none) :
  Calls Tryz.prog 133 #[.pointer (some ⟨k.sb,0,none⟩),.int .i64 (n:Int)] w fun e w'=>e=.returned (.tuple #[])/\∃ v' nh',SideAt w' N k lb r (.func (.func gf) #[] cs.toArray) v' nh' (ca (goS lv r g n x).A) (goS lv r g n x)/\Keep (sb5 k v) w w'/\∀ g,v'.ownBlock=some g->v.ownBlock=some g\/w.heap.size<=g:=by
 have hnL:n ∈ L:=by have h:=(hSI.lab hn).2.1;rw [Int.toNat_natCast] at h;exact h
 have hn256:=O.small _ hnL
 have hes:(lv.es n).length<=256:=by
  have h1:((lv.es n).map (·.to)).Nodup:=by
   unfold List.Nodup
   rw [List.pairwise_map]
   exact (O.esy.ord n).imp (fun h=>Nat.ne_of_lt h)
  have:=nodup_len 256 h1 (fun m hm=>by
   obtain ⟨e,he,rfl⟩:=List.mem_map.1 hm
   exact O.small _ (O.ends he).2)
  simpa using this
 have HVB:Hid (∀ g,sb5 k v g->g<w.heap.size):=fun g hg=>by
  rcases hg with rfl|rfl|h
  ·exact S.fm.lt
  ·exact S.am.lt
  ·exact hb3_lt S.hp h
 have V:=V0.below (by rw [<- hNw];exact hB)
 have hlev:=level_yes w V hnL
 have c0:=S.c0
 go_enter Tryz.func133,Tryz.ntmps133
 go_wp2_with fail
 refine hlev.mono ?_
 rintro e wl ⟨rfl,hwl⟩
 replace hwl:=hwl.symm
 subst hwl
 have hled:=ledges_yes w V hnL hes
 clear hlev
 go_wp2_with fail
 refine hled.mono ?_
 rintro e w1 ⟨v1,rfl,hown1,hb1⟩
 obtain ⟨A1,cap1,rfl,row1,hA1⟩:=rowL_of hown1
 have HA1:Hid (∀ b o,A1=some ⟨b,o,none⟩->w.heap.size<=b/\b<w1.heap.size):=fun b o h=>by
  rcases hA1 with ⟨h1,_⟩|⟨g,h1,_,h2,h3⟩
  ·rw [h1] at h;cases h
  ·rw [h1] at h;cases h;exact ⟨h2,h3⟩
 clear hA1
 have S1:=S.below hb1
 have hNw':N<=w.heap.size:=by have:=S.nb.1;have:k.sb<w.heap.size:=World.block_lt_of_cell? _ _ S.c0;omega
 have B1:=hb1.mono hNw'
 clear hled hown1 c0 V
 go_wp2
 have HV1:Hid (Keep (sb5 k v) w w1):=Keep.of_below hb1
 have HSz:w.heap.size<=w1.heap.size:=hb1.size
 clear hb1
 go_loopw [32] (fun iv wr=>∃ (i:Nat) (v':Value) (nh:Nat),i<=(lv.es n).length/\iv=.int .i64 i/\SideAt wr N k lb r (.func (.func gf) #[] cs.toArray) v' nh (ca (((lv.es n).take i).foldl (stepS lv r g n) x).A) (((lv.es n).take i).foldl (stepS lv r g n) x)/\Keep (sb5 k v) w1 wr/\∀ g,v'.ownBlock=some g->v.ownBlock=some g\/w1.heap.size<=g)
  (fun i _=>(lv.es n).length - (intOf i).toNat)
 case atStart=>exact ⟨0,v,nh,Nat.zero_le _,rfl,S1,Keep.refl _ _,fun _ h=>Or.inl h⟩
 case round =>
  have HR1:Hid (RowL w1 A1 (lv.es n)):=row1
  have HB1:Hid _:=B1
  have HS1:Hid _:=S1
  clear S1 B1 row1 S
  obtain ⟨i,v',nh,hi,rfl,S,K,hvo⟩:=hrel
  have hBr:=HB1.out.trans (HS1.out.to_below K)
  have row:=HR1.out.keep K (fun b o h q=>by have:=(HA1.out b o h).1;have:=HVB.out b q;omega)
  have HVO:Hid (∀ g,v'.ownBlock=some g->v.ownBlock=some g\/w1.heap.size<=g):=hvo
  clear hvo
  by_cases hlt:i<(lv.es n).length
  ·obtain ⟨e,he⟩:∃ e,(lv.es n)[i]? = some e:=⟨(lv.es n)[i],List.getElem?_eq_getElem hlt⟩
   have hem:=List.mem_of_getElem? he
   obtain ⟨b,o,rfl,q0,q1,q2,q3⟩:=row i e he
   have hsn:((lv.es n).take (i+1)).foldl (stepS lv r g n) x=stepS lv r g n (((lv.es n).take i).foldl (stepS lv r g n) x) e:=by
    rw [List.take_add_one,he,List.foldl_append]
    rfl
   obtain ⟨SIi,hFi,hHi⟩:=SI.fold O (l:=(lv.es n).take i) (fun e he=>List.mem_of_mem_take he) hSI hn hH
   have hnh:=SIi.few O S.hp
   have hbe:=O.bd hem
   have hbig:=SIi.big hFi
   have htL:=(O.ends hem).2
   have ht256:=O.small _ htL
   have HFC:Hid (∀ {p q},(((lv.es n).take i).foldl (stepS lv r g n) x).F (e.to:Int)=some (p,q)->okC p q):=fun h=>by have:=SIi.big h;unfold okC;omega
   have hst:lv.lev n+r<=lv.lev e.to->_:=fun h=>stepS_up (g:=g) (e:=e) hFi h
   have hst0:¬ lv.lev n+r<=lv.lev e.to->stepS lv r g n (((lv.es n).take i).foldl (stepS lv r g n) x) e=(((lv.es n).take i).foldl (stepS lv r g n) x):=fun h=>stepS_no h
   have i1:(0:Int)<=(i:Int):=by omega
   have i2:(i:Int)<((lv.es n).length:Int):=by omega
   have b10:Below wr.heap.size wr (wr.alloc (.cells #[.int .i64 (e.to:Int),.int .i64 e.s,.int .i64 e.d,.int .i64 e.mid] 204)):=(Below.refl _ _).alloc (Nat.le_refl _) _
   have y0:(wr.alloc (.cells #[.int .i64 (e.to:Int),.int .i64 e.s,.int .i64 e.d,.int .i64 e.mid] 204)).cell? ⟨wr.heap.size,0,none⟩=some (.int .i64 (e.to:Int)):=World.cell?_alloc_at _ _ _ 0 rfl
   have y1:(wr.alloc (.cells #[.int .i64 (e.to:Int),.int .i64 e.s,.int .i64 e.d,.int .i64 e.mid] 204)).cell? ⟨wr.heap.size,1,none⟩=some (.int .i64 e.s):=World.cell?_alloc_at _ _ _ 1 rfl
   have y2:(wr.alloc (.cells #[.int .i64 (e.to:Int),.int .i64 e.s,.int .i64 e.d,.int .i64 e.mid] 204)).cell? ⟨wr.heap.size,2,none⟩=some (.int .i64 e.d):=World.cell?_alloc_at _ _ _ 2 rfl
   have hNr:N<=wr.heap.size:=Nat.le_trans hNw' hBr.size
   have B10:=hBr.trans (b10.mono hNr)
   have C10:=hB.trans (B10.mono hNN)
   have V10:=V0.below (by rw [<- hNw];exact C10)
   have S10:=S.below b10
   have K10:=K.below b10
   have HSR:Hid (k.cb<wr.heap.size/\k.ab<wr.heap.size/\∀ g,hb3 k.hb k.mb v' g->g<wr.heap.size):=⟨S.fm.lt,S.am.lt,fun g hg=>hb3_lt S.hp hg⟩
   have row10:=row.below b10
   have c0:=S10.c0
   have c1:=S10.c1
   have c3:=S10.c3
   generalize ((lv.es n).take i).foldl (stepS lv r g n) x=xi at *
   have HSN:Hid (((lv.es n).take (i+1)).foldl (stepS lv r g n) x=stepS lv r g n xi e):=hsn
   obtain ⟨l1,l2⟩:=hlv n
   obtain ⟨l3,l4⟩:=hlv e.to
   have HFi:Hid (xi.F (n:Int)=some (s,d)):=hFi
   have HSI:Hid _:=SIi
   have HST:Hid (lv.lev n+r<=lv.lev e.to->stepS lv r g n xi e=if pushB xi.F (e.to:Int) (s+e.s) (d+e.d)=true then aheadS (lowS g xi (e.to:Int) (s+e.s) (d+e.d)) (e.to:Int) (n:Int) else xi):=hst
   have HS0:Hid (¬ lv.lev n+r<=lv.lev e.to->stepS lv r g n xi e=xi):=hst0
   have HNE:¬ e.to=n:=O.esy.off hem
   clear hsn he hem S row b10 hBr hFi hHi SIi hst hst0
   go_wp2_with fail
   clear q0 q1 q2 q3
   have hE:wr.heap.size<(wr.alloc (.cells #[.int .i64 (e.to:Int),.int .i64 e.s,.int .i64 e.d,.int .i64 e.mid] 204)).heap.size:=World.block_lt_of_cell? _ _ y0
   generalize wr.alloc (.cells #[.int .i64 (e.to:Int),.int .i64 e.s,.int .i64 e.d,.int .i64 e.mid] 204)=w3 at *
   have d3:Below w3.heap.size w3 w3.drew:=(Below.refl _ _).drew
   have t0:w3.drew.cell? ⟨k.sb,0,none⟩=some (.pointer (some ⟨lb,0,none⟩)):=c0
   have t1:w3.drew.cell? ⟨wr.heap.size,0,none⟩=some (.int .i64 (e.to:Int)):=y0
   have hlev:=level_yes w3.drew (V10.below d3) htL
   go_region_held3 (fun w'=>w'.cell? ⟨k.sb,0,none⟩=some (.pointer (some ⟨lb,0,none⟩))/\w'.cell? ⟨wr.heap.size,0,none⟩=some (.int .i64 (e.to:Int))) (first|exact ⟨t0,t1⟩)
    (first
     |(go_at_call 171;refine hlev.mono ?_;rintro r1 wl ⟨rfl,hwl⟩;replace hwl:=hwl.symm;subst hwl))
   have S4:=S10.below d3
   have K4:Keep (sb5 k v) w1 w3.drew:=K10.below d3
   have C4:=C10.trans (d3.mono (by rw [hNw];exact C10.size))
   have y0':=t1
   have y1':w3.drew.cell? ⟨wr.heap.size,1,none⟩=some (.int .i64 e.s):=y1
   have y2':w3.drew.cell? ⟨wr.heap.size,2,none⟩=some (.int .i64 e.d):=y2
   have hE4:wr.heap.size<w3.drew.heap.size:=hE
   clear t0 t1 hlev S10 K10 C10 y0 y1 y2 d3 hE V10 c0 c1 c3
   generalize w3.drew=w4 at *
   go_wp2_with fail
   have d5:Below w4.heap.size w4 w4.drew:=(Below.refl _ _).drew
   have S5:=S4.below d5
   have t1:=S5.c1
   have t3:=S5.c3
   have e0:w4.drew.cell? ⟨wr.heap.size,0,none⟩=some (.int .i64 (e.to:Int)):=y0'
   have e1:w4.drew.cell? ⟨wr.heap.size,1,none⟩=some (.int .i64 e.s):=y1'
   have e2:w4.drew.cell? ⟨wr.heap.size,2,none⟩=some (.int .i64 e.d):=y2'
   have hll:(Instr.lookup 225 (.map (some k.cb)) (.int .i64 (n:Int)) false).run Tryz.prog w4.drew=.ok (.agg #[.int .i64 s,.int .i64 d]) w4.drew:=S5.fm.look_some law3 Tryz.underK (zeroK _) (wf_small (by omega) (by omega)) (fv_some HFi.out) false
   have hadd:Hid (∀ w10,_):=fun w10=>add_any s d e.s e.d w10 (by unfold okC;omega) (by unfold okC;omega)
   have hgt:=hgb e.to
   have hlo:Hid (∀ w11,Below w4.drew.heap.size w4.drew w11->_):=fun w11 hb=>lower_any (n:=e.to) (s:=s+e.s) (d:=d+e.d) w0 w11 (S5.below hb) hg hNN (C4.trans (((d5.trans (hb.mono d5.size))).mono (by rw [hNw];exact C4.size))) ht256 (by unfold okC;omega) HFC.out (by unfold okC;omega) (by unfold okC;omega) (by omega)
   have hnE:Hid (¬ sb5 k v' wr.heap.size):=fun h=>by
    rcases h with h|h|h
    ·have:=HSR.out.1;omega
    ·have:=HSR.out.2.1;omega
    ·have:=HSR.out.2.2 _ h;omega
   have hnS:Hid (¬ sb5 k v' k.sb):=fun h=>(S5.from _ h).2 rfl
   have HS5:Hid _:=S5
   by_cases hup:lv.lev n+r<=lv.lev e.to
   ·have hi1:(lv.lev n:Int)+(r:Int)<=(lv.lev e.to:Int):=by omega
    have hi2:(0:Int)<=(lv.lev n:Int)+(r:Int):=by omega
    have hi3:(lv.lev n:Int)+(r:Int)<=8:=by omega
    have hstp:=HST.out hup
    generalize hpb:pushB xi.F (e.to:Int) (s+e.s) (d+e.d)=pb at *
    have HPB:Hid (pushB xi.F (e.to:Int) (s+e.s) (d+e.d)=pb):=hpb
    have HSTP:Hid _:=hstp
    clear hstp hpb S5 S4 HS0 HST
    generalize (lv.lev e.to:Int)=lt at *
    generalize (r:Int)=rr at *
    have hwr:IntKind.i64.wrap ((lv.lev n:Int)+rr)=(lv.lev n:Int)+rr:=wrap_small (by omega) (by omega)
    have hdec:decide ((lv.lev n:Int)+rr<=lt)=true:=decide_eq_true hi1
    go_region_held3 (fun w'=>w'.cell? ⟨k.sb,1,none⟩=some (.int .i64 rr)/\w'.cell? ⟨k.sb,3,none⟩=some (.map (some k.cb))/\w'.cell? ⟨wr.heap.size,0,none⟩=some (.int .i64 (e.to:Int))/\w'.cell? ⟨wr.heap.size,1,none⟩=some (.int .i64 e.s)/\w'.cell? ⟨wr.heap.size,2,none⟩=some (.int .i64 e.d)) (first|exact ⟨t1,t3,e0,e1,e2⟩|exact ⟨u1,u3,f0,f1,f2⟩|exact ⟨z1,z3,g0,g1,g2⟩)
     (first
      |(go_at_call 177;refine (hadd.out _).mono ?_;rintro r1 w11 ⟨rfl,hb11⟩;have u1:=(hb11.cell (World.block_lt_of_cell? _ _ t1)).trans t1;have u3:=(hb11.cell (World.block_lt_of_cell? _ _ t3)).trans t3;have f0:=(hb11.cell (World.block_lt_of_cell? _ _ e0)).trans e0;have f1:=(hb11.cell (World.block_lt_of_cell? _ _ e1)).trans e1;have f2:=(hb11.cell (World.block_lt_of_cell? _ _ e2)).trans e2)
      |(go_at_call 173;refine (hlo.out w11 hb11).mono ?_;rintro r1 w12 ⟨rfl,v12,n12,S12,hn12,K12,ho12⟩;have z1:=K12.cellOf u1 hnS.out;have z3:=K12.cellOf u3 hnS.out;have g0:=K12.cellOf f0 hnE.out;have g1:=K12.cellOf f1 hnE.out;have g2:=K12.cellOf f2 hnE.out))
    have b11:=d5.trans (hb11.mono d5.size)
    have hKv:∀ q,q<w1.heap.size->sb5 k v' q->sb5 k v q:=fun q hq h=>by
     rcases h with h|h|h|h|h
     ·exact Or.inl h
     ·exact Or.inr (Or.inl h)
     ·exact Or.inr (Or.inr (Or.inl h))
     ·exact Or.inr (Or.inr (Or.inr (Or.inl h)))
     ·rcases HVO.out q h with h|h
      ·exact Or.inr (Or.inr (Or.inr (Or.inr h)))
      ·omega
    have K11:=K4.below b11
    have K12':=K11.trans K12 hKv
    have HO12:Hid (∀ g,v12.ownBlock=some g->v.ownBlock=some g\/w1.heap.size<=g):=fun q hq=>by
     rcases ho12 q hq with h|h
     ·exact HVO.out q h
     ·exact Or.inr (Nat.le_trans K11.size h)
    clear t1 t3 e0 e1 e2 u1 u3 f0 f1 f2 z1 z3 g1 g2 hll hlo hadd hKv K12 ho12 K4 K11 b11 hb11 d5 HS5 HVO y0' y1' y2' HFC HFi HSI
    cases pb with
    |false =>
     have HX:Hid (lowS g xi (e.to:Int) (s+e.s) (d+e.d)=xi):=by
      unfold lowS
      rw [HPB.out]
      rfl
     rw [HX.out] at S12
     have HSZ:Hid (stepS lv r g n xi e=xi):=HSTP.out.trans (if_neg (by decide))
     clear HSTP HPB HX
     go_wp2
     go_roundw
     case rel=>exact ⟨i+1,v12,n12,by omega,by go_num,by rw [HSN.out,HSZ.out];exact S12,K12',HO12.out⟩
     case measure=>simp [intOf];omega
    |true =>
     have HSZ:Hid (stepS lv r g n xi e=aheadS (lowS g xi (e.to:Int) (s+e.s) (d+e.d)) (e.to:Int) (n:Int)):=HSTP.out.trans (if_pos rfl)
     have HA:Hid ((lowS g xi (e.to:Int) (s+e.s) (d+e.d)).A=xi.A):=lowS_A _ _ _ _ _
     clear HSTP HPB
     have S13:=S12.below (w':=w12.drew) ((Below.refl _ _).drew)
     have hca:=ca_le xi.A
     obtain ⟨w14,hrun14,hm14,ht14⟩:=S13.am.store law3 Tryz.underV (by unfold maxLen;omega) (wf_small (a:=(e.to:Int)) (by omega) (by omega)) (.int .i64 (n:Int))
     have K14:=turned_keep ht14
     have S14:=S13.ahead (A':=putA (lowS g xi (e.to:Int) (s+e.s) (d+e.d)).A (e.to:Int) (n:Int)) (na':=ca (putA (lowS g xi (e.to:Int) (s+e.s) (d+e.d)).A (e.to:Int) (n:Int))) K14 (by
      rw [<- av_put,<- ca_put _ _ (by omega) (by omega)]
      rw [HA.out] at hm14 ⊢
      exact hm14)
     have K15:=(K12'.drew).trans K14 (fun _ _ h=>Or.inr (Or.inl h))
     have m0:=S13.c4
     have m1:w12.drew.cell? ⟨wr.heap.size,0,none⟩=some (.int .i64 (e.to:Int)):=g0
     clear g0 hm14 ht14 K14 S12 S13 K12'
     go_wp2_with fail
     go_region
     go_wp2
     go_roundw
     case rel=>exact ⟨i+1,v12,n12,by omega,by go_num,by rw [HSN.out,HSZ.out];exact S14,K15,HO12.out⟩
     case measure=>simp [intOf];omega
   ·have hi1:¬ (lv.lev n:Int)+(r:Int)<=(lv.lev e.to:Int):=by omega
    have hi2:(0:Int)<=(lv.lev n:Int)+(r:Int):=by omega
    have hi3:(lv.lev n:Int)+(r:Int)<=8:=by omega
    have HSZ:Hid (stepS lv r g n xi e=xi):=HS0.out hup
    have q1:=S4.c1
    have HS4:Hid _:=S4
    have HK4:Hid _:=K4
    clear HS0 HST hlo hadd S5 S4 hll HS5 t1 t3 e0 e1 e2 d5 K4
    generalize (lv.lev e.to:Int)=lt at *
    generalize (r:Int)=rr at *
    have hwr:IntKind.i64.wrap ((lv.lev n:Int)+rr)=(lv.lev n:Int)+rr:=wrap_small (by omega) (by omega)
    have hdec:decide ((lv.lev n:Int)+rr<=lt)=false:=decide_eq_false hi1
    go_quiet (fail)
    have dq:Below w4.heap.size w4 (w4.drewN nq):=below_drewN (Below.refl _ _) _
    have S6:=HS4.out.below dq
    have K6:=HK4.out.below dq
    clear q1 HS4 HK4 dq
    go_wp2
    go_roundw
    case rel=>exact ⟨i+1,v',nh,by omega,by go_num,by rw [HSN.out,HSZ.out];exact S6,K6,HVO.out⟩
    case measure=>simp [intOf];omega
  ·have e:i=(lv.es n).length:=by omega
   subst e
   rw [List.take_length] at S
   have KF:=HV1.out.trans K (fun _ _ h=>h)
   go_wp2
   go_end0
   refine ⟨rfl,v',nh,S,KF,fun g hg=>?_⟩
   rcases HVO.out g hg with h|h
   ·exact Or.inl h
   ·exact Or.inr (by omega)
end
end Go.Proofs.YtmaefimaeelkbaaGreatDoor
