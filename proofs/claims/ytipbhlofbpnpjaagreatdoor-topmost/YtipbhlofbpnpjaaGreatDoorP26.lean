/-
  Texts laid together: Size2, Read, Parsed.
-/
import Derived.Test.YtipbhlofbpnpjaaGreatDoorP25
namespace Go.Proofs.YtipbhlofbpnpjaaGreatDoor
section
open Go.RowKit
def four (a b c d:List UInt8):Obj:=.cells #[.string (str a),.string (str b),.string (str c),.string (str d)] 150
theorem four_at (w:World)(a b c d:List UInt8){w':World}(hb:Below (w.heap.size+1) (w.alloc (four a b c d)) w') :
  w'.cell? ⟨w.heap.size,0,none⟩=some (.string (str a))/\w'.cell? ⟨w.heap.size,1,none⟩=some (.string (str b))/\w'.cell? ⟨w.heap.size,2,none⟩=some (.string (str c))/\w'.cell? ⟨w.heap.size,3,none⟩=some (.string (str d)):=by
 have h:∀ j,w'.cell? ⟨w.heap.size,j,none⟩=(w.alloc (four a b c d)).cell? ⟨w.heap.size,j,none⟩:=fun j=>hb.cell (p:=⟨w.heap.size,j,none⟩) (Nat.lt_succ_self _)
 refine ⟨?_,?_,?_,?_⟩ <;> (rw [h];unfold four;rw [World.cell?_alloc_new];rfl)
theorem trim_len (l p:List UInt8)(h:l.length<=1000):(Lib.trimPrefix l p).length<=1000:=by
 unfold Lib.trimPrefix
 split
 ·rw [List.length_drop];omega
 ·exact h
set_option maxHeartbeats 4000000 in
set_option maxRecDepth 100000 in
theorem size_both {a b c d:List UInt8}{v1 v2:Int}(h:Lib.atoiAll (Lib.trimPrefix b heightW)=.ok v1)(h2:Lib.atoiAll (Lib.trimPrefix c widthW)=.ok v2)(hb:b.length<=1000)(hc:c.length<=1000)(w:World)(E:Env w) :
  Calls Tryz.prog 88 #[.agg #[.string (str a),.string (str b),.string (str c),.string (str d)]] w fun e w'=>e=.returned (.tuple #[.int .i64 v2,.int .i64 v1,.bool (decide (a=typeW)&&(decide (b=heightW++Lib.itoa v1)&&(decide (c=widthW++Lib.itoa v2)&&decide (d=mapW))))])/\Below w.heap.size w w':=by
 have bd1:=Lib.atoiAll_bounds h
 have bd2:=Lib.atoiAll_bounds h2
 obtain ⟨tb,etb⟩:∃ l,Lib.trimPrefix b heightW=l:=⟨_,rfl⟩
 obtain ⟨tc,etc⟩:∃ l,Lib.trimPrefix c widthW=l:=⟨_,rfl⟩
 have lb:=trim_len b heightW hb
 have lc:=trim_len c widthW hc
 rw [etb] at h lb
 rw [etc] at h2 lc
 have HB:Hid (Lib.trimPrefix b heightW=tb):=etb
 have HC:Hid (Lib.trimPrefix c widthW=tc):=etc
 have HA:Hid (Lib.atoiAll tb=.ok v1):=h
 have HA2:Hid (Lib.atoiAll tc=.ok v2):=h2
 clear etb etc h h2
 rw [<- beq_str,<- beq_str,<- beq_str,<- beq_str]
 obtain ⟨la,ea⟩:∃ l,typeW=l:=⟨_,rfl⟩
 obtain ⟨lb',eb⟩:∃ l,heightW++Lib.itoa v1=l:=⟨_,rfl⟩
 obtain ⟨lc',ec⟩:∃ l,widthW++Lib.itoa v2=l:=⟨_,rfl⟩
 obtain ⟨ld,ed⟩:∃ l,mapW=l:=⟨_,rfl⟩
 rw [ea,eb,ec,ed]
 have H1:Hid (typeW=la):=ea
 have H2:Hid (heightW++Lib.itoa v1=lb'):=eb
 have H3:Hid (widthW++Lib.itoa v2=lc'):=ec
 have H4:Hid (mapW=ld):=ed
 clear ea eb ec ed
 have heq:=eql60 (str a) (str b) (str c) (str d) (str la) (str lb') (str lc') (str ld)
 have hb0:Below w.heap.size w (w.alloc (four a b c d)):=(Below.refl _ _).alloc (Nat.le_refl _) _
 obtain ⟨k0,k1,k2,k3⟩:=four_at w a b c d (Below.refl _ _)
 unfold four at hb0 k0 k1 k2 k3
 go_enter Tryz.func88,Tryz.ntmps88
 go_wp2_with (first|(go_at_call 128;refine (trimH HB.out _).mono ?_;rintro e w' ⟨rfl,rfl⟩)|(go_at_call 127;refine (atoi_ok HA.out lb _).mono ?_))
 rintro e w1 ⟨rfl,hb1⟩
 have sz1:=hb1.size
 simp only [World.size_alloc] at sz1
 obtain ⟨k0,k1,k2,k3⟩:=four_at w a b c d (show Below (w.heap.size+1) _ w1 from by simpa [four] using hb1)
 have hb01:=hb0.trans (hb1.mono (by simp))
 go_wp2_with (first|(go_at_call 128;refine (trimW HC.out _).mono ?_;rintro e w' ⟨rfl,rfl⟩)|(go_at_call 127;refine (atoi_ok HA2.out lc _).mono ?_))
 rintro e w2 ⟨rfl,hb2⟩
 have sz2:=hb2.size
 have hb02:=hb01.trans (hb2.mono (by omega))
 have E2:=E.grown hb02
 have S0:∀ x:Since w2,x.u.cell? ⟨w.heap.size,0,none⟩=some (.string (str a)):=fun x=>((x.cell _ _ (by omega)).trans (hb2.cell (p:=⟨w.heap.size,0,none⟩) (by show w.heap.size<_;omega))).trans k0
 have S1:∀ x:Since w2,x.u.cell? ⟨w.heap.size,1,none⟩=some (.string (str b)):=fun x=>((x.cell _ _ (by omega)).trans (hb2.cell (p:=⟨w.heap.size,1,none⟩) (by show w.heap.size<_;omega))).trans k1
 have S2:∀ x:Since w2,x.u.cell? ⟨w.heap.size,2,none⟩=some (.string (str c)):=fun x=>((x.cell _ _ (by omega)).trans (hb2.cell (p:=⟨w.heap.size,2,none⟩) (by show w.heap.size<_;omega))).trans k2
 have S3:∀ x:Since w2,x.u.cell? ⟨w.heap.size,3,none⟩=some (.string (str d)):=fun x=>((x.cell _ _ (by omega)).trans (hb2.cell (p:=⟨w.heap.size,3,none⟩) (by show w.heap.size<_;omega))).trans k3
 have hne:Nonempty (Since w2):=⟨⟨w2,Below.refl _ _⟩⟩
 go_wp2
 refine wp_region_since (by kernel_rfl) (by kernel_rfl) ?_
 repeat (go_big_quiet_step (first|(go_at_call 93;exact Calls.since_of (headOf_v H1.out H2.out H3.out H4.out bd2.1 bd2.2 bd1.1 bd1.2 _ (E2.grown (Since.h _))))))
 refine wpQuiet_nil ?_
 rintro _ ⟨x,rfl⟩
 have hzx:=x.h.size
 go_wp2
 go_ret3
 exact ⟨rfl,hb02.trans (x.h.mono (by omega))⟩
end
section
open Go.RowKit
theorem size_ok {a b c d:List UInt8}{W H:Int}(h:sizeOf4 a b c d=some (W,H))(hb:b.length<=1000)(hc:c.length<=1000)(w:World)(E:Env w) :
  Calls Tryz.prog 88 #[.agg #[.string (str a),.string (str b),.string (str c),.string (str d)]] w fun e w'=>e=.returned (.tuple #[.int .i64 W,.int .i64 H,.bool true])/\Below w.heap.size w w':=by
 obtain ⟨ea,eb,ec,ed,nb,nc⟩:=sizeOf4_some h
 have bb:=(numOf_iff.1 nb).2
 have bc:=(numOf_iff.1 nc).2
 have h1:Lib.atoiAll (Lib.trimPrefix b heightW)=.ok H:=by rw [eb,trim_app];exact atoi_itoa H bb.1 bb.2
 have h2:Lib.atoiAll (Lib.trimPrefix c widthW)=.ok W:=by rw [ec,trim_app];exact atoi_itoa W bc.1 bc.2
 refine (size_both h1 h2 hb hc w E).mono fun e w' ⟨he,hw⟩=>⟨?_,hw⟩
 rw [he,decide_eq_true ea,decide_eq_true eb,decide_eq_true ec,decide_eq_true ed]
 rfl
def cutN:Nat->List UInt8->Option (List (List UInt8) × List UInt8)
 |0,s=>some ([],s)
 |n+1,s=>match cutL s with
  |none=>none
  |some p=>match cutN n p.2 with
   |none=>none
   |some q=>some (p.1::q.1,q.2)
theorem cut4_N (s:List UInt8):cutN 4 s=(cut4 s).map fun p=>([p.1,p.2.1,p.2.2.1,p.2.2.2.1],p.2.2.2.2):=by
 unfold cut4
 simp only [cutN]
 cases cutL s with
 |none=>rfl
 |some p =>
  simp only
  cases cutL p.2 with
  |none=>rfl
  |some q =>
   simp only
   cases cutL q.2 with
   |none=>rfl
   |some r =>
    simp only
    cases cutL r.2 with
    |none=>rfl
    |some t=>rfl
theorem cutN_step {n:Nat}{s a r:List UInt8}(h:cutL s=some (a,r)):cutN (n+1) s=(cutN n r).map fun q=>(a::q.1,q.2):=by
 simp only [cutN,h]
 cases cutN n r <;> rfl
def LinesAt (w:World) (b:Nat) (ls:List (List UInt8)):Prop:=∀ i,i<4->w.cell? ⟨b,i,none⟩=some (.string (str (ls.getD i [])))
theorem LinesAt.set {w:World}{b:Nat}{ls:List (List UInt8)}(h:LinesAt w b ls)(l:List UInt8)(hl:ls.length<4):LinesAt (w.setCell ⟨b,ls.length,none⟩ (.string (str l))) b (ls++[l]):=by
 intro i hi
 by_cases e:i=ls.length
 ·subst e
  rw [World.cell?_setCell_same _ _ _ (h _ hl)]
  simp
 ·rw [World.cell?_setCell_other _ _ _ _ (addr_ne (by omega)),h i hi]
  congr 3
  simp only [List.getD_eq_getElem?_getD]
  rcases Nat.lt_or_ge i ls.length with h1|h1
  ·rw [List.getElem?_append_left h1]
  ·rw [List.getElem?_eq_none h1,List.getElem?_eq_none (by simp;omega)]
theorem alloc4_free (w:World)(c:Array Value)(t:TypeId):Free (w.alloc (.cells c t)) w.heap.size:=free_alloc w c t _ (Nat.le_refl _)
theorem LinesAt.all {w:World}{b:Nat}{l0 l1 l2 l3:List UInt8}(h:LinesAt w b [l0,l1,l2,l3]):w.cell? ⟨b,0,none⟩=some (.string (str l0))/\w.cell? ⟨b,1,none⟩=some (.string (str l1))/\w.cell? ⟨b,2,none⟩=some (.string (str l2))/\w.cell? ⟨b,3,none⟩=some (.string (str l3)) :=
 ⟨h 0 (by decide),h 1 (by decide),h 2 (by decide),h 3 (by decide)⟩
theorem LinesAt.none {w:World}{b:Nat}(h:LinesAt w b []):w.cell? ⟨b,0,none⟩=some (.string ⟨#[]⟩)/\w.cell? ⟨b,1,none⟩=some (.string ⟨#[]⟩)/\w.cell? ⟨b,2,none⟩=some (.string ⟨#[]⟩)/\w.cell? ⟨b,3,none⟩=some (.string ⟨#[]⟩) :=
 ⟨h 0 (by decide),h 1 (by decide),h 2 (by decide),h 3 (by decide)⟩
theorem lines_new (w:World)(w':World)(hb:Below (w.heap.size+1) (w.alloc (.cells #[.string ⟨#[]⟩,.string ⟨#[]⟩,.string ⟨#[]⟩,.string ⟨#[]⟩] 150)) w'):LinesAt w' w.heap.size []/\Free w' w.heap.size:=by
 constructor
 ·intro i hi
  rw [hb.cell (p:=⟨w.heap.size,i,Option.none⟩) (Nat.lt_succ_self _),World.cell?_alloc_new]
  match i,hi with
  |0,_=>rfl
  |1,_=>rfl
  |2,_=>rfl
  |3,_=>rfl
 ·intro o
  rw [hb.frozen (p:=⟨w.heap.size,o,Option.none⟩) (Nat.lt_succ_self _)]
  exact alloc4_free w _ _ o
theorem there_lines {w:World}{b:Nat}{ls:List (List UInt8)}(h:LinesAt w b ls)(f:Free w b):w.there b 0 4:=there4 (fun j hj=>⟨_,h j hj⟩) f
theorem below_set4 {B b:Nat}{a w:World}{v0 v1 v2 v3:Value}(h:Below B a w)(hB:B<=b):Below B a ((((w.setCell ⟨b,0,none⟩ v0).setCell ⟨b,1,none⟩ v1).setCell ⟨b,2,none⟩ v2).setCell ⟨b,3,none⟩ v3) :=
 (((h.setCell (p:=⟨b,0,none⟩) hB _).setCell (p:=⟨b,1,none⟩) hB _).setCell (p:=⟨b,2,none⟩) hB _).setCell (p:=⟨b,3,none⟩) hB _
theorem LinesAt.touch {w w':World}{b:Nat}{ls:List (List UInt8)}(h:LinesAt w b ls){c o:Nat}{v:Value}(hw:w'=w.setCell ⟨c,o,Option.none⟩ v)(hne:b≠c):LinesAt w' b ls:=fun i hi=>by
 rw [hw,World.cell?_setCell_other _ _ _ _ (by intro e;cases e;exact hne rfl)]
 exact h i hi
def HeadPost (s:List UInt8) (e:Ending):Prop:=match cut4 s with
 |none=>e=.returned (.tuple #[.agg #[.string (str []),.string (str []),.string (str []),.string (str [])],.string (str []),.bool false])
 |some (a,b,c,d,r)=>e=.returned (.tuple #[.agg #[.string (str a),.string (str b),.string (str c),.string (str d)],.string (str r),.bool true])
set_option maxHeartbeats 4000000 in
set_option maxRecDepth 100000 in
theorem cutHead_any (s:List UInt8)(hs:s.length<=1000)(w:World)(E:Env w) :
  Calls Tryz.prog 87 #[.string (str s)] w fun e w'=>HeadPost s e/\Below w.heap.size w w':=by
 go_enter Tryz.func87,Tryz.ntmps87
 go_wp2
 go_loopw [6,12] (fun r i wr=>∃ (j:Nat) (ls:List (List UInt8)) (rest:List UInt8),j<=4/\ls.length=j/\i=.int .i64 j/\r=.string (str rest)/\rest.length<=1000/\cutN 4 s=(cutN (4 - j) rest).map (fun q=>(ls++q.1,q.2)) /\
   LinesAt wr w.heap.size []/\LinesAt wr (w.heap.size+1) ls/\Free wr w.heap.size/\Free wr (w.heap.size+1)/\Below w.heap.size w wr)
  (fun _ i _=>4 - (intOf i).toNat)
 case atStart =>
  have b1:Below (w.heap.size+1) (w.alloc (.cells #[.string ⟨#[]⟩,.string ⟨#[]⟩,.string ⟨#[]⟩,.string ⟨#[]⟩] 150)) ((w.alloc (.cells #[.string ⟨#[]⟩,.string ⟨#[]⟩,.string ⟨#[]⟩,.string ⟨#[]⟩] 150)).alloc (.cells #[.string ⟨#[]⟩,.string ⟨#[]⟩,.string ⟨#[]⟩,.string ⟨#[]⟩] 150)):=(Below.refl _ _).alloc (by simp) _
  obtain ⟨L0,F0⟩:=lines_new w _ b1
  obtain ⟨L1,F1⟩:=lines_new (w.alloc (.cells #[.string ⟨#[]⟩,.string ⟨#[]⟩,.string ⟨#[]⟩,.string ⟨#[]⟩] 150)) _ (Below.refl _ _)
  rw [World.size_alloc] at L1 F1
  exact ⟨0,[],s,by omega,rfl,rfl,rfl,hs,by simp,L0,L1,F0,F1,((Below.refl _ _).alloc (Nat.le_refl _) _).alloc (by simp) _⟩
 case round =>
  obtain ⟨j,ls,rest,hj,hls,rfl,rfl,hrl,hcn,L0,L1,F0,F1,hB⟩:=hrel
  have Er:=E.grown hB
  by_cases hlt:j<4
  ·have hst:=fun l=>L1.set l (by rw [hls];exact hlt)
   rw [hls] at hst
   have c1:=L1 j hlt
   have f1:=F1 j
   obtain ⟨k,hk⟩:∃ k,4 - j=k+1:=⟨3 - j,by omega⟩
   have hk2:4 - (j+1)=k:=by omega
   rw [hk] at hcn
   have j1:(0:Int)<=(j:Int)/\(j:Int)<4:=by omega
   cases hcut:cutL rest with
   |none =>
    have hno:cut4 s=none:=by
     have h4:=cut4_N s
     rw [hcn] at h4
     simp only [cutN,hcut,Option.map_none] at h4
     cases hc4:cut4 s with
     |none=>rfl
     |some p=>rw [hc4] at h4;cases h4
    have ht:=there_lines L0 F0
    obtain ⟨r0,r1,r2,r3⟩:=L0.none
    have f0:=F0 0
    have f1:=F0 1
    have f2:=F0 2
    have f3:=F0 3
    have HNO:Hid (cut4 s=none):=hno
    clear hcn hst L0 L1 F0 F1 hno
    go_wp2_with (go_at_call 126;refine (cut_none hcut (by omega) _ Er).mono ?_;rintro e w' ⟨rfl,m2,rfl⟩)
    (try simp only [Exit.inBlock,Exit.then])
    refine bodyPost_ret (results_arr3 rfl _ _ w.heap.size _ _ rfl (range4 (wr.drewN m2) w.heap.size _ _ _ _ ht) Tryz.underlying150 rfl info60) rfl ⟨by unfold HeadPost;rw [HNO.out];rfl,?_⟩
    exact below_set4 (below_drewN hB m2) (Nat.le_refl _)
   |some p =>
    obtain ⟨l,after⟩:=p
    have hcl:=cutL_len hcut
    have hnx:cutN 4 s=(cutN k after).map (fun q=>((ls++[l])++q.1,q.2)):=by
     rw [hcn,cutN_step hcut]
     cases cutN k after with
     |none=>rfl
     |some q=>simp
    have HX:Hid (cutN 4 s=(cutN k after).map (fun q=>((ls++[l])++q.1,q.2))):=hnx
    have hne:w.heap.size≠w.heap.size+1:=by omega
    have HST:Hid (LinesAt (wr.setCell ⟨w.heap.size+1,j,none⟩ (.string (str l))) (w.heap.size+1) (ls++[l])):=hst l
    clear hcn hst hnx
    go_wp2_with (go_at_call 126;refine (cut_some hcut (by omega) _ Er).mono ?_;rintro e w' ⟨rfl,m2,rfl⟩)
    go_roundw
    case rel=>exact ⟨j+1,ls++[l],after,by omega,by simp [hls],by go_num,rfl,by omega,by rw [hk2];exact HX.out,L0.touch (w':=wr.setCell ⟨w.heap.size+1,j,none⟩ (.string (str l))) rfl hne,HST.out,fun o=>by simpa using F0 o,fun o=>by simpa using F1 o,(below_drewN hB m2).setCell (p:=⟨w.heap.size+1,j,none⟩) (Nat.le_succ _) _⟩
    case measure=>simp [intOf];omega
  ·have h4:ls.length=4:=by omega
   obtain ⟨a,b,c,d,rfl⟩:∃ a b c d,ls=[a,b,c,d]:=by
    match ls,h4 with
    |[a,b,c,d],_=>exact ⟨a,b,c,d,rfl⟩
   have hyes:cut4 s=some (a,b,c,d,rest):=by
    have h4:=cut4_N s
    rw [hcn] at h4
    have e0:4 - j=0:=by omega
    rw [e0] at h4
    simp only [cutN,Option.map_some,List.append_nil] at h4
    cases hc4:cut4 s with
    |none=>rw [hc4] at h4;cases h4
    |some p =>
     rw [hc4] at h4
     simp at h4
     obtain ⟨⟨e1,e2,e3,e4⟩,e5⟩:=h4
     rw [e1,e2,e3,e4,e5]
   have ht:=there_lines L0 F0
   obtain ⟨r0,r1,r2,r3⟩:=L0.none
   obtain ⟨c0,c1,c2,c3⟩:=L1.all
   have f0:=F0 0
   have f1:=F0 1
   have f2:=F0 2
   have f3:=F0 3
   have HY:Hid (cut4 s=some (a,b,c,d,rest)):=hyes
   have hj4:j=4:=by omega
   clear hcn L0 L1 F0 F1 hyes hls h4
   subst hj4
   rw [show ((4:Nat):Int)=4 from rfl]
   go_wp2
   (try simp only [Exit.inBlock,Exit.then])
   refine bodyPost_ret (results_arr3 rfl _ _ w.heap.size _ _ rfl (range4 wr w.heap.size _ _ _ _ ht) Tryz.underlying150 rfl info60) rfl ⟨by unfold HeadPost;rw [HY.out];rfl,?_⟩
   exact below_set4 hB (Nat.le_refl _)
end
section
open Go.RowKit
theorem head_some {s a b c d r:List UInt8}(h:cut4 s=some (a,b,c,d,r))(hs:s.length<=1000)(w:World)(E:Env w) :
  Calls Tryz.prog 87 #[.string (str s)] w fun e w'=>e=.returned (.tuple #[.agg #[.string (str a),.string (str b),.string (str c),.string (str d)],.string (str r),.bool true])/\Below w.heap.size w w' :=
 (cutHead_any s hs w E).mono fun e w' ⟨he,hb⟩=>⟨by unfold HeadPost at he;rw [h] at he;exact he,hb⟩
theorem cut4_len {s a b c d r:List UInt8}(h:cut4 s=some (a,b,c,d,r)):b.length<=s.length/\c.length<=s.length/\r.length<=s.length:=by
 unfold cut4 at h
 split at h
 ·cases h
 ·rename_i h1
  split at h
  ·cases h
  ·rename_i h2
   split at h
   ·cases h
   ·rename_i h3
    split at h
    ·cases h
    ·rename_i h4
     simp at h
     obtain ⟨rfl,rfl,rfl,rfl,rfl⟩:=h
     have e1:=cutL_len h1
     have e2:=cutL_len h2
     have e3:=cutL_len h3
     have e4:=cutL_len h4
     omega
theorem cells_new {W H:Nat}(h:sideB W=true)(k:sideB H=true)(w:World):CellsAt (w.alloc (.cells (gridC W H) 168)) w.heap.size W H [] :=
 ⟨gridAt_new W H w h k,free_alloc w _ _ _ (Nat.le_refl _)⟩
set_option maxHeartbeats 1000000 in
set_option maxRecDepth 100000 in
theorem parse_rows {s a b c d r:List UInt8}{W H:Nat}{o:Option (List Bool)}(h:¬ 1000<s.length)(h4:cut4 s=some (a,b,c,d,r))(hz:sizeOf4 a b c d=some ((W:Int),(H:Int)))(hs:sideB W=true)(hs2:sideB H=true)(ho:rowsB W H r=o)(w:World)(E:Env w) :
  Calls Tryz.prog 49 #[.string (str s)] w fun e w'=>((o=none/\e=.returned (.tuple #[.pointer none,.iface 39 (.int .i64 3)]))\/(∃ cs,o=some cs/\∃ B,w.heap.size<=B/\B<w'.heap.size/\e=.returned (.tuple #[.pointer (some ⟨B,0,none⟩),.nilIface])/\CellsAt w' B W H cs))/\Below w.heap.size w w':=by
 have hsz:=str_size s
 have h1:¬ (1000:Int)<(s.length:Int):=by omega
 obtain ⟨l1,l2,l3⟩:=cut4_len h4
 have H4:Hid (cut4 s=some (a,b,c,d,r)):=h4
 have HZ:Hid (sizeOf4 a b c d=some ((W:Int),(H:Int))):=hz
 have HO:Hid (rowsB W H r=o):=ho
 clear h4 hz ho
 go_enter Tryz.func49,Tryz.ntmps49
 go_wp2_with (go_at_call 87;refine (head_some H4.out (by omega) _ E).mono ?_;rintro e w1 ⟨rfl,hb1⟩)
 have z1:=hb1.size
 have hb2:Below w.heap.size w (w1.alloc (four a b c d)):=hb1.alloc (by omega) _
 have E2:=E.grown hb2
 unfold four at hb2 E2
 go_wp2_with (first|(go_at_call 88;refine (size_ok HZ.out (by omega) (by omega) _ E2).mono ?_;rintro e w3 ⟨rfl,hb3⟩))
 have z3:=hb3.size
 simp only [World.size_alloc] at z3
 have hb03:Below w.heap.size w w3:=hb2.trans (hb3.mono (by simp;omega))
 have hb4:Below w.heap.size w (w3.alloc (.cells (gridC W H) 168)):=hb03.alloc (by omega) _
 have E4:=E.grown hb4
 have C4:=cells_new hs hs2 w3
 have z7:=E.z
 go_wp2_with (first|(go_at_call 68;refine (new_ok _ _ _ hs hs2).mono ?_;rintro e w' ⟨rfl,rfl⟩)|(go_at_call 89;refine (fill_any r _ E4 (by omega) C4 (by omega)).mono ?_))
 rintro e w5 ⟨he5,T5,C5⟩
 subst he5
 rw [HO.out] at C5 ⊢
 have hb5:Below w.heap.size w w5:=hb4.trans (T5.under.mono (by omega))
 have z5:w5.heap.size=w3.heap.size+1:=by rw [T5.size];simp
 cases o with
 |none =>
  go_wp2
  go_ret2
  first|exact ⟨.inl ⟨rfl,rfl⟩,hb5⟩|exact ⟨rfl,hb5⟩
 |some cs =>
  have C6:=C5 cs rfl
  clear C5
  go_wp2
  go_ret2
  exact ⟨.inr ⟨cs,rfl,w3.heap.size,by omega,by omega,rfl,C6⟩,hb5⟩
theorem side_nat {W:Int}(h:sideN W=true):((W.toNat:Nat):Int)=W:=by
 have:1<=W/\W<=16:=of_decide_eq_true h
 omega
theorem parse_good {s:List UInt8}{W H:Nat}{cs:List Bool}(h:readOf s=.good W H cs)(w:World)(E:Env w) :
  Calls Tryz.prog 49 #[.string (str s)] w fun e w'=>∃ B,w.heap.size<=B/\B<w'.heap.size/\e=.returned (.tuple #[.pointer (some ⟨B,0,none⟩),.nilIface])/\CellsAt w' B W H cs/\Below w.heap.size w w':=by
 unfold readOf at h
 split at h
 ·cases h
 ·rename_i h1
  split at h
  ·cases h
  ·rename_i a b c d r h4
   split at h
   ·cases h
   ·rename_i w0 h0 hz
    split at h
    ·rename_i hs
     split at h
     ·cases h
     ·rename_i cs' hr
      injection h with q1 q2 q3
      subst q1 q2 q3
      have e1:=side_nat hs.1
      have e2:=side_nat hs.2
      rw [<- e1,<- e2] at hz
      exact (parse_rows h1 h4 hz (by rw [e1];exact hs.1) (by rw [e2];exact hs.2) hr w E).mono fun e w' ⟨hp,hb⟩=>by
       rcases hp with ⟨hn,_⟩|⟨cs,hn,B,b1,b2,he,hC⟩
       ·cases hn
       ·cases hn
        exact ⟨B,b1,b2,he,hC,hb⟩
    ·cases h
end
end Go.Proofs.YtipbhlofbpnpjaaGreatDoor
