/-
  Texts laid together: LvRM, LvRound, LvOver, LvNew, LvNew2, SrT.
-/
import Derived.Test.YtmaefimaeelkbaaGreatDoorP17
import Derived.Test.YtmaefimaeelkbaaGreatDoorP15
import Derived.Test.YtmaefimaeelkbaaGreatDoorP4
import Derived.Test.YtmaefimaeelkbaaGreatDoorP5
import Derived.Deep.RegionHeld3
namespace Go.Proofs.YtmaefimaeelkbaaGreatDoor
section
open Go.RowKit Go.Maps
theorem Rnd.filter {t:Nat}(ht:0<t){q:Nat->Bool}:∀ {L:List Nat}{st st':LSt}{nr nr':Nat->Bool}{g:Bool},(∀ n ∈ L,q n=false->0<st.lev n)->Rnd t (L.filter q) st nr st' nr' g->Rnd t L st nr st' nr' g
 |[],_,_,_,_,_,_,h=>h
 |n::L,st,st',nr,nr',g,hq,h=>by
  cases hn:q n with
  |true =>
   rw [List.filter_cons_of_pos hn] at h
   obtain ⟨st1,nr1,g1,g2,h1,h2,h3⟩:=h
   refine ⟨st1,nr1,g1,g2,h1,Rnd.filter ht (fun m hm hqm=>?_) h2,h3⟩
   have:=hq m (List.mem_cons_of_mem _ hm) hqm
   rcases h1.lev m with e|⟨_,e⟩
   ·rw [e];exact this
   ·rw [e];exact ht
  |false =>
   rw [List.filter_cons_of_neg (by rw [hn];exact Bool.false_ne_true)] at h
   have h0:=hq n (List.mem_cons_self ..) hn
   exact ⟨st,nr,false,g,Or.inl ⟨Or.inl h0,rfl,rfl,rfl⟩,Rnd.filter ht (fun m hm hqm=>hq m (List.mem_cons_of_mem _ hm) hqm) h,(Bool.false_or g).symm⟩
theorem Rnd.lev {t:Nat}:∀ {L:List Nat}{st st':LSt}{nr nr':Nat->Bool}{g:Bool},Rnd t L st nr st' nr' g->∀ {n:Nat},n ∉ L->st'.lev n=st.lev n
 |[],_,_,_,_,_,⟨h,_⟩,_,_=>by rw [h]
 |m::L,_,_,_,_,_,⟨_,_,_,_,h1,h2,_⟩,n,hn=>by
  rw [Rnd.lev h2 (fun h=>hn (List.mem_cons_of_mem _ h))]
  rcases h1.lev n with e|⟨e,_⟩
  ·exact e
  ·exact absurd (by rw [e];exact List.mem_cons_self ..) hn
def nS (nr:Nat->Bool):Int->Bool:=fun i=>decide (0<=i)&&nr i.toNat
theorem nS_at (nr:Nat->Bool)(n:Nat):nS nr (n:Int)=nr n:=by
 unfold nS
 rw [decide_eq_true (by omega),Int.toNat_natCast,Bool.true_and]
theorem nS_ins (nr:Nat->Bool)(t:Nat):insS (nS nr) (t:Int)=nS (fun k=>nr k || t == k):=by
 funext i
 unfold insS nS
 by_cases e:i=(t:Int)
 ·subst e
  rw [decide_eq_true rfl,decide_eq_true (by omega),Int.toNat_natCast]
  simp
 ·rw [decide_eq_false e,Bool.false_or]
  by_cases h0:0<=i
  ·rw [decide_eq_true h0]
   have:(t == i.toNat)=false:=by
    simp
    omega
   show (true&&nr i.toNat)=(true&&(nr i.toNat || t == i.toNat))
   rw [this,Bool.or_false]
  ·rw [decide_eq_false h0];rfl
theorem nS_no:nS (fun _=>false)=fun _=>false:=by
 funext i
 unfold nS
 simp
def LayOk (L:List Nat) (es:Nat->List LE):Prop:=∀ a,Rsg (es a)/\∀ e ∈ es a,e.to ∈ L
theorem LayOk.put {L:List Nat}{es:Nat->List LE}(h:LayOk L es){a:Nat}{x:LE}(hx:x.to ∈ L):LayOk L (putE es a (layF x (es a))):=fun k=>by
 by_cases e:k=a
 ·subst e
  rw [putE_at]
  refine ⟨layF_ord (h k).1,fun y hy=>?_⟩
  rcases (layF_mem (h k).1 y).1 hy with rfl|⟨h1,_⟩
  ·exact hx
  ·exact (h k).2 y h1
 ·rw [putE_off _ e];exact h k
theorem LayOk.len {L:List Nat}{es:Nat->List LE}(h:LayOk L es)(hb:∀ n ∈ L,n<256)(a:Nat):(es a).length<=256:=by
 have h1:((es a).map (·.to)).Nodup:=by
  unfold List.Nodup
  rw [List.pairwise_map]
  exact (h a).1.imp (fun h=>Nat.ne_of_lt h)
 have:=nodup_len 256 h1 (fun n hn=>by
  obtain ⟨e,he,rfl⟩:=List.mem_map.1 hn
  exact hb _ ((h a).2 e he))
 simpa using this
theorem layAll_step {es:Nat->List LE}{l:List (Nat × LE)}{j:Nat}{x:Nat × LE}(h:l[j]? = some x):layAll es (l.take (j+1))=lay2 (layAll es (l.take j)) x:=by
 unfold layAll
 rw [List.take_add_one,h,List.foldl_append]
 rfl
theorem moreF_ends {p:LE->LE->Bool}{n:Nat}:∀ {l:List LE}{x:Nat × LE},x ∈ moreF p n l->(∃ a ∈ l,x.1=a.to)/\(∃ b ∈ l,x.2.to=b.to)/\x.2.mid=(n:Int)
 |[],_,h=>by cases h
 |a::l,x,h=>by
  rcases List.mem_append.1 h with h|h
  ·obtain ⟨b,hb,rfl⟩:=List.mem_map.1 h
   exact ⟨⟨a,List.mem_cons_self ..,rfl⟩,⟨b,List.mem_cons_of_mem _ (List.mem_filter.1 hb).1,rfl⟩,rfl⟩
  ·obtain ⟨⟨a',h1,h2⟩,⟨b',h3,h4⟩,h5⟩:=moreF_ends h
   exact ⟨⟨a',List.mem_cons_of_mem _ h1,h2⟩,⟨b',List.mem_cons_of_mem _ h3,h4⟩,h5⟩
theorem lksV_at:∀ (l:List (Nat × LE)) (i:Nat) (x:Nat × LE),l[i]? = some x->(lksV l)[i*4]? = some (.int .i64 (x.1:Int))/\(lksV l)[i*4+1]? = some (.int .i64 (x.2.to:Int))/\(lksV l)[i*4+2]? = some (.int .i64 x.2.s)/\(lksV l)[i*4+3]? = some (.int .i64 x.2.d)
 |[],i,e,h=>by simp at h
 |x::l,0,e,h=>by
  simp at h;subst h
  exact ⟨rfl,rfl,rfl,rfl⟩
 |x::l,i+1,e,h=>by
  have ih:=lksV_at l i e (by simpa using h)
  have hl:(lkV x).length=4:=rfl
  have key:∀ k,(lksV (x::l))[(i+1)*4+k]? = (lksV l)[i*4+k]? := fun k=>by
   show (lkV x++lksV l)[(i+1)*4+k]? = _
   rw [List.getElem?_append_right (by rw [hl];omega),hl]
   congr 1;omega
  exact ⟨(key 0).trans ih.1,(key 1).trans ih.2.1,(key 2).trans ih.2.2.1,(key 3).trans ih.2.2.2⟩
section
variable {w w' : World} {N lb vb eb top : Nat} {L : List Nat} {st : LSt} {f : Int → Option Value}
theorem LvAt.blt (V:LvAt w N lb vb eb top L st f){g:Nat}(h:LvB lb vb eb f g):g<w.heap.size:=by
 rcases h with rfl|rfl|rfl|⟨i,v,h1,h2⟩
 ·exact V.lts.1
 ·exact V.lts.2.1
 ·exact V.lts.2.2
 ·obtain ⟨i1,i2⟩:=V.no i v h1
  obtain ⟨v2,e1,e2⟩:=V.row i.toNat i2
  rw [Int.toNat_of_nonneg i1,h1] at e1;cases e1
  exact (e2.lt g h2).2
theorem LvAt.level (V:LvAt w N lb vb eb top L st f){n t:Nat}(hn:n ∈ L)(K:Keep (fun k=>k=vb) w w')(hm:MapF Tryz.prog 3 w' vb (putF (lvF L st.lev) (n:Int) (.int .i64 (t:Int))) L.length):LvAt w' N lb vb eb top L ⟨fun k=>if k=n then t else st.lev k,st.es⟩ f:=by
 rw [lvF_put hn] at hm
 have n1:=V.nes.1
 refine ⟨K.cellOf V.c0 n1,K.cellOf V.c1 n1,K.cellOf V.c2 n1,(K.frozen (p:=⟨lb,0,none⟩) V.lts.1 n1).trans V.fz,hm,V.em.keep K (fun e=>V.ne e.symm),fun m hm=>?_,V.no,V.apart,V.off,V.nb,V.ne,V.bd,V.len⟩
 obtain ⟨v,e1,e2⟩:=V.row m hm
 exact ⟨v,e1,own_keep e2 K (own_map e2 V.lv)⟩
end
theorem Tryz.underN:Tryz.prog.underlying 163=some (.map 3 217):=by kernel_rfl
theorem zeroN (w:World):(zeroValue 217).run Tryz.prog w=.ok (.agg #[]) w:=by kernel_rfl
set_option maxHeartbeats 400000 in
theorem needed_none {lb:Nat}(w:World)(n:Int):Calls Tryz.prog 163 #[.pointer (some ⟨lb,0,none⟩),.int .i64 n,.slice none 0 0] w fun e w'=>e=.returned (.slice none 0 0)/\w'=w:=by
 go_enter Tryz.func163,Tryz.ntmps163
 go_wp2
 go_loopw [7,19] (fun rv iv wr=>rv=.slice none 0 0/\iv=.int .i64 0/\wr=w) (fun _ _ _=>0)
 case atStart=>exact ⟨rfl,rfl,rfl⟩
 case round =>
  obtain ⟨rfl,rfl,rfl⟩:=hrel
  go_wp2
  go_ret
  exact ⟨rfl,rfl⟩
theorem needed_all {N lb vb eb top n cap:Nat}{A:Option Addr}{L:List Nat}{st:LSt}{f:Int->Option Value}{l:List LE}{p:LE->LE->Bool}{base:Nat}(w:World)(V:LvAt w N lb vb eb top L st f)(O:Okl L 512 st)(hown:w.ownsRow base 204 4 (.slice A l.length cap) l.length (lesV l))(hl:l.length<=256)(hin:∀ e ∈ l,e ∈ st.es n)(hp:∀ a b,p a b=true↔Need st n a b) :
  Calls Tryz.prog 163 #[.pointer (some ⟨lb,0,none⟩),.int .i64 (n:Int),.slice A l.length cap] w fun e w'=>∃ v,e=.returned v/\w'.ownsRow w.heap.size 248 4 v (moreF p n l).length (lksV (moreF p n l))/\Below w.heap.size w w':=by
 obtain ⟨A',cap',hv,row,h⟩:=rowL_of hown
 cases hv
 rcases h with ⟨rfl,rfl⟩|⟨g,rfl,_⟩
 ·rcases hown.2 with ⟨h,_⟩|⟨g,c,cur,h,_⟩
  ·cases h
   refine (needed_none w (n:Int)).mono ?_
   rintro e w' ⟨rfl,rfl⟩
   exact ⟨_,rfl,World.ownsRow_nil _ _ _ _,Below.refl _ _⟩
  ·cases h
 ·rcases hown.2 with ⟨h,_⟩|⟨g',c,cur,h,_,_,h1,h2,_⟩
  ·cases h
  ·cases h
   exact needed_any w V O row hl h1 h2 hin hp
end
section
open Go.RowKit Go.Maps
structure RSt (w wr:World) (N lb vb eb t:Nat) (L M:List Nat) (vM:Value) (f f':Int->Option Value) (st':LSt) (nr:Nat->Bool):Prop where
 lv:LvAt wr N lb vb eb t L st' f'
 bx:wr.cell? ⟨w.heap.size,0,none⟩=some (.pointer (some ⟨lb,0,none⟩))
 sk:SetAt wr (w.heap.size+1) (nS nr)
 rw:wr.ownsRow (w.heap.size+2) 3 1 vM M.length (vals M)
 off:∀ g,LvB lb vb eb f' g->g≠w.heap.size/\g≠w.heap.size+1/\vM.ownBlock≠some g
 new:∀ g,LvB lb vb eb f' g->LvB lb vb eb f g\/w.heap.size<=g
 kp:Keep (LvB lb vb eb f) w wr
section
variable {w wr wq : World} {N lb vb eb t : Nat} {L M : List Nat} {vM : Value} {f f' : Int → Option Value} {st' st2 : LSt} {nr : Nat → Bool}
theorem RSt.below (R:RSt w wr N lb vb eb t L M vM f f' st' nr)(hb:Below wr.heap.size wr wq):RSt w wq N lb vb eb t L M vM f f' st' nr :=
 ⟨R.lv.below hb,(hb.cell (World.block_lt_of_cell? _ _ R.bx)).trans R.bx,R.sk.below hb,own_below R.rw hb,R.off,R.new,R.kp.below hb⟩
theorem RSt.turn (R:RSt w wr N lb vb eb t L M vM f f' st' nr){f2:Int->Option Value}(V:LvAt wq N lb vb eb t L st2 f2)(K:Keep (LvB lb vb eb f') wr wq)(hn:∀ g,LvB lb vb eb f2 g->LvB lb vb eb f' g\/wr.heap.size<=g):RSt w wq N lb vb eb t L M vM f f2 st2 nr:=by
 have hx:w.heap.size<wr.heap.size:=World.block_lt_of_cell? _ _ R.bx
 have hy:=R.sk.lt
 refine ⟨V,K.cellOf R.bx (fun h=>(R.off _ h).1 rfl),R.sk.kept (K.block _ hy (fun h=>(R.off _ h).2.1 rfl)),own_keep R.rw K (fun g hg h=>(R.off g h).2.2 hg),fun g hg=>?_,fun g hg=>?_,R.kp.trans K (fun i hi h=>(R.new i h).elim id (fun h=>by omega))⟩
 ·rcases hn g hg with h|h
  ·exact R.off g h
  ·refine ⟨by omega,by omega,fun h2=>?_⟩
   have:=(R.rw.lt g h2).2;omega
 ·rcases hn g hg with h|h
  ·exact R.new g h
  ·exact Or.inr (by omega)
theorem RSt.skip (R:RSt w wr N lb vb eb t L M vM f f' st' nr){nr':Nat->Bool}(K:Keep (fun k=>k=w.heap.size+1) wr wq)(hs:SetAt wq (w.heap.size+1) (nS nr')):RSt w wq N lb vb eb t L M vM f f' st' nr':=by
 refine ⟨R.lv.keep K (fun g hg=>(R.off g hg).2.1),K.cellOf R.bx (by show ¬ w.heap.size=_;omega),hs,own_keep R.rw K (own_map R.rw R.sk.mp),R.off,R.new,R.kp.trans K (fun i hi e=>by omega)⟩
end
set_option maxHeartbeats 8000000 in
set_option maxRecDepth 1000000 in
theorem round_any {N lb vb eb t:Nat}{L:List Nat}{st:LSt}{f:Int->Option Value}{K:Int}(w:World)(V:LvAt w N lb vb eb t L st f)(hr:L.Pairwise (·<·))(hA:All L t K st (fun _=>false))(hK0:0<=K)(hK:K<=256)(ht:0<t) :
  Calls Tryz.prog 121 #[.pointer (some ⟨lb,0,none⟩)] w fun e w'=>∃ st' nr' got f',e=.returned (.bool got)/\Rnd t L st (fun _=>false) st' nr' got/\LvAt w' N lb vb eb t L st' f'/\(∀ g,LvB lb vb eb f' g->LvB lb vb eb f g\/w.heap.size<=g)/\Keep (LvB lb vb eb f) w w':=by
 have hmm:=@run_makeMap Tryz.prog
 obtain ⟨W0,hW0⟩:∃ W0,W0=(w.alloc (.cells #[.pointer (some ⟨lb,0,none⟩)] 89)).alloc (.map #[] 0):=⟨_,rfl⟩
 have BW:Below w.heap.size w W0:=by
  rw [hW0]
  exact ((Below.refl _ _).alloc (Nat.le_refl _) _).alloc (by simp) _
 have hz0:W0.heap.size=w.heap.size+2:=by rw [hW0];simp
 have k0:W0.cell? ⟨w.heap.size,0,none⟩=some (.pointer (some ⟨lb,0,none⟩)):=by
  rw [hW0]
  exact Lib.cell?_alloc_some _ (World.cell?_alloc_at _ _ _ 0 rfl)
 have k1:SetAt W0 (w.heap.size+1) (nS fun _=>false):=by
  have q:=SetAt.made (w.alloc (.cells #[.pointer (some ⟨lb,0,none⟩)] 89))
  have e:(w.alloc (.cells #[.pointer (some ⟨lb,0,none⟩)] 89)).heap.size=w.heap.size+1:=by simp
  rw [e] at q
  rw [hW0,nS_no];exact q
 have V0:=V.below BW
 have hop:=opens_any W0 V0 hr
 have HM:Hid (openL L st=L.filter (fun n=>st.lev n == 0)):=rfl
 have HMR:Hid ((openL L st).Pairwise (·<·)):=hr.filter _
 have HMM:Hid (∀ n,n ∈ openL L st↔n ∈ L/\st.lev n=0):=fun n=>by
  unfold openL
  rw [List.mem_filter]
  simp
 have hlen:=V.len
 have HBD:Hid (∀ n ∈ L,n<256):=V.bd
 have hblt:=fun g (h:LvB lb vb eb f g)=>V.blt h
 have HBLT:Hid _:=hblt
 clear hblt
 have hML:(openL L st).length<=256:=Nat.le_trans (List.length_filter_le _ _) hlen
 go_enter Tryz.func121,Tryz.ntmps121
 go_wp2_with fail
 rw [<- hW0]
 refine hop.mono ?_
 rintro e w1 ⟨vM,rfl,hown1,hb1⟩
 rw [hz0] at hown1
 generalize hMM:openL L st=M at *
 clear hMM
 have RS:RSt w w1 N lb vb eb t L M vM f f st (fun _=>false):=by
  refine ⟨V0.below hb1,(hb1.cell (World.block_lt_of_cell? _ _ k0)).trans k0,k1.below hb1,hown1,fun g hg=>?_,fun g hg=>Or.inl hg,(Keep.of_below BW).below hb1⟩
  have h1:=HBLT.out g hg
  refine ⟨by omega,by omega,fun h=>?_⟩
  have:=(hown1.lt g h).1;omega
 obtain ⟨AM,capM,rfl,_⟩:=row_of hown1
 clear hop hb1 k0 k1 V0 BW hW0 hown1 hz0
 go_wp2
 go_loopw [4,19] (fun gv iv wr=>∃ (k:Nat) (st':LSt) (nr:Nat->Bool) (f':Int->Option Value) (got:Bool),k<=M.length/\iv=.int .i64 k/\gv=.bool got/\RSt w wr N lb vb eb t L M (.slice AM M.length capM) f f' st' nr/\Hid (Rnd t (M.take k) st (fun _=>false) st' nr got)/\Hid (All L t K st' nr)/\Hid (∀ n,nr n=true->n ∈ L))
  (fun _ i _=>M.length - (intOf i).toNat)
 case atStart=>exact ⟨0,st,fun _=>false,f,false,Nat.zero_le _,rfl,rfl,RS,⟨rfl,rfl,rfl⟩,hA,fun n h=>(by cases h)⟩
 case round =>
  clear RS
  obtain ⟨k,st',nr,f',got,hk,rfl,rfl,RS,HR,HA,HNL⟩:=hrel
  by_cases hlt:k<M.length
  ·obtain ⟨g0,hA0⟩:∃ g0,AM=some ⟨g0,0,none⟩:=by
    rcases RS.rw.2 with ⟨_,h0⟩|⟨g0,_,_,hv,_⟩
    ·omega
    ·exact ⟨g0,by cases hv;rfl⟩
   subst hA0
   have hcell:=own_int RS.rw k hlt
   obtain ⟨n,hn⟩:∃ n,M[k]? = some n:=⟨M[k],List.getElem?_eq_getElem hlt⟩
   have hnk:M.getD k 0=n:=by
    rw [List.getD_eq_getElem?_getD,hn];rfl
   rw [hnk] at hcell
   clear hnk
   have hnM:=List.mem_of_getElem? hn
   obtain ⟨hnL,hn0⟩:=(HMM.out n).1 hnM
   have hnb:=HBD.out n hnL
   have hwn:=wf_small (a:=(n:Int)) (by omega) (by omega)
   have HTK:Hid (M.take (k+1)=M.take k++[n]):=by
    rw [List.take_add_one,hn];rfl
   have HL0:Hid (st'.lev n=0):=by
    refine (HR.out.lev (fun hm=>?_)).trans hn0
    obtain ⟨i,hi,h⟩:=List.getElem_of_mem hm
    have hik:i<k:=by rw [List.length_take] at hi;omega
    have h2:M[i]? = some n:=by
     rw [List.getElem_take] at h
     rw [List.getElem?_eq_getElem (by omega),h]
    have h3:=List.pairwise_iff_getElem.1 HMR.out i k (by omega) hlt hik
    rw [List.getElem?_eq_getElem hlt] at hn
    rw [List.getElem?_eq_getElem (by omega)] at h2
    have e1:=Option.some.inj hn
    have e2:=Option.some.inj h2
    omega
   have i1:(0:Int)<=(k:Int):=by omega
   have i2:(k:Int)<(M.length:Int):=by omega
   have b2:Below wr.heap.size wr (wr.alloc (.cells #[] 217)):=(Below.refl _ _).alloc (Nat.le_refl _) _
   have RS2:=RS.below b2
   have hz2:wr.heap.size<=(wr.alloc (.cells #[] 217)).heap.size:=b2.size
   clear hn hnM hn0 b2
   cases hnr:nr n with
   |true =>
    have hlk:(Instr.lookup 163 (.map (some (w.heap.size+1))) (.int .i64 (n:Int)) true).run Tryz.prog wr=.ok (.tuple #[.agg #[],.bool true]) wr:=RS.sk.mp.look_some law3 Tryz.underN (zeroN _) hwn (setF_some (by rw [nS_at];exact hnr)) true
    have HR2:Hid (Rnd t (M.take (k+1)) st (fun _=>false) st' nr got):=by
     rw [HTK.out]
     have h1:=HR.out.snoc (n:=n) (st2:=st') (nr2:=nr) (g2:=false) (Or.inl ⟨Or.inr hnr,rfl,rfl,rfl⟩)
     rw [Bool.or_false] at h1
     exact h1
    clear HR HL0 HTK hnr RS
    go_wp2
    go_roundw
    case rel=>exact ⟨k+1,st',nr,f',got,by omega,by go_num,rfl,RS2,HR2.out,HA.out,HNL.out⟩
    case measure=>simp [intOf];omega
   |false =>
    have hlk:(Instr.lookup 163 (.map (some (w.heap.size+1))) (.int .i64 (n:Int)) true).run Tryz.prog wr=.ok (.tuple #[.agg #[],.bool false]) wr:=RS.sk.mp.look_none law3 Tryz.underN (zeroN _) hwn (setF_none (by rw [nS_at];exact hnr)) true
    have O:Okl L 512 st':=⟨HA.out.lin.esy,HA.out.cor,fun he=>by
     obtain ⟨p1,p2⟩:=HA.out.bdd.pos he
     obtain ⟨p3,p4⟩:=HA.out.bdd.new he
     exact ⟨p1,p2,by omega,by omega⟩⟩
    obtain ⟨p,hp⟩:∃ p:LE->LE->Bool,∀ a b,p a b=true↔Need st' n a b:=⟨fun a b=>@decide (Need st' n a b) (Classical.propDecidable _),fun a b=>@decide_eq_true_iff _ (Classical.propDecidable _)⟩
    have HP:Hid (∀ a b,p a b=true↔Need st' n a b):=hp
    have V2:=RS2.lv
    obtain ⟨A,cap,hl2,row2,_⟩:=V2.edges hnL
    have c2:=V2.c2
    have bx2:=RS2.bx
    have hfind:=find_open (xb:=w.heap.size) (cap:=cap) (p:=fun e=>st'.lev e.to == 0) (wr.alloc (.cells #[] 217)) row2 (O.len HBD.out n) (fun w' e hB' he=>clo_open w' (V2.below hB') ((hB'.cell (World.block_lt_of_cell? _ _ bx2)).trans bx2) e (O.cor.ends he).2)
    have hnot:¬ (0<st'.lev n\/nr n=true):=fun h=>by
     rcases h with h|h
     ·rw [HL0.out] at h;exact Nat.lt_irrefl _ h
     ·rw [hnr] at h;cases h
    have HNOT:Hid _:=hnot
    have HFE:Hid (feF st' n=(st'.es n).filter (fun e=>st'.lev e.to == 0)):=rfl
    have HIN:Hid (∀ e ∈ (st'.es n).filter (fun e=>st'.lev e.to == 0),e ∈ st'.es n):=fun e he=>(List.mem_filter.1 he).1
    have hfl:((st'.es n).filter (fun e=>st'.lev e.to == 0)).length<=256:=Nat.le_trans (List.length_filter_le _ _) (O.len HBD.out n)
    clear hnr hp hnot V2 row2
    generalize (st'.es n).filter (fun e=>st'.lev e.to == 0)=l at *
    go_wp2_with fail
    refine hfind.mono ?_
    rintro e w3 ⟨v3,rfl,own3,hb3⟩
    obtain ⟨A3,cap3,rfl,row3,hA3⟩:=rowL_of own3
    have RS3:=RS2.below hb3
    have bx3:=RS3.bx
    have hneed:=needed_all w3 RS3.lv O own3 hfl HIN.out HP.out
    clear hfind RS2 hl2 c2 bx2 hlk RS hA3
    go_wp2_with fail
    refine hneed.mono ?_
    rintro e w4 ⟨v4,rfl,own4,hb4⟩
    obtain ⟨A4,cap4,hv4⟩:∃ A4 cap4,v4=.slice A4 (moreF p n l).length cap4:=by
     rcases own4.2 with ⟨h,h0⟩|⟨g,c,cur,h,_⟩
     ·exact ⟨none,0,by rw [h,h0]⟩
     ·exact ⟨_,_,h⟩
    subst hv4
    have RS4:=RS3.below hb4
    have row4:=row3.below hb4
    have own34:=own_below own3 hb4
    have HE:Hid (∀ x ∈ moreF p n l,(∃ a ∈ l,x.1=a.to)/\(∃ b ∈ l,x.2.to=b.to)/\x.2.mid=(n:Int)):=fun x hx=>moreF_ends hx
    have HQ:Hid (moreF p n l=moreF p n (feF st' n)):=by unfold Hid;rw [HFE.out]
    have hQl:(moreF p n l).length<=256*256:=by
     rw [<- mTo_all]
     exact Nat.le_trans (mTo_len p n l l.length) (Nat.mul_le_mul hfl hfl)
    have h34:w3.heap.size<=w4.heap.size:=hb4.size
    have hv4lt:=fun q (hq:(Value.slice A4 (moreF p n l).length cap4).ownBlock=some q)=>own4.lt q hq
    have HB3:Hid (∀ g,LvB lb vb eb f' g->g<w3.heap.size):=fun g hg=>RS3.lv.blt hg
    clear hneed RS3 own3 row3 bx3 hb4
    generalize moreF p n l=Q at *
    by_cases hgt:l.length<Q.length
    ·have hgt':(l.length:Int)<(Q.length:Int):=by omega
     have HR2:Hid (Rnd t (M.take (k+1)) st (fun _=>false) st' nr got):=by
      rw [HTK.out]
      have h1:=HR.out.snoc (n:=n) (st2:=st') (nr2:=nr) (g2:=false) (Or.inr ⟨HNOT.out,p,HP.out,Or.inl ⟨by rw [<- HQ.out,HFE.out];exact hgt,rfl,rfl,rfl⟩⟩)
      rw [Bool.or_false] at h1
      exact h1
     clear HR HL0 HTK HNOT HP HE HQ HFE HIN own4 own34 row4
     go_wp2
     go_roundw
     case rel=>exact ⟨k+1,st',nr,f',got,by omega,by go_num,rfl,RS4,HR2.out,HA.out,HNL.out⟩
     case measure=>simp [intOf];omega
    ·have hgt':¬ (l.length:Int)<(Q.length:Int):=by omega
     have bD:Below w4.heap.size w4 w4.drew:=(Below.refl _ _).drew
     have RSD:=RS4.below bD
     have his:(lvF L st'.lev (n:Int)).isSome=true:=by rw [lvF_in hnL];rfl
     obtain ⟨v0,stp,W5,W6,hrE,KE,hrS,hmS,KS⟩:=RSD.lv.lv.entry law3 Tryz.underV (zero3 _) (by have:=RSD.lv.len;unfold maxLen;omega) hwn his (.int .i64 (t:Int))
     have hrS':(Instr.entryStore 129 (.map (some vb)) (.int .i64 (stp:Int)) (.int .i64 (t:Int))).run Tryz.prog W5=.ok () W6:=hrS
     clear hrS
     have r0:=RSD.bx
     have r1:=RSD.lv.c0
     have r2:=RSD.lv.c1
     have hXv:w.heap.size≠vb:=fun h=>(RSD.off vb (Or.inr (Or.inl rfl))).1 h.symm
     have hLv:=RSD.lv.nes.1
     have s0:=KE.cellOf r0 hXv
     have s1:=KE.cellOf r1 hLv
     have s2:=KE.cellOf r2 hLv
     have u0:=KS.cellOf r0 hXv
     have u1:=KS.cellOf r1 hLv
     have u2:=KS.cellOf r2 hLv
     go_wp2_with fail
     go_region_held3 (fun w'=>w'.cell? ⟨w.heap.size,0,none⟩=some (.pointer (some ⟨lb,0,none⟩))/\w'.cell? ⟨lb,0,none⟩=some (.int .i64 (t:Int))/\w'.cell? ⟨lb,1,none⟩=some (.map (some vb))) (first|(exact ⟨r0,r1,r2⟩)|(exact ⟨s0,s1,s2⟩)|(exact ⟨u0,u1,u2⟩)) (first|(fail))
     have V6:=RSD.lv.level hnL KS hmS
     have RS6:=RSD.turn V6 (KS.mono (fun _ _ h=>Or.inr (Or.inl h))) (fun g hg=>Or.inl hg)
     have own6:W6.ownsRow 0 204 4 (.slice A3 l.length cap3) l.length (lesV l):=own_keep (own_base (own_below own34 bD) (Nat.zero_le _)) KS (own_map (own_below own34 bD) RSD.lv.lv)
     have lks6:W6.ownsRow w3.heap.size 248 4 (.slice A4 Q.length cap4) Q.length (lksV Q):=own_keep (own_below own4 bD) KS (own_map (own_below own4 bD) RSD.lv.lv)
     have HO4:Hid (∀ g,LvB lb vb eb f' g->(Value.slice A4 Q.length cap4).ownBlock≠some g):=fun g hg h=>by
      have h1:=HB3.out g hg
      have h2:=(hv4lt g h).1
      omega
     have HLO:Hid (LayOk L st'.es):=fun a=>⟨HA.out.lin.esy.ord a,fun e he=>(HA.out.cor.ends he).2⟩
     have HTO:Hid (∀ e ∈ l,e.to ∈ L):=fun e he=>(HA.out.cor.ends (HIN.out e he)).2
     clear RSD RS4 bD hrE KE hrS' hmS KS r0 r1 r2 s0 s1 s2 u0 u1 u2 own4 own34 row4 V6 his
     go_wp2
     go_loopw [60] (fun iv wr=>∃ j:Nat,j<=l.length/\iv=.int .i64 j/\RSt w wr N lb vb eb t L M (.slice (some ⟨g0,0,none⟩) M.length capM) f f' ⟨fun k=>if k=n then t else st'.lev k,st'.es⟩ (fun k=>nr k || (l.take j).any (fun e=>e.to == k))/\wr.ownsRow 0 204 4 (.slice A3 l.length cap3) l.length (lesV l)/\wr.ownsRow w3.heap.size 248 4 (.slice A4 Q.length cap4) Q.length (lksV Q))
      (fun i _=>l.length - (intOf i).toNat)
     case atStart =>
      refine ⟨0,Nat.zero_le _,rfl,?_,own6,lks6⟩
      have e:(fun k=>nr k || (l.take 0).any (fun e=>e.to == k))=nr:=by
       funext k
       simp
      rw [e];exact RS6
     case round =>
      clear RS6 own6 lks6
      obtain ⟨j,hj,rfl,RS6,own6,lks6⟩:=hrel
      by_cases hlt2:j<l.length
      ·obtain ⟨e,he⟩:∃ e,l[j]? = some e:=⟨l[j],List.getElem?_eq_getElem hlt2⟩
       obtain ⟨A',c',hv',row6,_⟩:=rowL_of own6
       cases hv'
       obtain ⟨b,o,rfl,q1,q2,q3,q4⟩:=row6 j e he
       have heL:=HTO.out e (List.mem_of_getElem? he)
       have heb:=HBD.out _ heL
       have hwe:=wf_small (a:=(e.to:Int)) (by omega) (by omega)
       have j1:(0:Int)<=(j:Int):=by omega
       have j2:(j:Int)<(l.length:Int):=by omega
       have b7:Below wr.heap.size wr (wr.alloc (.cells #[.int .i64 (e.to:Int),.int .i64 e.s,.int .i64 e.d,.int .i64 e.mid] 204)):=(Below.refl _ _).alloc (Nat.le_refl _) _
       have RS7:=RS6.below b7
       have own7:=own_below own6 b7
       have lks7:=own_below lks6 b7
       obtain ⟨w8,hrun8,hm8,ht8⟩:=RS7.sk.mp.store law3 Tryz.underN RS7.sk.room hwe (.agg #[])
       have sk8:=RS7.sk.put (by omega) (by omega) hm8
       rw [nS_ins] at sk8
       have RS8:=RS7.skip (turned_keep ht8) sk8
       have own8:=own_keep own7 (turned_keep ht8) (own_map own7 RS7.sk.mp)
       have lks8:=own_keep lks7 (turned_keep ht8) (own_map lks7 RS7.sk.mp)
       have HNR:Hid ((fun k=>(nr k || (l.take j).any (fun e=>e.to == k)) || e.to == k)=fun k=>nr k || (l.take (j+1)).any (fun e=>e.to == k)):=by
        unfold Hid
        funext k
        rw [List.take_add_one,he,List.any_append,Bool.or_assoc]
        simp
       clear RS6 RS7 own6 own7 lks6 lks7 hm8 ht8 sk8 b7 row6 he
       generalize (e.to:Int)=et at *
       generalize e.s=es at *
       generalize e.d=ed at *
       generalize e.mid=em at *
       go_wp2
       go_roundw
       case rel=>exact ⟨j+1,by omega,by go_num,by rw [<- HNR.out];exact RS8,own8,lks8⟩
       case measure=>simp [intOf];omega
      ·have e:j=l.length:=by omega
       subst e
       have RS7:RSt w wr N lb vb eb t L M (.slice (some ⟨g0,0,none⟩) M.length capM) f f' ⟨fun k=>if k=n then t else st'.lev k,st'.es⟩ (fun k=>nr k || l.any (fun e=>e.to == k)):=by
        have:=RS6
        rw [List.take_length] at this
        exact this
       clear RS6 own6
       go_wp2
       go_loopw [71] (fun iv wr=>∃ (j:Nat) (f2:Int->Option Value),j<=Q.length/\iv=.int .i64 j/\RSt w wr N lb vb eb t L M (.slice (some ⟨g0,0,none⟩) M.length capM) f f2 ⟨fun k=>if k=n then t else st'.lev k,layAll st'.es (Q.take j)⟩ (fun k=>nr k || l.any (fun e=>e.to == k))/\wr.ownsRow w3.heap.size 248 4 (.slice A4 Q.length cap4) Q.length (lksV Q)/\Hid (∀ g,LvB lb vb eb f2 g->(Value.slice A4 Q.length cap4).ownBlock≠some g)/\Hid (LayOk L (layAll st'.es (Q.take j))))
        (fun i _=>Q.length - (intOf i).toNat)
       case atStart=>exact ⟨0,f',Nat.zero_le _,rfl,RS7,lks6,HO4,HLO⟩
       case round =>
        clear RS7 lks6 HO4
        obtain ⟨j,f2,hj,rfl,RS7,lks6,HO4,HLJ⟩:=hrel
        by_cases hlt3:j<Q.length
        ·obtain ⟨x,hx⟩:∃ x,Q[j]? = some x:=⟨Q[j],List.getElem?_eq_getElem hlt3⟩
         obtain ⟨⟨a,haL,hx1⟩,⟨b,hbL,hx2⟩,hxm⟩:=HE.out x (List.mem_of_getElem? hx)
         have h1L:x.1 ∈ L:=by rw [hx1];exact HTO.out a haL
         have h2L:x.2.to ∈ L:=by rw [hx2];exact HTO.out b hbL
         obtain ⟨g4,rfl⟩:∃ g4,A4=some ⟨g4,0,none⟩:=by
          rcases lks6.2 with ⟨_,h0⟩|⟨g4,_,_,hv,_⟩
          ·omega
          ·exact ⟨g4,by cases hv;rfl⟩
         obtain ⟨e0,e1,e2,e3⟩:=lksV_at Q j x hx
         have q0:=(lks6.cellAt _ (by omega)).trans e0
         have q1:=(lks6.cellAt _ (by omega)).trans e1
         have q2:=(lks6.cellAt _ (by omega)).trans e2
         have q3:=(lks6.cellAt _ (by omega)).trans e3
         have j1:(0:Int)<=(j:Int):=by omega
         have j2:(j:Int)<(Q.length:Int):=by omega
         have HST:Hid (layAll st'.es (Q.take (j+1))=lay2 (layAll st'.es (Q.take j)) x):=layAll_step hx
         have b7:Below wr.heap.size wr (wr.alloc (.cells #[.int .i64 (x.1:Int),.int .i64 (x.2.to:Int),.int .i64 x.2.s,.int .i64 x.2.d] 248)):=(Below.refl _ _).alloc (Nat.le_refl _) _
         have RS8:=RS7.below b7
         have lks8:=own_below lks6 b7
         have y0:(wr.alloc (.cells #[.int .i64 (x.1:Int),.int .i64 (x.2.to:Int),.int .i64 x.2.s,.int .i64 x.2.d] 248)).cell? ⟨wr.heap.size,0,none⟩=some (.int .i64 (x.1:Int)):=World.cell?_alloc_at _ _ _ 0 rfl
         have y1:(wr.alloc (.cells #[.int .i64 (x.1:Int),.int .i64 (x.2.to:Int),.int .i64 x.2.s,.int .i64 x.2.d] 248)).cell? ⟨wr.heap.size,1,none⟩=some (.int .i64 (x.2.to:Int)):=World.cell?_alloc_at _ _ _ 1 rfl
         have y2:(wr.alloc (.cells #[.int .i64 (x.1:Int),.int .i64 (x.2.to:Int),.int .i64 x.2.s,.int .i64 x.2.d] 248)).cell? ⟨wr.heap.size,2,none⟩=some (.int .i64 x.2.s):=World.cell?_alloc_at _ _ _ 2 rfl
         have y3:(wr.alloc (.cells #[.int .i64 (x.1:Int),.int .i64 (x.2.to:Int),.int .i64 x.2.s,.int .i64 x.2.d] 248)).cell? ⟨wr.heap.size,3,none⟩=some (.int .i64 x.2.d):=World.cell?_alloc_at _ _ _ 3 rfl
         have hput1:=put_edge (wr.alloc (.cells #[.int .i64 (x.1:Int),.int .i64 (x.2.to:Int),.int .i64 x.2.s,.int .i64 x.2.d] 248)) RS8.lv h1L (HLJ.out x.1).1 (HLJ.out.len HBD.out x.1) x.2
         rw [hxm] at hput1
         have bx8:=RS8.bx
         have hB7:∀ g,LvB lb vb eb f2 g->g<wr.heap.size:=fun g hg=>RS7.lv.blt hg
         have HB7:Hid _:=hB7
         have hE7:wr.heap.size<(wr.alloc (.cells #[.int .i64 (x.1:Int),.int .i64 (x.2.to:Int),.int .i64 x.2.s,.int .i64 x.2.d] 248)).heap.size:=by simp
         have HX:Hid (x=(x.1,⟨x.2.to,x.2.s,x.2.d,(n:Int)⟩)):=by
          unfold Hid
          rw [<- hxm]
         have HXM:Hid (x.2.mid=(n:Int)):=hxm
         clear hB7 e0 e1 e2 e3 b7 hx hx1 hx2 haL hbL hxm RS7 lks6
         generalize hxa:(x.1:Int)=xa at *
         generalize hxb:(x.2.to:Int)=xb at *
         generalize hxs:x.2.s=xs at *
         generalize hxd:x.2.d=xd at *
         have HXA:Hid ((x.1:Int)=xa):=hxa
         have HXB:Hid ((x.2.to:Int)=xb):=hxb
         have HXS:Hid (x.2.s=xs):=hxs
         have HXD:Hid (x.2.d=xd):=hxd
         clear hxa hxb hxs hxd
         go_wp2_with fail
         generalize wr.alloc (.cells #[.int .i64 xa,.int .i64 xb,.int .i64 xs,.int .i64 xd] 248)=w8 at *
         refine hput1.mono ?_
         rintro r w9 ⟨rfl,⟨f9,V9,hn9⟩,K9⟩
         have nE:¬ LvB lb vb eb f2 wr.heap.size:=fun h=>Nat.lt_irrefl _ (HB7.out _ h)
         have RS9:=RS8.turn V9 K9 hn9
         have z0:=K9.cellOf y0 nE
         have z1:=K9.cellOf y1 nE
         have z2:=K9.cellOf y2 nE
         have z3:=K9.cellOf y3 nE
         have lks9:=own_keep lks8 K9 (fun g hg h=>HO4.out g h hg)
         have HO9:Hid (∀ g,LvB lb vb eb f9 g->(Value.slice (some ⟨g4,0,none⟩) Q.length cap4).ownBlock≠some g):=fun g hg h=>by
          rcases hn9 g hg with h1|h1
          ·exact HO4.out g h1 h
          ·have:=(lks8.lt g h).2;omega
         have nE9:¬ LvB lb vb eb f9 wr.heap.size:=fun h=>by
          rcases hn9 _ h with h1|h1
          ·exact nE h1
          ·omega
         have HLK:Hid (LayOk L (putE (layAll st'.es (Q.take j)) x.1 (layF x.2 (layAll st'.es (Q.take j) x.1)))):=HLJ.out.put h2L
         have hput2:=put_edge w9 RS9.lv h2L (HLK.out x.2.to).1 (HLK.out.len HBD.out x.2.to) ⟨x.1,xs,xd,(n:Int)⟩
         rw [HXB.out] at hput2
         simp only [HXA.out] at hput2
         have bx9:=RS9.bx
         clear hput1 RS8 lks8 y0 y1 y2 y3 bx8 K9 V9 hn9 HO4
         go_wp2_with fail
         refine hput2.mono ?_
         rintro r wA ⟨rfl,⟨fA,VA,hnA⟩,KA⟩
         have RSA:=RS9.turn VA KA hnA
         have lksA:=own_keep lks9 KA (fun g hg h=>HO9.out g h hg)
         have HOA:Hid (∀ g,LvB lb vb eb fA g->(Value.slice (some ⟨g4,0,none⟩) Q.length cap4).ownBlock≠some g):=fun g hg h=>by
          rcases hnA g hg with h1|h1
          ·exact HO9.out g h1 h
          ·have:=(lks9.lt g h).2;omega
         have HEQ:Hid (putE (putE (layAll st'.es (Q.take j)) x.1 (layF x.2 (layAll st'.es (Q.take j) x.1))) x.2.to (layF ⟨x.1,xs,xd,(n:Int)⟩ (putE (layAll st'.es (Q.take j)) x.1 (layF x.2 (layAll st'.es (Q.take j) x.1)) x.2.to))=layAll st'.es (Q.take (j+1))):=by
          rw [HST.out]
          unfold lay2
          rw [HXS.out,HXD.out,HXM.out]
          exact rfl
         have HLA:Hid (LayOk L (layAll st'.es (Q.take (j+1)))):=by
          rw [<- HEQ.out]
          exact HLK.out.put h1L
         have RSB:RSt w wA N lb vb eb t L M (.slice (some ⟨g0,0,none⟩) M.length capM) f fA ⟨fun k=>if k=n then t else st'.lev k,layAll st'.es (Q.take (j+1))⟩ (fun k=>nr k || l.any (fun e=>e.to == k)):=by
          rw [<- HEQ.out]
          exact RSA
         clear hput2 RS9 lks9 z0 z1 z2 z3 bx9 KA VA hnA HO9 RSA HEQ HST HLJ HLK
         go_wp2
         go_roundw
         case rel=>exact ⟨j+1,fA,by omega,by go_num,RSB,lksA,HOA.out,HLA.out⟩
         case measure=>simp [intOf];omega
        ·have e:j=Q.length:=by omega
         subst e
         have RS8:RSt w wr N lb vb eb t L M (.slice (some ⟨g0,0,none⟩) M.length capM) f f2 ⟨fun k=>if k=n then t else st'.lev k,layAll st'.es Q⟩ (fun k=>nr k || l.any (fun e=>e.to == k)):=by
          have:=RS7
          rw [List.take_length] at this
          exact this
         have HTU:Hid (Turn t n st' nr ⟨fun k=>if k=n then t else st'.lev k,layAll st'.es Q⟩ (fun k=>nr k || l.any (fun e=>e.to == k)) true):=by
          refine Or.inr ⟨HNOT.out,p,HP.out,Or.inr ?_⟩
          rw [<- HQ.out,HFE.out]
          exact ⟨hgt,rfl,rfl,rfl⟩
         have HR2:Hid (Rnd t (M.take (k+1)) st (fun _=>false) ⟨fun k=>if k=n then t else st'.lev k,layAll st'.es Q⟩ (fun k=>nr k || l.any (fun e=>e.to == k)) true):=by
          rw [HTK.out]
          have h1:=HR.out.snoc HTU.out
          rw [Bool.or_true] at h1
          exact h1
         have HA2:Hid _:=HA.out.turn hK0 hnL HTU.out
         have HN2:Hid (∀ m,(nr m || l.any (fun e=>e.to == m))=true->m ∈ L):=fun m hm=>by
          rcases Bool.or_eq_true .. ▸ hm with h|h
          ·exact HNL.out m h
          ·obtain ⟨e,he,h2⟩:=List.any_eq_true.1 h
           have:e.to=m:=beq_iff_eq.1 h2
           rw [<- this];exact HTO.out e he
         clear RS7 lks6 HO4 HLJ HTU HR HA HNL HNOT HP HE HQ HFE HIN HLO HTO HL0
         go_wp2
         go_roundw
         case rel=>exact ⟨k+1,_,_,f2,true,by omega,by go_num,rfl,RS8,HR2.out,HA2.out,HN2.out⟩
         case measure=>simp [intOf];omega
  ·have e:k=M.length:=by omega
   subst e
   have HRF:Hid (Rnd t L st (fun _=>false) st' nr got):=by
    have h1:=HR.out
    rw [List.take_length] at h1
    exact Rnd.filter ht (fun n hn hq=>by
     have:st.lev n≠0:=by simpa using hq
     omega) (HM.out ▸ h1)
   have lv:=RS.lv
   have new:=RS.new
   have kp:=RS.kp
   clear HR RS
   go_wp2
   go_ret
   exact ⟨st',nr,got,f',rfl,HRF.out,lv,new,kp⟩
end
section
open Go.RowKit Go.Maps
structure EsAt (w:World) (N eb:Nat) (L:List Nat) (es:Nat->List LE) (f:Int->Option Value):Prop where
 em:MapF Tryz.prog 3 w eb f L.length
 row:∀ n ∈ L,∃ v,f (n:Int)=some v/\w.ownsRow N 204 4 v (es n).length (lesV (es n))
 no:∀ i v,f i=some v->0<=i/\i.toNat ∈ L
 apart:∀ n m v v' g,f n=some v->f m=some v'->v.ownBlock=some g->v'.ownBlock=some g->n=m
 nb:N<=eb
 bd:∀ n ∈ L,n<256
 len:L.length<=256
def memS (L:List Nat):Int->Bool:=fun i=>decide (0<=i/\i.toNat ∈ L)
theorem memS_at {L:List Nat}{n:Nat}:memS L (n:Int)=true↔n ∈ L:=by
 unfold memS
 rw [decide_eq_true_eq,Int.toNat_natCast]
 exact ⟨fun h=>h.2,fun h=>⟨by omega,h⟩⟩
theorem memS_cons (n:Nat)(L:List Nat):memS (n::L)=insS (memS L) (n:Int):=by
 funext i
 unfold memS insS
 by_cases e:i=(n:Int)
 ·subst e
  rw [decide_eq_true rfl,decide_eq_true ⟨by omega,by simp⟩];rfl
 ·rw [decide_eq_false e,Bool.false_or]
  show decide (0<=i/\i.toNat ∈ n::L)=decide (0<=i/\i.toNat ∈ L)
  by_cases h:0<=i/\i.toNat ∈ L
  ·rw [decide_eq_true h,decide_eq_true ⟨h.1,List.mem_cons_of_mem _ h.2⟩]
  ·rw [decide_eq_false h,decide_eq_false (fun h2=>by
    rcases List.mem_cons.1 h2.2 with h3|h3
    ·omega
    ·exact h ⟨h2.1,h3⟩)]
theorem cntS_mem:∀ {L:List Nat},L.Nodup->(∀ n ∈ L,n<256)->cntS (memS L) 256=L.length
 |[],_,_=>by
  have:memS []=fun _=>false:=by funext i;unfold memS;simp
  rw [this];exact cntS_none 256
 |n::L,hn,hb=>by
  have h1:=List.pairwise_cons.1 hn
  have hnl:memS L (n:Int)=false:=by
   cases h:memS L (n:Int) with
   |false=>rfl
   |true=>exact absurd rfl (h1.1 n (memS_at.1 h))
  rw [memS_cons,cntS_put _ _ 256 (by omega) (by have:=hb n (List.mem_cons_self ..);omega) hnl,cntS_mem h1.2 (fun m hm=>hb m (List.mem_cons_of_mem _ hm)),List.length_cons]
def zvF (S:Int->Bool):Int->Option Value:=fun i=>if S i then some (.int .i64 0) else none
theorem zvF_put (S:Int->Bool)(a:Int):putF (zvF S) a (.int .i64 0)=zvF (insS S a):=by
 funext i
 unfold putF zvF insS
 by_cases e:i=a
 ·rw [if_pos e,decide_eq_true e];rfl
 ·rw [if_neg e,decide_eq_false e,Bool.false_or]
theorem zvF_some (S:Int->Bool)(a:Int):(zvF S a).isSome=S a:=by
 unfold zvF;cases S a <;> rfl
theorem zvF_mem (L:List Nat):zvF (memS L)=lvF L (fun _=>0):=by
 funext i
 unfold zvF lvF memS
 by_cases h:0<=i/\i.toNat ∈ L
 ·rw [if_pos h,decide_eq_true h];rfl
 ·rw [if_neg h,decide_eq_false h];rfl
section
variable {w w' : World} {N lb vb eb top : Nat} {L : List Nat} {st : LSt} {f : Int → Option Value}
theorem LvAt.congr (V:LvAt w N lb vb eb top L st f){lev:Nat->Nat}(h:∀ n ∈ L,lev n=st.lev n):LvAt w N lb vb eb top L ⟨lev,st.es⟩ f:=by
 have e:lvF L lev=lvF L st.lev:=by
  funext i
  unfold lvF
  by_cases hi:0<=i/\i.toNat ∈ L
  ·rw [if_pos hi,if_pos hi,h _ hi.2]
  ·rw [if_neg hi,if_neg hi]
 exact ⟨V.c0,V.c1,V.c2,V.fz,by rw [e];exact V.lv,V.em,V.row,V.no,V.apart,V.off,V.nb,V.ne,V.bd,V.len⟩
theorem LvAt.up (V:LvAt w N lb vb eb top L st f)(t:Nat):LvAt (w.setCell ⟨lb,0,none⟩ (.int .i64 (t:Int))) N lb vb eb t L st f/\Keep (fun k=>k=lb) w (w.setCell ⟨lb,0,none⟩ (.int .i64 (t:Int))):=by
 have K:Keep (fun k=>k=lb) w (w.setCell ⟨lb,0,none⟩ (.int .i64 (t:Int))):=(Keep.refl (fun k=>k=lb) w).setCell (p:=⟨lb,0,none⟩) (fun _=>rfl) _
 refine ⟨⟨World.cell?_setCell_same _ _ _ V.c0,?_,?_,?_,V.lv.keep K (fun e=>V.nes.1 e.symm),V.em.keep K (fun e=>V.nes.2 e.symm),fun n hn=>?_,V.no,V.apart,V.off,V.nb,V.ne,V.bd,V.len⟩,K⟩
 ·rw [World.cell?_setCell_other _ _ _ _ (by simp)];exact V.c1
 ·rw [World.cell?_setCell_other _ _ _ _ (by simp)];exact V.c2
 ·rw [World.frozen?_setCell];exact V.fz
 ·obtain ⟨v,e1,e2⟩:=V.row n hn
  exact ⟨v,e1,own_keep e2 K (fun g hg h=>V.off _ _ e1 (by rw [<- h];exact hg))⟩
theorem LvAt.base (V:LvAt w N lb vb eb top L st f){g:Nat}(h:LvB lb vb eb f g):N<=g:=by
 rcases h with rfl|rfl|rfl|⟨i,v,h1,h2⟩
 ·exact V.nb.1
 ·exact V.nb.2.1
 ·exact V.nb.2.2
 ·obtain ⟨i1,i2⟩:=V.no i v h1
  obtain ⟨v2,e1,e2⟩:=V.row i.toNat i2
  rw [Int.toNat_of_nonneg i1,h1] at e1;cases e1
  exact (e2.lt g h2).1
end
theorem EsAt.keep {F:Nat->Prop}{w w':World}{N eb:Nat}{L:List Nat}{es:Nat->List LE}{f:Int->Option Value}(E:EsAt w N eb L es f)(K:Keep F w w')(h1:¬ F eb)(h2:∀ g i v,f i=some v->v.ownBlock=some g->¬ F g):EsAt w' N eb L es f :=
 ⟨E.em.keep K h1,fun n hn=>by
  obtain ⟨v,e1,e2⟩:=E.row n hn
  exact ⟨v,e1,own_keep e2 K (fun g hg=>h2 g _ v e1 hg)⟩,E.no,E.apart,E.nb,E.bd,E.len⟩
structure Hd (w:World) (lb vb eb top:Nat):Prop where
 c0:w.cell? ⟨lb,0,none⟩=some (.int .i64 (top:Int))
 c1:w.cell? ⟨lb,1,none⟩=some (.map (some vb))
 c2:w.cell? ⟨lb,2,none⟩=some (.map (some eb))
 fz:w.frozen? ⟨lb,0,none⟩=false
theorem Hd.keep {F:Nat->Prop}{w w':World}{lb vb eb top:Nat}(H:Hd w lb vb eb top)(K:Keep F w w')(h:¬ F lb):Hd w' lb vb eb top :=
 ⟨K.cellOf H.c0 h,K.cellOf H.c1 h,K.cellOf H.c2 h,(K.frozen (p:=⟨lb,0,none⟩) (World.block_lt_of_cell? _ _ H.c0) h).trans H.fz⟩
def Overed (w:World) (N lb vb eb most:Nat) (L:List Nat) (es:Nat->List LE):Prop:=∃ k st' f',Rds most L ⟨fun _=>0,es⟩ k st'/\Over most L k st'/\LvAt w N lb vb eb (k+1) L ⟨endL (k+1) st',st'.es⟩ f'
set_option maxHeartbeats 8000000 in
set_option maxRecDepth 1000000 in
theorem over_any {N eb most:Nat}{L:List Nat}{es:Nat->List LE}{f:Int->Option Value}(w:World)(E:EsAt w N eb L es f)(hN:N<=w.heap.size)(hr:L.Pairwise (·<·))(B:Btw L 0 16 ⟨fun _=>0,es⟩)(m1:1<=most)(m6:most<=6) :
  Calls Tryz.prog 76 #[.map (some eb),.int .i64 (most:Int)] w fun e w'=>e=.returned (.pointer (some ⟨w.heap.size+1,0,none⟩))/\Overed w' N (w.heap.size+1) w.heap.size eb most L es/\Below N w w':=by
 have hmm:=@run_makeMap Tryz.prog
 have hebl:=E.em.lt
 obtain ⟨W0,hW0⟩:∃ W0,W0=(w.alloc (.map #[] 0)).alloc (.cells #[.int .i64 1,.map (some w.heap.size),.map (some eb)] 194):=⟨_,rfl⟩
 have BW:Below w.heap.size w W0:=by
  rw [hW0]
  exact ((Below.refl _ _).alloc (Nat.le_refl _) _).alloc (by simp) _
 have hz0:W0.heap.size=w.heap.size+2:=by rw [hW0];simp
 have c0:W0.cell? ⟨w.heap.size+1,0,none⟩=some (.int .i64 1):=by rw [hW0];exact World.cell?_alloc_at _ _ _ 0 (by simp)
 have c1:W0.cell? ⟨w.heap.size+1,1,none⟩=some (.map (some w.heap.size)):=by rw [hW0];exact World.cell?_alloc_at _ _ _ 1 (by simp)
 have c2:W0.cell? ⟨w.heap.size+1,2,none⟩=some (.map (some eb)):=by rw [hW0];exact World.cell?_alloc_at _ _ _ 2 (by simp)
 have fz:W0.frozen? ⟨w.heap.size+1,0,none⟩=false:=by
  rw [hW0,frozen?_alloc_cells]
  simp [World.frozen?]
 have lm:MapF Tryz.prog 3 W0 w.heap.size (zvF fun _=>false) (cntS (fun _=>false) 256):=by
  have e:zvF (fun _=>false)=fun _=>none:=rfl
  rw [hW0,cntS_none,e]
  exact (MapF.made w Tryz.prog 3).keep (F:=fun _=>False) ((Keep.refl _ _).alloc _) id
 have em0:=E.em.keep (F:=fun _=>False) (Keep.of_below BW) id
 have E0:EsAt W0 N eb L es f:=⟨em0,fun n hn=>by
  obtain ⟨v,e1,e2⟩:=E.row n hn
  exact ⟨v,e1,own_below e2 BW⟩,E.no,E.apart,E.nb,E.bd,E.len⟩
 have HFS:Hid (∀ (x:Int) (v:Value),f x=some v->∃ n:Nat,x=(n:Int)/\n ∈ L):=fun x v h=>by
  obtain ⟨h1,h2⟩:=E.no x v h
  exact ⟨x.toNat,by omega,h2⟩
 have HFL:Hid (∀ n ∈ L,(f (n:Int)).isSome=true):=fun n hn=>by
  obtain ⟨v,e1,_⟩:=E.row n hn
  rw [e1];rfl
 have hlen:=E.len
 have HBD:Hid (∀ n ∈ L,n<256):=E.bd
 have hnb:=E.nb
 have HND:Hid L.Nodup:=hr.imp (fun h e=>by omega)
 have HEB:Hid (∀ g i v,f i=some v->v.ownBlock=some g->g<w.heap.size):=fun g i v hi hg=>by
  obtain ⟨h1,h2⟩:=E.no i v hi
  obtain ⟨v2,e1,e2⟩:=E.row i.toNat h2
  rw [Int.toNat_of_nonneg h1,hi] at e1;cases e1
  exact (e2.lt g hg).2
 clear E em0
 go_enter Tryz.func76,Tryz.ntmps76
 go_wp2_with (first|(at_range;rw [<- hW0];refine wpList_rangeF rfl _ 123 rfl 3 126 law3 Tryz.underM eb _ _ rfl E0.em ?_;intro w3 hrg3 hg3 hs3)|go_in)
 have H0:Hd W0 (w.heap.size+1) w.heap.size eb 1:=⟨c0,c1,c2,fz⟩
 have K3:Keep (fun _=>False) W0 w3:=(Keep.refl _ _).grown hg3 (fun k hk _=>by cases hk)
 have H3:=H0.keep K3 id
 have E3:=E0.keep K3 id (fun _ _ _ _ _=>id)
 have lm3:=lm.keep K3 id
 have B3:Below w.heap.size w w3:=BW.grown hg3 BW.size (fun k hk=>by cases hk)
 have hR3:w.heap.size+2<w3.heap.size:=by omega
 rw [hz0] at hrg3
 clear hg3 hs3 K3 H0 E0 lm BW c0 c1 c2 fz hW0 hz0
 go_loopg [6] L.length (fun gj nv wq=>∃ (left:Int->Bool) (cnt:Nat) (S:Int->Bool),gj=cnt/\RngF Tryz.prog 3 wq eb (w.heap.size+2) f L.length left cnt/\MapF Tryz.prog 3 wq w.heap.size (zvF S) (cntS S 256)/\Hid (∀ i:Int,S i=true↔(f i).isSome=true/\left i=false)/\Hd wq (w.heap.size+1) w.heap.size eb 1/\EsAt wq N eb L es f/\Below w.heap.size w wq/\w.heap.size+2<wq.heap.size)
 case atStart=>exact ⟨_,_,fun _=>false,rfl,hrg3,lm3,fun i=>⟨fun h=>(by cases h),fun ⟨h1,h2⟩=>by rw [h1] at h2;cases h2⟩,H3,E3,B3,hR3⟩
 case round =>
  clear hrg3 lm3 H3 E3 B3 hR3
  obtain ⟨left,cnt,S,hgj,hrg,lm,hS,H,E,hB,hR⟩:=hrel
  go_wp2_with (first|(at_next;refine wpList_nextF rfl _ rfl 3 law3 eb (w.heap.size+2) _ _ _ _ rfl hrg ?_ ?_)|go_in)
  ·intro hc0 hl0
   have eS:S=memS L:=by
    funext i
    cases h:S i with
    |true =>
     obtain ⟨h1,_⟩:=(hS.out i).1 h
     obtain ⟨v,hv⟩:=Option.isSome_iff_exists.1 h1
     obtain ⟨n,rfl,hn⟩:=HFS.out i v hv
     exact (memS_at.2 hn).symm
    |false =>
     cases h2:memS L i with
     |false=>rfl
     |true =>
      have h3:0<=i/\i.toNat ∈ L:=of_decide_eq_true h2
      have h4:=HFL.out i.toNat h3.2
      rw [Int.toNat_of_nonneg h3.1] at h4
      rw [(hS.out i).2 ⟨h4,hl0 i⟩] at h
      cases h
   have lm1:MapF Tryz.prog 3 wr w.heap.size (lvF L fun _=>0) L.length:=by
    have:=lm
    rw [eS,zvF_mem,cntS_mem HND.out HBD.out] at this
    exact this
   have V1:LvAt wr N (w.heap.size+1) w.heap.size eb 1 L ⟨fun _=>0,es⟩ f:=⟨H.c0,H.c1,H.c2,H.fz,lm1,E.em,E.row,E.no,E.apart,fun n v h1 h2=>by have:=HEB.out _ _ _ h1 h2;omega,⟨by omega,by omega,hnb⟩,by omega,E.bd,E.len⟩
   have B1:Below N w wr:=hB.mono hN
   have HRD0:Hid (Rds most L ⟨fun _=>0,es⟩ 0 ⟨fun _=>0,es⟩):=rfl
   clear hrg lm hS H E hB hR eS lm1 hl0
   go_wp2
   go_loopg [33] most (fun gj pv wq=>∃ (k:Nat) (st':LSt) (f':Int->Option Value),gj=most - k/\k+1<=most/\LvAt wq N (w.heap.size+1) w.heap.size eb (k+1) L st' f'/\Hid (Rds most L ⟨fun _=>0,es⟩ k st')/\Below N w wq)
   case atStart=>exact ⟨0,_,f,rfl,m1,V1,HRD0,B1⟩
   case round =>
    clear V1 HRD0 B1
    obtain ⟨k,st',f',hgk,hk,V1,HRD,B1⟩:=hrel
    have q0:=V1.c0
    have hNw:N<=wr.heap.size:=by have:=B1.size;omega
    by_cases hlt:k+1<most
    ·have hlt':((k+1:Nat):Int)<(most:Int):=by omega
     have hK0:=dbl_nonneg (show (0:Int)<=16 by omega) k
     have hK1:dbl 16 k<=256:=by
      have:k=0\/k=1\/k=2\/k=3\/k=4:=by omega
      rcases this with rfl|rfl|rfl|rfl|rfl <;> decide
     have hA:=(Btw.rds (show (0:Int)<=16 by omega) B HRD.out).all hK0
     have hrd:=round_any wr V1 hr hA hK0 hK1 (Nat.succ_pos k)
     go_wp2_with fail
     refine hrd.mono ?_
     rintro e w5 ⟨st2,nr2,got,f2,rfl,HRn,V5,hn5,K5⟩
     have B5:Below N w w5:=B1.trans (K5.to_below hNw (fun q hq=>V1.base hq))
     clear hrd hA K5 hn5 B1
     cases got with
     |true =>
      have HRD2:Hid (Rds most L ⟨fun _=>0,es⟩ (k+1) st2):=⟨st',nr2,HRD.out,hlt,HRn⟩
      have p0:=V5.c0
      have pz:=V5.fz
      have hup:=V5.up (k+1+1)
      have B6:Below N w (w5.setCell ⟨w.heap.size+1,0,none⟩ (.int .i64 ((k+1+1:Nat):Int))):=B5.trans (hup.2.to_below (by have:=B5.size;omega) (fun q e=>by omega))
      have hup1:=hup.1
      clear hup V5 B5 V1 HRn HRD q0
      go_wp2
      go_roundg (most - (k+1))
      case measure=>omega
      case rel=>exact ⟨k+1,st2,f2,rfl,by omega,hup1,HRD2,B6⟩
     |false =>
      have e2:=HRn.none
      have HOV:Hid (Over most L k st2):=Or.inr ⟨st2,nr2,by
       have:=HRn
       rw [<- e2] at this
       exact this⟩
      have HRD2:Hid (Rds most L ⟨fun _=>0,es⟩ k st2):=by rw [e2];exact HRD.out
      clear HRn V1 HRD q0 e2
      have hop:=opens_any w5 V5 hr
      have HMM:Hid (∀ n,n ∈ openL L st2↔n ∈ L/\(st2).lev n=0):=fun n=>by
       unfold openL
       rw [List.mem_filter]
       simp
      have hML:(openL L st2).length<=256:=Nat.le_trans (List.length_filter_le _ _) hlen
      go_wp2_with fail
      refine hop.mono ?_
      rintro e w6 ⟨vM,rfl,hownM,hb6⟩
      generalize openL L st2=M at *
      obtain ⟨AM,capM,rfl,_⟩:=row_of hownM
      have V6:=(V5).below hb6
      have B6:Below N w w6:=(B5).trans (hb6.mono (by have:=(B5).size;omega))
      have own6:=own_base hownM (Nat.zero_le _)
      clear hop hb6 hownM
      go_wp2
      go_loopw [44] (fun iv wr=>∃ j:Nat,j<=M.length/\iv=.int .i64 j/\LvAt wr N (w.heap.size+1) w.heap.size eb (k+1) L ⟨fun q=>if q ∈ M.take j then k+1 else (st2).lev q,(st2).es⟩ f2/\wr.ownsRow 0 3 1 (.slice AM M.length capM) M.length (vals M)/\Below N w wr)
       (fun i _=>M.length - (intOf i).toNat)
      case atStart=>exact ⟨0,Nat.zero_le _,rfl,V6.congr (fun n _=>by simp),own6,B6⟩
      case round =>
       clear V6 own6 B6
       obtain ⟨j,hj,rfl,V6,own6,B6⟩:=hrel
       by_cases hlt2:j<M.length
       ·obtain ⟨g0,hA0⟩:∃ g0,AM=some ⟨g0,0,none⟩:=by
         rcases own6.2 with ⟨_,h0⟩|⟨g0,_,_,hv,_⟩
         ·omega
         ·exact ⟨g0,by cases hv;rfl⟩
        subst hA0
        have hcell:=own_int own6 j hlt2
        obtain ⟨n,hn⟩:∃ n,M[j]? = some n:=⟨M[j],List.getElem?_eq_getElem hlt2⟩
        have hnk:M.getD j 0=n:=by
         rw [List.getD_eq_getElem?_getD,hn];rfl
        rw [hnk] at hcell
        obtain ⟨hnL,_⟩:=(HMM.out n).1 (List.mem_of_getElem? hn)
        have hnb3:=HBD.out n hnL
        have hwn:=wf_small (a:=(n:Int)) (by omega) (by omega)
        have HTK:Hid (M.take (j+1)=M.take j++[n]):=by
         rw [List.take_add_one,hn];rfl
        have i1:(0:Int)<=(j:Int):=by omega
        have i2:(j:Int)<(M.length:Int):=by omega
        have bD:Below wr.heap.size wr wr.drew:=(Below.refl _ _).drew
        have VD:=V6.below bD
        have ownD:=own_below own6 bD
        obtain ⟨w8,hrun8,hm8,ht8⟩:=VD.lv.store law3 Tryz.underV (by unfold maxLen;omega) hwn (.int .i64 ((k+1:Nat):Int))
        rw [lvF_in hnL] at hm8
        have K8:=turned_keep ht8
        have V8:=(VD.level hnL K8 hm8).congr (lev:=fun q=>if q ∈ M.take (j+1) then k+1 else (st2).lev q) (fun m _=>by
         rw [HTK.out]
         by_cases e:m=n
         ·subst e;simp
         ·simp [e])
        have own8:=own_keep ownD K8 (own_map ownD VD.lv)
        have B8:Below N w w8:=((B6.trans (bD.mono (by have:=B6.size;omega)))).trans (K8.to_below (by have:=B6.size;have h:wr.drew.heap.size=wr.heap.size:=rfl;omega) (fun q e=>by omega))
        have hrun9:(Instr.mapUpdate 129 (.map (some w.heap.size)) (.int .i64 (n:Int)) (.int .i64 ((k:Int)+1))).run Tryz.prog wr.drew=.ok () w8:=hrun8
        have r0:wr.drew.cell? ⟨w.heap.size+1,0,none⟩=some (.int .i64 ((k:Int)+1)):=VD.c0
        have r1:=VD.c1
        have hLv:=VD.nes.1
        have s0:=K8.cellOf r0 hLv
        have s1:=K8.cellOf r1 hLv
        clear hn hnk own6 B6 bD ownD hm8 ht8 K8 VD hrun8
        go_wp2_with fail
        go_region_held3 (fun w'=>w'.cell? ⟨w.heap.size+1,0,none⟩=some (.int .i64 ((k:Int)+1))/\w'.cell? ⟨w.heap.size+1,1,none⟩=some (.map (some w.heap.size))) (first|(exact ⟨r0,r1⟩)|(exact ⟨s0,s1⟩)) (first|(fail))
        clear r0 r1 s0 s1 hrun9 hcell
        go_wp2
        go_roundw
        case rel=>exact ⟨j+1,by omega,by go_num,V8,own8,B8⟩
        case measure=>simp [intOf];omega
       ·have e:j=M.length:=by omega
        subst e
        have V7:=V6.congr (lev:=endL (k+1) st2) (fun m hm=>by
         rw [List.take_length]
         unfold endL
         by_cases h0:(st2).lev m=0
         ·rw [if_pos h0]
          show _=if m ∈ M then _ else _
          rw [if_pos ((HMM.out m).2 ⟨hm,h0⟩)]
         ·rw [if_neg h0]
          show _=if m ∈ M then _ else _
          rw [if_neg (fun h=>h0 ((HMM.out m).1 h).2)])
        clear V6 own6
        go_wp2
        go_ret
        exact ⟨rfl,⟨k,st2,f2,HRD2.out,HOV.out,V7⟩,B6⟩
    ·have hlt':¬ ((k+1:Nat):Int)<(most:Int):=by omega
     have HOV:Hid (Over most L k st'):=Or.inl (by omega)
     have hop:=opens_any wr V1 hr
     have HMM:Hid (∀ n,n ∈ openL L st'↔n ∈ L/\(st').lev n=0):=fun n=>by
      unfold openL
      rw [List.mem_filter]
      simp
     have hML:(openL L st').length<=256:=Nat.le_trans (List.length_filter_le _ _) hlen
     go_wp2_with fail
     refine hop.mono ?_
     rintro e w6 ⟨vM,rfl,hownM,hb6⟩
     generalize openL L st'=M at *
     obtain ⟨AM,capM,rfl,_⟩:=row_of hownM
     have V6:=(V1).below hb6
     have B6:Below N w w6:=(B1).trans (hb6.mono (by have:=(B1).size;omega))
     have own6:=own_base hownM (Nat.zero_le _)
     clear hop hb6 hownM
     go_wp2
     go_loopw [44] (fun iv wr=>∃ j:Nat,j<=M.length/\iv=.int .i64 j/\LvAt wr N (w.heap.size+1) w.heap.size eb (k+1) L ⟨fun q=>if q ∈ M.take j then k+1 else (st').lev q,(st').es⟩ f'/\wr.ownsRow 0 3 1 (.slice AM M.length capM) M.length (vals M)/\Below N w wr)
      (fun i _=>M.length - (intOf i).toNat)
     case atStart=>exact ⟨0,Nat.zero_le _,rfl,V6.congr (fun n _=>by simp),own6,B6⟩
     case round =>
      clear V6 own6 B6
      obtain ⟨j,hj,rfl,V6,own6,B6⟩:=hrel
      by_cases hlt2:j<M.length
      ·obtain ⟨g0,hA0⟩:∃ g0,AM=some ⟨g0,0,none⟩:=by
        rcases own6.2 with ⟨_,h0⟩|⟨g0,_,_,hv,_⟩
        ·omega
        ·exact ⟨g0,by cases hv;rfl⟩
       subst hA0
       have hcell:=own_int own6 j hlt2
       obtain ⟨n,hn⟩:∃ n,M[j]? = some n:=⟨M[j],List.getElem?_eq_getElem hlt2⟩
       have hnk:M.getD j 0=n:=by
        rw [List.getD_eq_getElem?_getD,hn];rfl
       rw [hnk] at hcell
       obtain ⟨hnL,_⟩:=(HMM.out n).1 (List.mem_of_getElem? hn)
       have hnb3:=HBD.out n hnL
       have hwn:=wf_small (a:=(n:Int)) (by omega) (by omega)
       have HTK:Hid (M.take (j+1)=M.take j++[n]):=by
        rw [List.take_add_one,hn];rfl
       have i1:(0:Int)<=(j:Int):=by omega
       have i2:(j:Int)<(M.length:Int):=by omega
       have bD:Below wr.heap.size wr wr.drew:=(Below.refl _ _).drew
       have VD:=V6.below bD
       have ownD:=own_below own6 bD
       obtain ⟨w8,hrun8,hm8,ht8⟩:=VD.lv.store law3 Tryz.underV (by unfold maxLen;omega) hwn (.int .i64 ((k+1:Nat):Int))
       rw [lvF_in hnL] at hm8
       have K8:=turned_keep ht8
       have V8:=(VD.level hnL K8 hm8).congr (lev:=fun q=>if q ∈ M.take (j+1) then k+1 else (st').lev q) (fun m _=>by
        rw [HTK.out]
        by_cases e:m=n
        ·subst e;simp
        ·simp [e])
       have own8:=own_keep ownD K8 (own_map ownD VD.lv)
       have B8:Below N w w8:=((B6.trans (bD.mono (by have:=B6.size;omega)))).trans (K8.to_below (by have:=B6.size;have h:wr.drew.heap.size=wr.heap.size:=rfl;omega) (fun q e=>by omega))
       have hrun9:(Instr.mapUpdate 129 (.map (some w.heap.size)) (.int .i64 (n:Int)) (.int .i64 ((k:Int)+1))).run Tryz.prog wr.drew=.ok () w8:=hrun8
       have r0:wr.drew.cell? ⟨w.heap.size+1,0,none⟩=some (.int .i64 ((k:Int)+1)):=VD.c0
       have r1:=VD.c1
       have hLv:=VD.nes.1
       have s0:=K8.cellOf r0 hLv
       have s1:=K8.cellOf r1 hLv
       clear hn hnk own6 B6 bD ownD hm8 ht8 K8 VD hrun8
       go_wp2_with fail
       go_region_held3 (fun w'=>w'.cell? ⟨w.heap.size+1,0,none⟩=some (.int .i64 ((k:Int)+1))/\w'.cell? ⟨w.heap.size+1,1,none⟩=some (.map (some w.heap.size))) (first|(exact ⟨r0,r1⟩)|(exact ⟨s0,s1⟩)) (first|(fail))
       clear r0 r1 s0 s1 hrun9 hcell
       go_wp2
       go_roundw
       case rel=>exact ⟨j+1,by omega,by go_num,V8,own8,B8⟩
       case measure=>simp [intOf];omega
      ·have e:j=M.length:=by omega
       subst e
       have V7:=V6.congr (lev:=endL (k+1) st') (fun m hm=>by
        rw [List.take_length]
        unfold endL
        by_cases h0:(st').lev m=0
        ·rw [if_pos h0]
         show _=if m ∈ M then _ else _
         rw [if_pos ((HMM.out m).2 ⟨hm,h0⟩)]
        ·rw [if_neg h0]
         show _=if m ∈ M then _ else _
         rw [if_neg (fun h=>h0 ((HMM.out m).1 h).2)])
       clear V6 own6
       go_wp2
       go_ret
       exact ⟨rfl,⟨k,st',f',HRD.out,HOV.out,V7⟩,B6⟩
  ·intro x v w4 cnt1 hwx hlx hfx hrg1 hlt hg1 hs1 hen
   obtain ⟨n,hxn,hnL⟩:=HFS.out x v hfx
   subst hxn
   have hnb2:=HBD.out n hnL
   have K4:Keep (fun k=>k=w.heap.size+2) wr w4:=(Keep.refl _ _).grown hg1 (fun k hk _=>by cases hk;rfl)
   have H4:=H.keep K4 (by omega)
   have E4:=E.keep K4 (by omega) (fun g i v hi hg=>by have:=HEB.out g i v hi hg;omega)
   have lm4:=lm.keep K4 (by omega)
   have B4:Below w.heap.size w w4:=hB.grown hg1 hB.size (fun k e=>by cases e;omega)
   obtain ⟨w5,hrun5,hm5,ht5⟩:=lm4.store law3 Tryz.underV (by have:=cntS_le S 256;unfold maxLen;omega) hwx (.int .i64 0)
   have K5:=turned_keep ht5
   have H5:=H4.keep K5 (by omega)
   have E5:=E4.keep K5 (by omega) (fun g i v hi hg=>by have:=HEB.out g i v hi hg;omega)
   have hSn:S (n:Int)=false:=by
    cases h:S (n:Int) with
    |false=>rfl
    |true=>have:=((hS.out _).1 h).2;rw [hlx] at this;cases this
   rw [zvF_put,zvF_some,hSn] at hm5
   have lm5:MapF Tryz.prog 3 w5 w.heap.size (zvF (insS S (n:Int))) (cntS (insS S (n:Int)) 256):=by
    rw [cntS_put S _ 256 (by omega) (by omega) hSn];exact hm5
   have hrg5:=hrg1.keep K5 (by omega) (by omega)
   have B5:Below w.heap.size w w5:=B4.trans (K5.to_below B4.size (fun k e=>by omega))
   have hR5:w.heap.size+2<w5.heap.size:=by have:=K5.size;omega
   have HS5:Hid (∀ i:Int,insS S (n:Int) i=true↔(f i).isSome=true/\(left i&&!decide (i=(n:Int)))=false):=fun i=>by
    rw [insS_iff,hS.out i]
    by_cases e:i=(n:Int)
    ·subst e
     rw [HFL.out n hnL]
     simp
    ·simp [e]
   have q1:=H4.c1
   clear hrg hg1 hs1 K4 H E lm hB K5 hm5 ht5 E4 lm4 B4 hrg1
   go_wp2
   go_roundg cnt1
   case measure=>omega
   case rel=>exact ⟨_,cnt1,_,rfl,hrg5,lm5,HS5.out,H5,E5,B5,hR5⟩
end
section
open Go.RowKit Go.Maps
def GEs (W H:Int) (bl:Nat->Bool) (es:Nat->List LE):Prop :=
 (∀ n:Nat,cornB W H bl n=true->∃ l:List Nat,EdgeL W H bl n l/\es n=l.map (fun m=>⟨m,octS W n m,octD W n m,-1⟩))/\∀ n:Nat,cornB W H bl n=false->es n=[]
theorem lesV_edges (W:Int)(n:Nat):∀ l:List Nat,lesV (l.map (fun m=>(⟨m,octS W n m,octD W n m,-1⟩:LE)))=edgesV W (n:Int) l
 |[]=>rfl
 |m::l=>by
  rw [List.map_cons,lesV_cons,lesV_edges W n l]
  rfl
theorem EdgeL.one {W H c:Int}{bl:Nat->Bool}{l l':List Nat}(h:EdgeL W H bl c l)(h':EdgeL W H bl c l'):l=l':=rise_eq h.1 h'.1 (fun n=>by rw [h.2 n,h'.2 n])
theorem gEs_ex (W H:Int)(bl:Nat->Bool)(w1:1<=W):∃ es,GEs W H bl es:=by
 have h:∀ n:Nat,∃ e:List LE,(cornB W H bl n=true->∃ l:List Nat,EdgeL W H bl n l/\e=l.map (fun m=>⟨m,octS W n m,octD W n m,-1⟩))/\(cornB W H bl n=false->e=[]):=fun n=>by
  cases hc:cornB W H bl n with
  |false=>exact ⟨[],fun h=>(by cases h),fun _=>rfl⟩
  |true =>
   refine ⟨_,fun _=>⟨(crs W H bl (W*H).toNat).filter (fun m:Nat=>@decide (Dir W H bl n m/\(m:Int)≠n) (Classical.propDecidable _)),⟨(crs_rise W H bl _).filter _,fun m=>?_⟩,rfl⟩,fun h=>(by cases h)⟩
   rw [List.mem_filter,crs_mem,@decide_eq_true_iff _ (Classical.propDecidable _),Bool.and_eq_true,decide_eq_true_eq]
   constructor
   ·rintro ⟨⟨_,h1⟩,h2,h3⟩
    exact ⟨h2,h3,h1⟩
   ·rintro ⟨h1,h2,h3⟩
    have h4:0<=(m:Int)/\(m:Int)<W*H:=of_decide_eq_true (cornC_in w1 (cornB_iff.1 h3))
    exact ⟨⟨by omega,h3⟩,h1,h2⟩
 obtain ⟨es,he⟩:=Classical.axiomOfChoice h
 exact ⟨es,fun n hn=>(he n).1 hn,fun n hn=>(he n).2 hn⟩
section
variable {W H : Int} {bl : Nat → Bool} {es : Nat → List LE}
theorem GEs.mem (G:GEs W H bl es){a:Nat}{e:LE}(h:e ∈ es a):cornB W H bl a=true/\cornB W H bl e.to=true/\Dir W H bl a e.to/\e.to≠a/\e.s=octS W a e.to/\e.d=octD W a e.to/\e.mid=-1:=by
 cases hc:cornB W H bl a with
 |false=>rw [G.2 a hc] at h;cases h
 |true =>
  obtain ⟨l,h1,h2⟩:=G.1 a hc
  rw [h2] at h
  obtain ⟨m,hm,rfl⟩:=List.mem_map.1 h
  obtain ⟨h3,h4⟩:=(h1.2 m).1 hm
  rw [Bool.and_eq_true,decide_eq_true_eq] at h4
  exact ⟨rfl,h4.2,h3,fun e=>h4.1 (by show (m:Int)=_;have:m=a:=e;omega),rfl,rfl,rfl⟩
theorem GEs.in (G:GEs W H bl es){a m:Nat}(ha:cornB W H bl a=true)(hm:cornB W H bl m=true)(hd:Dir W H bl a m)(hne:m≠a):(⟨m,octS W a m,octD W a m,-1⟩:LE) ∈ es a:=by
 obtain ⟨l,h1,h2⟩:=G.1 a ha
 rw [h2]
 refine List.mem_map.2 ⟨m,(h1.2 m).2 ⟨hd,?_⟩,rfl⟩
 rw [Bool.and_eq_true,decide_eq_true_eq]
 exact ⟨by omega,hm⟩
theorem GEs.esy (G:GEs W H bl es):Esy es:=by
 refine ⟨fun n=>?_,fun {a e} he=>?_,fun {a e} he=>(G.mem he).2.2.2.1⟩
 ·cases hc:cornB W H bl n with
  |false=>rw [G.2 n hc];exact List.Pairwise.nil
  |true =>
   obtain ⟨l,h1,h2⟩:=G.1 n hc
   rw [h2]
   unfold Rsg
   rw [List.pairwise_map]
   exact h1.1
 ·obtain ⟨h1,h2,h3,h4,h5,h6,h7⟩:=G.mem he
  have:=G.in h2 h1 h3.sym (fun e=>h4 e.symm)
  rw [octS_comm W e.to a,octD_comm W e.to a,<- h5,<- h6,<- h7] at this
  exact this
theorem GEs.btw (G:GEs W H bl es)(w1:1<=W)(w2:W<=16)(h1:1<=H)(h2:H<=16):Btw (crs W H bl (W*H).toNat) 0 16 ⟨fun _=>0,es⟩:=by
 have hin:∀ {n:Nat},cornB W H bl n=true->n ∈ crs W H bl (W*H).toNat:=fun {n} hn=>by
  have h4:0<=(n:Int)/\(n:Int)<W*H:=of_decide_eq_true (cornC_in w1 (cornB_iff.1 hn))
  exact crs_mem.2 ⟨by omega,hn⟩
 refine ⟨Lrd.start G.esy (fun _=>rfl) (fun {a e} he=>by rw [(G.mem he).2.2.2.2.2.2];decide),⟨fun {a e} he=>⟨hin (G.mem he).1,hin (G.mem he).2.1⟩,fun h=>absurd h (Nat.lt_irrefl _)⟩,fun {a e} he=>?_⟩
 obtain ⟨k1,k2,_,_,k5,k6,_⟩:=G.mem he
 have hs:=oct_small w1 w2 h1 h2 (cornC_in w1 (cornB_iff.1 k1)) (cornC_in w1 (cornB_iff.1 k2))
 rw [k5,k6]
 exact ⟨octS_nonneg _ _ _,octD_nonneg _ _ _,hs.1,hs.2⟩
end
theorem EsAt.add {w w':World}{N eb n:Nat}{P:List Nat}{es:Nat->List LE}{f:Int->Option Value}{v:Value}(E:EsAt w N eb P es f)(hn:n<256)(hl:P.length<256)(K:Keep (fun k=>k=eb) w w')(em:MapF Tryz.prog 3 w' eb (putF f (n:Int) v) (P.length+1))(row:w'.ownsRow N 204 4 v (es n).length (lesV (es n)))(hnP:n ∉ P)(hfr:∀ g,v.ownBlock=some g->∀ i u,f i=some u->u.ownBlock≠some g) :
  EsAt w' N eb (P++[n]) es (putF f (n:Int) v):=by
 have hfa:∀ {i:Int},i≠(n:Int)->putF f (n:Int) v i=f i:=fun h=>putF_other _ _ h
 refine ⟨by rw [List.length_append];exact em,fun m hm=>?_,fun i u hi=>?_,fun a b u u' g h1 h2 h3 h4=>?_,E.nb,fun m hm=>?_,by rw [List.length_append];show P.length+1<=256;omega⟩
 ·by_cases e:m=n
  ·subst e;exact ⟨v,putF_same _ _ _,row⟩
  ·have hm':m ∈ P:=by
    rcases List.mem_append.1 hm with h|h
    ·exact h
    ·exact absurd (List.mem_singleton.1 h) e
   obtain ⟨u,e1,e2⟩:=E.row m hm'
   exact ⟨u,(hfa (by omega)).trans e1,own_keep e2 K (own_map e2 E.em)⟩
 ·by_cases e:i=(n:Int)
  ·subst e;exact ⟨by omega,by simp⟩
  ·rw [hfa e] at hi
   obtain ⟨k1,k2⟩:=E.no i u hi
   exact ⟨k1,List.mem_append.2 (Or.inl k2)⟩
 ·by_cases e1:a=(n:Int)
  ·by_cases e2:b=(n:Int)
   ·rw [e1,e2]
   ·subst e1
    rw [putF_same] at h1;cases h1
    rw [hfa e2] at h2
    exact absurd h4 (hfr g h3 _ _ h2)
  ·rw [hfa e1] at h1
   by_cases e2:b=(n:Int)
   ·subst e2
    rw [putF_same] at h2;cases h2
    exact absurd h3 (hfr g h4 _ _ h1)
   ·rw [hfa e2] at h2
    exact E.apart _ _ _ _ g h1 h2 h3 h4
 ·rcases List.mem_append.1 hm with h|h
  ·exact E.bd m h
  ·rw [List.mem_singleton.1 h];exact hn
set_option maxHeartbeats 1000000 in
theorem new_err {rb:Nat}{most:Int}(w:World)(hm:most<1\/6<most):Calls Tryz.prog 37 #[.pointer (some ⟨rb,0,none⟩),.int .i64 most] w fun e w'=>e=.returned (.tuple #[.pointer none,.iface 54 (.int .i64 1)])/\w'=w:=by
 rcases Decidable.em (most<1) with h|h
 ·go_enter Tryz.func37,Tryz.ntmps37
  go_wp2
  go_ret2
  exact ⟨rfl,rfl⟩
 ·have h6:6<most:=by omega
  go_enter Tryz.func37,Tryz.ntmps37
  go_wp2
  go_ret2
  exact ⟨rfl,rfl⟩
end
section
open Go.RowKit Go.Maps
def Lvd (w:World) (N lb most:Nat) (W H:Int) (bl:Nat->Bool) (es:Nat->List LE):Prop:=∃ vb eb,Overed w N lb vb eb most (crs W H bl (W*H).toNat) es
set_option maxHeartbeats 4000000 in
set_option maxRecDepth 1000000 in
theorem new_levels {rb pb mb most:Nat}{W H V:Int}{bl:Nat->Bool}{es:Nat->List LE}(w:World)(G:GraphAt w rb pb mb W H V bl)(hG:GEs W H bl es)(m1:1<=most)(m6:most<=6) :
  Calls Tryz.prog 37 #[.pointer (some ⟨rb,0,none⟩),.int .i64 (most:Int)] w fun e w'=>∃ lb,e=.returned (.tuple #[.pointer (some ⟨lb,0,none⟩),.nilIface])/\Lvd w' w.heap.size lb most W H bl es/\Below w.heap.size w w':=by
 obtain ⟨w1,w2,h1,h2⟩:1<=W/\W<=16/\1<=H/\H<=16:=by
  obtain ⟨f,G,_⟩:=G
  exact ⟨G.ga.w1,G.ga.w2,G.ga.h1,G.ga.h2⟩
 have hwh:=wh_bd w1 w2 h1 h2
 have hmm:=@run_makeMap Tryz.prog
 have b0:Below w.heap.size w (w.alloc (.map #[] 0)):=(Below.refl _ _).alloc (Nat.le_refl _) _
 have M0:MapF Tryz.prog 3 (w.alloc (.map #[] 0)) w.heap.size (fun _=>none) 0:=MapF.made w Tryz.prog 3
 have hz0:w.heap.size<(w.alloc (.map #[] 0)).heap.size:=by simp
 have G0:=G.below b0
 have hnod:=nodes_any _ G0
 have HB:Hid (Btw (crs W H bl (W*H).toNat) 0 16 ⟨fun _=>0,es⟩):=hG.btw w1 w2 h1 h2
 have HR:Hid ((crs W H bl (W*H).toNat).Pairwise (·<·)):=crs_rise _ _ _ _
 have HC:Hid (∀ n ∈ crs W H bl (W*H).toNat,cornB W H bl n=true/\n<256):=fun n hn=>by
  have:=crs_mem.1 hn
  exact ⟨this.2,by omega⟩
 have hLL:(crs W H bl (W*H).toNat).length<=256:=by have:=crs_len W H bl (W*H).toNat;omega
 have HLD:Hid (∀ w' lb vb eb,Overed w' w.heap.size lb vb eb most (crs W H bl (W*H).toNat) es->Lvd w' w.heap.size lb most W H bl es):=fun _ _ vb eb h=>⟨vb,eb,h⟩
 have HGW:Hid (GraphAt w rb pb mb W H V bl):=G
 clear G
 go_enter Tryz.func37,Tryz.ntmps37
 go_wp2_with fail
 generalize w.alloc (.map #[] 0)=wa at *
 refine hnod.mono ?_
 rintro e wb ⟨vL,rfl,hownL,hb1⟩
 generalize crs W H bl (W*H).toNat=L at *
 obtain ⟨AL,capL,rfl,_⟩:=row_of hownL
 have B1:=b0.trans (hb1.mono b0.size)
 have G1:=G0.below hb1
 have E1:EsAt wb w.heap.size w.heap.size [] es (fun _=>none):=⟨M0.keep (F:=fun _=>False) (Keep.of_below hb1) id,fun n hn=>(by cases hn),fun i v h=>(by cases h),fun n m v v' g h=>(by cases h),Nat.le_refl _,fun n hn=>(by cases hn),Nat.zero_le _⟩
 have own1:=own_base hownL (Nat.zero_le _)
 have hg1:∀ q,(Value.slice AL L.length capL).ownBlock=some q->wa.heap.size<=q:=fun q hq=>(hownL.lt q hq).1
 have HG1:Hid _:=hg1
 clear hnod hb1 hownL G0 M0 b0 hg1
 go_wp2
 go_loopw [20] (fun iv wr=>∃ (k:Nat) (f:Int->Option Value),k<=L.length/\iv=.int .i64 k/\EsAt wr w.heap.size w.heap.size (L.take k) es f/\GraphAt wr rb pb mb W H V bl/\wr.ownsRow 0 3 1 (.slice AL L.length capL) L.length (vals L)/\Below w.heap.size w wr)
  (fun i _=>L.length - (intOf i).toNat)
 case atStart=>exact ⟨0,_,Nat.zero_le _,rfl,E1,G1,own1,B1⟩
 case round =>
  clear E1 G1 own1 B1
  obtain ⟨k,f,hk,rfl,E,G,own,hB⟩:=hrel
  by_cases hlt:k<L.length
  ·obtain ⟨g0,hA0⟩:∃ g0,AL=some ⟨g0,0,none⟩:=by
    rcases own.2 with ⟨_,h0⟩|⟨g0,_,_,hv,_⟩
    ·omega
    ·exact ⟨g0,by cases hv;rfl⟩
   subst hA0
   have hcell:=own_int own k hlt
   obtain ⟨n,hn⟩:∃ n,L[k]? = some n:=⟨L[k],List.getElem?_eq_getElem hlt⟩
   have hnk:L.getD k 0=n:=by
    rw [List.getD_eq_getElem?_getD,hn];rfl
   rw [hnk] at hcell
   have hnL:=List.mem_of_getElem? hn
   obtain ⟨hnc,hnb⟩:=HC.out n hnL
   have hwn:=wf_small (a:=(n:Int)) (by omega) (by omega)
   have HTK:Hid (L.take (k+1)=L.take k++[n]):=by
    rw [List.take_add_one,hn];rfl
   have HNP:Hid (n ∉ L.take k):=fun hm=>by
    obtain ⟨i,hi,h⟩:=List.getElem_of_mem hm
    have hik:i<k:=by rw [List.length_take] at hi;omega
    have h2:L[i]? = some n:=by
     rw [List.getElem_take] at h
     rw [List.getElem?_eq_getElem (by omega),h]
    have h3:=List.pairwise_iff_getElem.1 HR.out i k (by omega) hlt hik
    rw [List.getElem?_eq_getElem hlt] at hn
    rw [List.getElem?_eq_getElem (by omega)] at h2
    have e1:=Option.some.inj hn
    have e2:=Option.some.inj h2
    omega
   have i1:(0:Int)<=(k:Int):=by omega
   have i2:(k:Int)<(L.length:Int):=by omega
   have hlk:(L.take k).length=k:=by rw [List.length_take];omega
   have hed:=edges_yes wr G hnc hwn
   have HEE:Hid (∀ l,EdgeL W H bl (n:Int) l->edgesV W (n:Int) l=lesV (es n)/\l.length=(es n).length):=fun l hl=>by
    obtain ⟨l',h1,h2⟩:=hG.1 n hnc
    have e:=hl.one h1
    subst e
    rw [h2,lesV_edges,List.length_map]
    exact ⟨rfl,rfl⟩
   clear hn hnk hnL
   go_wp2_with fail
   refine hed.mono ?_
   rintro e w5 ⟨v5,l,rfl,hown5,hEL,hb5⟩
   have G5:=G.below hb5
   have own5:=own_below own hb5
   have E5:=E.keep (F:=fun _=>False) (Keep.of_below hb5) id (fun _ _ _ _ _=>id)
   have B5:=hB.trans (hb5.mono hB.size)
   obtain ⟨w6,hrun6,hm6,ht6⟩:=E5.em.store law3 Tryz.underM (by rw [hlk];unfold maxLen;omega) hwn v5
   have K6:=turned_keep ht6
   have hfn:f (n:Int)=none:=by
    cases hf:f (n:Int) with
    |none=>rfl
    |some u=>exact absurd (by simpa using (E.no _ _ hf).2) HNP.out
   rw [hfn] at hm6
   obtain ⟨q1,q2⟩:=HEE.out l hEL
   have row6:w6.ownsRow w.heap.size 204 4 v5 (es n).length (lesV (es n)):=by
    rw [<- q1,<- q2]
    exact own_keep (own_base hown5 hB.size) K6 (own_map hown5 E5.em)
   have E6:=E5.add hnb (by rw [hlk];omega) K6 hm6 row6 HNP.out (fun g hg i u hu h=>by
    obtain ⟨k1,k2⟩:=E.no i u hu
    obtain ⟨u',e1,e2⟩:=E.row i.toNat k2
    rw [Int.toNat_of_nonneg k1,hu] at e1;cases e1
    have:=(e2.lt g h).2
    have:=(hown5.lt g hg).1
    omega)
   rw [<- HTK.out] at E6
   have own6:=own_keep own5 K6 (own_map own5 E5.em)
   have B6:Below w.heap.size w w6:=B5.trans (K6.to_below B5.size (fun q e=>by omega))
   have G6:=HGW.out.below B6
   clear hed hown5 hEL hb5 G G5 own own5 E E5 hB B5 hm6 ht6 K6 row6 q1 q2
   go_wp2
   go_roundw
   case rel=>exact ⟨k+1,_,by omega,by go_num,E6,G6,own6,B6⟩
   case measure=>simp [intOf];omega
  ·have e:k=L.length:=by omega
   subst e
   rw [List.take_length] at E
   have hov:=over_any wr E hB.size HR.out HB.out m1 m6
   clear own G E
   go_wp2_with fail
   refine hov.mono ?_
   rintro e w5 ⟨rfl,hO,hb5⟩
   have B5:=hB.trans hb5
   have HL:=HLD.out _ _ _ _ hO
   clear hov hO hb5
   go_wp2
   go_ret2
   exact ⟨_,rfl,HL,B5⟩
end
section
section
variable {W H : Int} {bl : Nat → Bool} {Fl : Int → Int → Option (Int × Int)}
theorem cells_enough (w1:1<=W)(B:∀ c,inB W H c=true->Best (Edge W H bl) c (Fl c)):∀ (n:Nat) (a b s d:Int),inB W H a=true->inB W H b=true->Fl a b=some (s,d)->val s d<=n ->
  ∃ l,(∀ c ∈ l,CornC W H bl c\/c=b)/\Chn (DirF W H bl Fl) a l b/\sumS W a l=s/\sumD W a l=d:=by
 intro n
 induction n with
 |zero =>
  intro a b s d ha hb hF hv
  obtain ⟨n1,n2,_⟩:=(B a ha).small hF
  have e:b=a:=val_zero ((B a ha).sound hF) (by simpa using hv)
  have:s=0/\d=0:=by unfold val at hv;omega
  exact ⟨[],fun _ h=>absurd h List.not_mem_nil,e.symm,this.1.symm,this.2.symm⟩
 |succ n ih =>
  intro a b s d ha hb hF hv
  have via:∀ k s1 d1 t u,CornC W H bl k->Fl a k=some (s1,d1)->Fl b k=some (t,u)->s1+t=s->d1+u=d->0<val s1 d1->0<val t u ->
    ∃ l,(∀ c ∈ l,CornC W H bl c\/c=b)/\Chn (DirF W H bl Fl) a l b/\sumS W a l=s/\sumD W a l=d:=by
   intro k s1 d1 t u hk h1 h2 h3 h4 p1 p2
   have hv2:val s1 d1+val t u=val s d:=by rw [<- val_add,h3,h4]
   have hki:=cornC_in w1 hk
   have h2':Fl k b=some (t,u):=(B b hb).sym w1 (B k hki) h2
   obtain ⟨l1,a1,a2,a3,a4⟩:=ih a k s1 d1 ha hki h1 (by omega)
   obtain ⟨l2,b1,b2,b3,b4⟩:=ih k b t u hki hb h2' (by omega)
   obtain ⟨c1,c2,c3⟩:=Chn.app (W:=W) a2 b2
   refine ⟨l1++l2,fun c hc=>(List.mem_append.1 hc).elim (fun h=>?_) (b1 c),c1,by rw [c2,a3,b3];exact h3,by rw [c3,a4,b4];exact h4⟩
   rcases a1 c h with h|h
   ·exact Or.inl h
   ·rw [h];exact Or.inl hk
  by_cases hnr:NearF W Fl a b
  ·have hp:s=octS W a b/\d=octD W a b:=by
    unfold NearF at hnr
    rw [hF] at hnr
    cases hnr
    exact ⟨rfl,rfl⟩
   by_cases hd:DirF W H bl Fl a b
   ·exact ⟨[b],fun c hc=>Or.inr (List.mem_singleton.1 hc),⟨hd,rfl⟩,by rw [hp.1];show octS W a b+0=_;omega,by rw [hp.2];show octD W a b+0=_;omega⟩
   ·have:∃ k s1 d1 t u,CornC W H bl k/\k≠a/\k≠b/\Fl a k=some (s1,d1)/\Fl b k=some (t,u)/\s1+t=octS W a b/\d1+u=octD W a b:=by
     apply Classical.byContradiction
     intro hno
     exact hd ⟨hnr,fun k s1 d1 t u c1 c2 c3 c4 c5 c6=>hno ⟨k,s1,d1,t,u,c1,c2,c3,c4,c5,c6.1,c6.2⟩⟩
    obtain ⟨k,s1,d1,t,u,c1,c2,c3,c4,c5,c6,c7⟩:=this
    refine via k s1 d1 t u c1 c4 c5 (by rw [c6,hp.1]) (by rw [c7,hp.2]) ?_ ?_
    ·apply Classical.byContradiction
     intro q
     exact c2 (val_zero ((B a ha).sound c4) (by omega))
    ·apply Classical.byContradiction
     intro q
     exact c3 (val_zero ((B b hb).sound c5) (by omega))
  ·have hne:val s d≠val (octS W a b) (octD W a b):=by
    intro q
    obtain ⟨n1,n2,n3⟩:=(B a ha).small hF
    have sm:=val_small n1 n2 n3
    have lo:=oct_low w1 ((B a ha).sound hF)
    have o1:0<=octD W a b:=octD_nonneg _ _ _
    have o2:0<=octS W a b:=octS_nonneg _ _ _
    have o3:octD W a b<=256:=by
     have:val (octS W a b) (octD W a b)<=13979748608:=by rw [<- q];exact n3
     exact (val_small o2 o1 this).2
    obtain ⟨q1,q2⟩:=val_inj s d (octS W a b) (octD W a b) (by omega) (by omega) q
    apply hnr
    unfold NearF
    rw [hF,q1,q2]
   obtain ⟨k,s1,d1,t,u,c1,c2,c3,c4,c5,c6,c7⟩:=corner_on w1 (B a ha) (B b hb) hF hne
   exact via k s1 d1 t u c7 c1 c2 c3 c4 c5 c6
theorem dirF_of {a b:Int}(w1:1<=W)(hS:octS W a b<=1000)(hD:octD W a b<=1000)(BA:Best (Edge W H bl) a (Fl a))(BB:Best (Edge W H bl) b (Fl b)):DirF W H bl Fl a b↔Dir W H bl a b:=by
 constructor
 ·rintro ⟨h1,h2⟩
  refine ⟨(near_iff w1 hS hD BA).2 h1,fun k hk hc=>?_⟩
  obtain ⟨s,d,t,u,k1,k2,k3,k4⟩:=(on_iff w1 hS hD BA BB k).1 hk
  by_cases e1:k=a
  ·exact Or.inl e1
  ·by_cases e2:k=b
   ·exact Or.inr e2
   ·exact absurd ⟨k3,k4⟩ (h2 k s d t u hc e1 e2 k1 k2)
 ·rintro ⟨h1,h2⟩
  refine ⟨(near_iff w1 hS hD BA).1 h1,fun k s d t u hc e1 e2 k1 k2 k3=>?_⟩
  rcases h2 k ((on_iff w1 hS hD BA BB k).2 ⟨s,d,t,u,k1,k2,k3.1,k3.2⟩) hc with e|e
  ·exact e1 e
  ·exact e2 e
theorem chain_edges {es:Nat->List LE}(w1:1<=W)(w2:W<=16)(h1:1<=H)(h2:H<=16)(G:GEs W H bl es)(B:∀ c,inB W H c=true->Best (Edge W H bl) c (Fl c)){b:Int}(hb:inB W H b=true):∀ {l:List Int}{c:Int},CornC W H bl c->(∀ x ∈ l,CornC W H bl x\/x=b)->Chn (DirF W H bl Fl) c l b ->
  ∃ (k:Int) (p q:Int),CornC W H bl k/\Dir W H bl b k/\Wg (GrE es) c k p q/\val p q+octV W b k<=val (sumS W c l) (sumD W c l)
 |[],c,hc,_,h=>by
  have e:c=b:=h
  subst e
  refine ⟨c,0,0,hc,Dir.self w1,Wg.nil,?_⟩
  unfold octV
  rw [octS_self,octD_self]
  exact Int.le_refl _
 |x::l,c,hc,hl,⟨hd,h⟩=>by
  have hci:=cornC_in w1 hc
  have hv:val (sumS W c (x::l)) (sumD W c (x::l))=octV W c x+val (sumS W x l) (sumD W x l):=by
   show val (octS W c x+sumS W x l) (octD W c x+sumD W x l)=_
   rw [val_both];rfl
  have hnn:∀ (l:List Int) (x:Int),0<=val (sumS W x l) (sumD W x l):=by
   intro l
   induction l with
   |nil=>intro x;show 0<=val 0 0;decide
   |cons y l ih =>
    intro x
    have:=ih y
    have e1:=octS_nonneg W x y
    have e2:=octD_nonneg W x y
    show 0<=val (octS W x y+sumS W y l) (octD W x y+sumD W y l)
    rw [val_both]
    have:=val_nonneg e1 e2
    omega
  rcases hl x (List.mem_cons_self ..) with hx|hx
  ·have hxi:=cornC_in w1 hx
   have hs:=oct_small w1 w2 h1 h2 hci hxi
   have hdir:=(dirF_of w1 (by omega) (by omega) (B c hci) (B x hxi)).1 hd
   obtain ⟨k,p,q,k1,k2,k3,k4⟩:=chain_edges w1 w2 h1 h2 G B hb hx (fun y hy=>hl y (List.mem_cons_of_mem _ hy)) h
   by_cases e:x=c
   ·subst e
    refine ⟨k,p,q,k1,k2,k3,?_⟩
    rw [hv]
    have:0<=octV W x x:=val_nonneg (octS_nonneg _ _ _) (octD_nonneg _ _ _)
    omega
   ·have qc:0<=c/\c<W*H:=of_decide_eq_true hci
    have qx:0<=x/\x<W*H:=of_decide_eq_true hxi
    obtain ⟨cn,rfl⟩:∃ cn:Nat,c=(cn:Int):=⟨c.toNat,by omega⟩
    obtain ⟨xn,rfl⟩:∃ xn:Nat,x=(xn:Int):=⟨x.toNat,by omega⟩
    have hin:=G.in (cornB_iff.2 hc) (cornB_iff.2 hx) hdir (fun q=>e (by omega))
    have ed:GrE es (cn:Int) (xn:Int) (octS W cn xn) (octD W cn xn):=⟨_,by rw [Int.toNat_natCast];exact hin,rfl,rfl,rfl⟩
    refine ⟨k,octS W cn xn+p,octD W cn xn+q,k1,k2,(Wg.one ed).trans k3,?_⟩
    rw [hv,val_both]
    unfold octV at *
    omega
  ·subst hx
   have hs:=oct_small w1 w2 h1 h2 hci hb
   have hdir:=(dirF_of w1 (by omega) (by omega) (B c hci) (B x hb)).1 hd
   refine ⟨c,0,0,hc,hdir.sym,Wg.nil,?_⟩
   rw [hv,octV_comm W x c]
   have:=hnn l x
   show 0+octV W c x<=_
   omega
theorem over_corners {es:Nat->List LE}(w1:1<=W)(w2:W<=16)(h1:1<=H)(h2:H<=16)(G:GEs W H bl es)(B:∀ c,inB W H c=true->Best (Edge W H bl) c (Fl c)){a b s d:Int}(ha:inB W H a=true)(hb:inB W H b=true)(hF:Fl a b=some (s,d))(hn:¬ ∃ z,On W H bl a b z) :
  ∃ (c k p q:Int),CornC W H bl c/\CornC W H bl k/\Dir W H bl a c/\Dir W H bl b k/\Wg (GrE es) c k p q/\octV W a c+val p q+octV W b k<=val s d:=by
 have hsb:=oct_small w1 w2 h1 h2 ha hb
 have hnr:¬ NearF W Fl a b:=fun h=>hn ((near_iff w1 (by omega) (by omega) (B a ha)).2 h)
 obtain ⟨l,l1,l2,l3,l4⟩:=cells_enough w1 B (val s d).toNat a b s d ha hb hF (by omega)
 cases l with
 |nil =>
  exfalso
  have e:a=b:=l2
  subst e
  apply hnr
  unfold NearF
  have e1:s=0:=l3.symm
  have e2:d=0:=l4.symm
  rw [hF,octS_self,octD_self,e1,e2]
 |cons c l =>
  obtain ⟨hd,hch⟩:=l2
  rcases l1 c (List.mem_cons_self ..) with hc|hc
  ·have hci:=cornC_in w1 hc
   have hs:=oct_small w1 w2 h1 h2 ha hci
   have hdir:=(dirF_of w1 (by omega) (by omega) (B a ha) (B c hci)).1 hd
   obtain ⟨k,p,q,k1,k2,k3,k4⟩:=chain_edges w1 w2 h1 h2 G B hb hc (fun y hy=>l1 y (List.mem_cons_of_mem _ hy)) hch
   refine ⟨c,k,p,q,hc,k1,hdir,k2,k3,?_⟩
   have hv:val (octS W a c+sumS W c l) (octD W a c+sumD W c l)=val s d:=by
    have e1:octS W a c+sumS W c l=s:=l3
    have e2:octD W a c+sumD W c l=d:=l4
    rw [e1,e2]
   rw [val_both] at hv
   unfold octV at *
   omega
  ·subst hc
   exact absurd hd.1 hnr
theorem Dir.walk (w1:1<=W){a b:Int}(hS:octS W a b<=1000)(hD:octD W a b<=1000)(h:Dir W H bl a b):Wk (Edge W H bl) a b (octS W a b) (octD W a b):=by
 obtain ⟨z,hz⟩:=h.1
 exact (hz.ends w1 hS hD).2.2
theorem Wk.app {E:Int->Nat->Int->Prop}{o a b s d t u:Int}(h:Wk E o a s d)(k:Wk E a b t u):Wk E o b (s+t) (d+u) :=
 k (fun x p q=>Wk E o x (s+p) (d+q)) (by rw [Int.add_zero,Int.add_zero];exact h) (fun x p q j y hx e=>by
  have:=hx.step e
  rwa [Int.add_assoc,Int.add_assoc] at this)
theorem GEs.walk {es:Nat->List LE}(w1:1<=W)(w2:W<=16)(h1:1<=H)(h2:H<=16)(G:GEs W H bl es){c k p q:Int}(hc:0<=c)(h:Wg (GrE es) c k p q):Wk (Edge W H bl) c k p q:=by
 have key:=h (fun x p q=>0<=x/\Wk (Edge W H bl) c x p q) ⟨hc,Wk.nil⟩ (fun x p q y t u ⟨h0,hx⟩ ⟨e,k1,k2,k3,k4⟩=>by
  obtain ⟨m1,m2,m3,m4,m5,m6,_⟩:=G.mem k1
  have i1:=cornC_in w1 (cornB_iff.1 m1)
  have i2:=cornC_in w1 (cornB_iff.1 m2)
  have hs:=oct_small w1 w2 h1 h2 i1 i2
  have hw:=m3.walk w1 (by omega) (by omega)
  rw [<- m5,<- m6] at hw
  have ex:((x.toNat:Nat):Int)=x:=by omega
  rw [ex] at hw
  subst k2 k3 k4
  exact ⟨by omega,hx.app hw⟩)
 exact key.2
end
end
end Go.Proofs.YtmaefimaeelkbaaGreatDoor
