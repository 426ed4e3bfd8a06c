/-
  Texts laid together: LvOpen, LvE, LvRM, LvRound.
-/
import Derived.Test.YtipbhlofbpnpjaaGreatDoorQ25
import Derived.WideKeyEntry
import Derived.Deep.RegionHeld3
namespace Go.Proofs.YtipbhlofbpnpjaaGreatDoor
section
open Go.RowKit Go.Maps Go.Sort Go.Shelf
def openL (L:List Nat) (st:LSt):List Nat:=L.filter (fun n=>st.lev n == 0)
theorem sort_some {base:Nat}{v:Value}{L l:List Nat}(w:World) (h:w.ownsRow base 3 1 v L.length (vals L)) (hl:l.length=L.length) (hs:(intsN L).mergeSort (fun x y=>decide (x<=y))=intsN l) (hlen:L.length<=256) :
  Calls Tryz.prog 138 #[v] w fun e w'=>e=.returned (.tuple #[])/\w'.ownsRow base 3 1 v l.length (vals l)/\w.grownBy w' v.ownBlock:=by
 by_cases hne:L=[]
 ·subst hne
  have e:l=[]:=List.length_eq_zero_iff.1 hl
  subst e
  obtain ⟨A,cap,rfl⟩:∃ A cap,v=.slice A 0 cap:=by
   rcases h.2 with ⟨rfl,_⟩ | ⟨g,cap,cur,rfl,_⟩
   ·exact ⟨_,_,rfl⟩
   ·exact ⟨_,_,rfl⟩
  refine (AnyM.slices_Sort_int_none Tryz.sortA A cap w).mono ?_
  rintro e w' ⟨rfl,rfl⟩
  exact ⟨rfl,h,⟨rfl,rfl,rfl,Nat.le_refl _,fun _ _ _=>rfl⟩⟩
 ·exact sort_row w h hne hl hs hlen
set_option maxHeartbeats 4000000 in
set_option maxRecDepth 1000000 in
theorem opens_any {N lb vb eb top:Nat}{L:List Nat}{st:LSt}{f:Int->Option Value}(w:World) (V:LvAt w N lb vb eb top L st f) (hr:L.Pairwise (· < ·)) :
  Calls Tryz.prog 125 #[.pointer (some ⟨lb,0,none⟩)] w fun e w'=>∃ v,e=.returned v/\w'.ownsRow w.heap.size 3 1 v (openL L st).length (vals (openL L st))/\Below w.heap.size w w':=by
 obtain ⟨i0,hi,hz0,hz1,hz2⟩:=info_parts Tryz.info3
 have c1:=V.c1
 have HOR:Hid ((openL L st).Pairwise (· < ·)):=hr.filter _
 have HOM:Hid (∀ n,n ∈ openL L st↔n ∈ L/\st.lev n=0):=fun n=>by
  unfold openL
  rw [List.mem_filter]
  simp
 have HLV:Hid (∀ (x:Int) (v:Value),lvF L st.lev x=some v->∃ n:Nat,x=(n:Int)/\n ∈ L/\v=.int .i64 (st.lev n:Int)):=fun x v h=>by
  unfold lvF at h
  by_cases hx:0<=x/\x.toNat ∈ L
  ·rw [if_pos hx] at h
   exact ⟨x.toNat,by omega,hx.2,(Option.some.inj h).symm⟩
  ·rw [if_neg hx] at h;cases h
 have HIS:Hid (∀ n:Nat,(lvF L st.lev (n:Int)).isSome=true↔n ∈ L):=fun n=>by
  unfold lvF
  by_cases hx:(0:Int)<=(n:Int)/\(n:Int).toNat ∈ L
  ·rw [if_pos hx];exact ⟨fun _=>by simpa using hx.2,fun _=>rfl⟩
  ·rw [if_neg hx];exact ⟨fun h=>(by cases h),fun h=>absurd ⟨by omega,by simpa using h⟩ hx⟩
 have hlen:=V.len
 have hvl:=V.lts.2.1
 have lvm:=V.lv
 have HBD:Hid (∀ n ∈ L,n < 256):=V.bd
 clear V hr
 go_enter Tryz.func125,Tryz.ntmps125
 go_wp2_with (first | (at_range;refine wpList_rangeF rfl _ 173 rfl 3 3 law3 Tryz.underV vb _ _ rfl lvm ?_;intro w3 hrg3 hg3 hs3) | go_in)
 have B3:Below w.heap.size w w3:=(Below.refl _ _).grown hg3 (Nat.le_refl _) (by simp)
 have hvr:vb≠w.heap.size:=by omega
 clear hg3 lvm
 go_frame
 go_loopg [3] L.length (fun gj ov wq=>∃ (left:Int->Bool) (cnt:Nat) (L':List Nat),gj=cnt/\RngF Tryz.prog 3 wq vb w.heap.size (lvF L st.lev) L.length left cnt/\wq.ownsRow w.heap.size 3 1 ov L'.length (vals L')/\Hid L'.Nodup/\Hid (∀ n:Nat,n ∈ L'↔(n ∈ L/\left n=false)/\st.lev n=0)/\Below w.heap.size w wq/\w.heap.size < wq.heap.size)
 case atStart =>
  refine ⟨_,_,[],rfl,hrg3,World.ownsRow_nil _ _ _ _,List.nodup_nil,fun n=>⟨fun h=>(by cases h),?_⟩,B3,by omega⟩
  rintro ⟨⟨h1,h2⟩,_⟩
  have:=(HIS.out n).2 h1
  rw [h2] at this;cases this
 case round =>
  clear hrg3 B3
  obtain ⟨left,cnt,L',hgj,hrg,hown,hnd,hLq,hBw,hrq⟩:=hrel
  have hbq:=hBw.size
  have hLL':L'.length<=256:=nodup_len 256 hnd.out (fun n hn=>HBD.out n ((hLq.out n).1 hn).1.1)
  go_wp2_with (first | (at_next;refine wpList_nextF rfl _ rfl 3 law3 vb w.heap.size _ _ _ _ rfl hrg ?_ ?_) | go_in)
  ·intro hc0 hl0
   obtain ⟨l,l1,l2,l3,l4⟩:=srt_ex L' hnd.out
   have el:l=openL L st:=rise_eq l1 HOR.out (fun n=>by
    rw [l2 n,hLq.out n,HOM.out n]
    exact ⟨fun h=>⟨h.1.1,h.2⟩,fun h=>⟨⟨h.1,hl0 n⟩,h.2⟩⟩)
   have hso:=sort_some wr hown l3 l4 hLL'
   rw [el] at hso
   have hbase:=fun q hq=>(hown.lt q hq).1
   clear hrg hown hnd hLq l1 l2 l3 l4 el hl0
   go_wp2_with fail
   refine hso.mono ?_
   rintro e w5 ⟨rfl,hown5,hg5⟩
   have B5:Below w.heap.size w w5:=hBw.grown hg5 hbq hbase
   clear hso hg5 hbase hBw
   go_wp2
   go_ret
   exact ⟨_,rfl,hown5,B5⟩
  ·intro x v w4 cnt1 hwx hlx hfx hrg1 hlt hg1 hs1 hen
   obtain ⟨n,hxn,hnL,rfl⟩:=HLV.out x v hfx
   subst hxn
   have hown4:=own_grown hown hg1 (own_rng hown hrg)
   have B4:Below w.heap.size w w4:=hBw.grown hg1 hbq (fun k e=>by cases e;omega)
   have hr4:w.heap.size < w4.heap.size:=by omega
   clear hs1
   by_cases h0:st.lev n=0
   ·have h0':((st.lev n:Nat):Int)=0:=by omega
    clear hrg hBw hown hg1
    have hz5:=B4.size
    go_wp2_with (at_builtin;refine wpList_append_own _ rfl _ _ 22 rfl w.heap.size 3 i0 (.int .i64 0) 1 8 Tryz.underlying22 hi hz0 hz1 hz2 rfl (by decide) _ _ _ rfl (hown4.alloc _) ⟨w4.heap.size,0,none⟩ 1 1 [.int .i64 (n:Int)] rfl rfl ?c1 ?c2 ?c3 ?c4 ?c5 ?_)
    case c1 =>
     intro j u hj
     match j,hj with
     | 0,hj =>
       simp at hj;subst hj;simp only [Addr.add]
       exact World.cell?_alloc_at (w:=w4) #[.int .i64 (n:Int)] 3 w4.heap.size 0 rfl
    case c2=>intro u hu;simp at hu;subst hu;rfl
    case c3=>unfold maxLen;omega
    case c4=>omega
    case c5=>simp;omega
    intro v' w6 hown' hgrow _
    have hbase:=fun q hq=>(hown4.lt q hq).1
    have B6:Below w.heap.size w w6:=(B4.alloc hz5 _).grown hgrow (by simp;omega) hbase
    have O6:w6.ownsRow w.heap.size 3 1 v' (L'++[n]).length (vals (L'++[n])):=by
     simpa [vals] using hown'
    have K6:Keep (fun k=>u3.ownBlock=some k) w4 w6:=((Keep.refl _ _).alloc _).grown hgrow (fun k hk _=>hk)
    have hrg6:=hrg1.keep K6 (fun h=>own_map hown4 hrg1.map _ h rfl) (fun h=>own_rng hown4 hrg1 _ h rfl)
    have hr6:w.heap.size < w6.heap.size:=Nat.lt_of_lt_of_le hr4 K6.size
    have HN:Hid (L'++[n]).Nodup:=by
     have hnm:n ∉ L':=fun hm=>by
      have:=((hLq.out n).1 hm).1.2
      rw [hlx] at this;cases this
     unfold Hid List.Nodup
     rw [List.pairwise_append]
     exact ⟨hnd.out,List.pairwise_singleton _ _,fun p hp q hq e=>by
      rw [List.mem_singleton] at hq
      rw [e,hq] at hp
      exact hnm hp⟩
    have HMM:Hid (∀ m:Nat,m ∈ L'++[n]↔(m ∈ L/\(left m&&!decide ((m:Int)=(n:Int)))=false)/\st.lev m=0):=fun m=>by
     rw [List.mem_append,List.mem_singleton,hLq.out m]
     by_cases e:m=n
     ·subst e
      simp [hnL,h0]
     ·have e':¬ (m:Int)=(n:Int):=by omega
      simp [e,e']
    clear hown' hgrow hown4 B4 K6 hrg1 hnd hLq
    go_wp2
    go_roundg cnt1
    case measure=>omega
    case rel=>exact ⟨_,cnt1,L'++[n],rfl,hrg6,O6,HN.out,HMM.out,B6,hr6⟩
   ·have h0':¬ ((st.lev n:Nat):Int)=0:=by omega
    have HMM:Hid (∀ m:Nat,m ∈ L'↔(m ∈ L/\(left m&&!decide ((m:Int)=(n:Int)))=false)/\st.lev m=0):=fun m=>by
     rw [hLq.out m]
     by_cases e:m=n
     ·subst e
      simp [h0]
     ·have e':¬ (m:Int)=(n:Int):=by omega
      simp [e']
    clear hrg hBw hown hg1 hLq
    go_wp2
    go_roundg cnt1
    case measure=>omega
    case rel=>exact ⟨_,cnt1,L',rfl,hrg1,hown4,hnd.out,HMM.out,B4,hr4⟩
end
section
open Go.RowKit Go.Maps Go.ChangeMaps Go.MapKept
theorem block_set (w:World) (b:Nat) (o:Obj) (k:Nat) (h:k≠b):(setBlock w b o).heap[k]? = w.heap[k]? := by
 unfold setBlock
 show (w.heap.setIfInBounds b o)[k]? = _
 rw [Array.getElem?_setIfInBounds_ne (by omega)]
theorem keep_set (w:World) (b:Nat) (o:Obj):Keep (fun k=>k=b) w (setBlock w b o) :=
 ⟨rfl,rfl,rfl,by unfold setBlock;simp,fun k _ h=>block_set w b o k h⟩
theorem MapF.entry {P:Program}{k e t:TypeId}{w:World}{b n:Nat}{f:Int->Option Value}(h:MapF P k w b f n) (hk:P.underlying k=some (.int .i64)) (ht:P.underlying t=some (.map k e)) {z:Value}(hz:(zeroValue e).run P w=.ok z w) (hn:n < maxLen) {a:Int}(ha:(Lit.int .i64 a).wf=true) (hf:(f a).isSome=true) (val:Value) :
  ∃ (v0:Value) (st:Nat) (w1 w2:World),(Instr.mapEntry t (.map (some b)) (.int .i64 a)).run P w=.ok (.tuple #[v0,goInt st]) w1/\Keep (fun k=>k=b) w w1/\(Instr.entryStore t (.map (some b)) (goInt st) val).run P w1=.ok () w2/\MapF P k w2 b (putF f a val) n/\Keep (fun k=>k=b) w w2:=by
 obtain ⟨w',hrun,hm,_⟩:=h.store hk ht hn ha val
 rw [hf] at hm
 have K:=int_keyed hk
 have hkey:=key_of hk ha
 obtain ⟨D,⟨es,clock,hb,F,h5,h6⟩,h7,h8⟩:=h
 have hbl:b < w.heap.size:=(Array.getElem?_eq_some_iff.1 hb).1
 obtain ⟨s1,s2,_⟩:=F.stamped
 rcases K.find w hkey es.toList F.keys with ⟨h1,h2⟩ | ⟨j,e0,h1,h2,h3⟩
 ·exfalso
  obtain ⟨v,hv⟩:=Option.isSome_iff_exists.1 hf
  have hl:=MapF.look_some ⟨D,⟨es,clock,hb,F,h5,h6⟩,h7,h8⟩ hk ht hz ha hv true
  simp [Instr.lookup,run_underlying ht,MapKept.run_getObj_map hb,K.check w es.isEmpty hkey,h1,hz,Result.andThen] at hl
 ·have hj:es[j]? = some e0:=by simpa using h2
  have hidx:es.findIdx? (fun e=>((e.born:Nat):Int) == ((e0.born:Nat):Int))=some j:=by
   rw [WideElems.findIdx_arr]
   exact WideElems.findIdx_born s2 h2
  have hsame:es.modify j (fun e=>{ e with key:=.int .i64 a })=es:=by
   apply Array.ext'
   rw [Array.toList_modify,modify_eq_set _ _ _ _ h2]
   have:({ e0 with key:=.int .i64 a }:MapEntry)=e0:=by rw [<- h3]
   rw [this]
   exact WideElems.set_self _ _ _ h2
  have hmod:es.modify j (fun e=>{ e with val:=val })=es.modify j (fun e'=>{ e' with key:=.int .i64 a,val:=val }):=by
   apply Array.ext'
   rw [Array.toList_modify,Array.toList_modify,modify_eq_set _ _ _ _ h2,modify_eq_set _ _ _ _ h2,<- h3]
  have hu:(Instr.mapUpdate t (.map (some b)) (.int .i64 a) val).run P w=.ok () (setBlock w b (.map (es.modify j (fun e'=>{ e' with key:=.int .i64 a,val:=val })) clock)):=by
   simp [Instr.mapUpdate,run_underlying ht,MapKept.run_getObj_map hb,K.check w false hkey,h1,hj,h3,K.stays w hkey,MapKept.run_setObj_map _ hb,Result.andThen,setBlock]
  rw [hrun] at hu
  cases hu
  have hb1:(setBlock w b (.map es clock)).heap[b]? = some (.map es clock):=by
   unfold setBlock
   show (w.heap.setIfInBounds b _)[b]? = _
   simp [hbl]
  have hrE:(Instr.mapEntry t (.map (some b)) (.int .i64 a)).run P w=.ok (.tuple #[e0.val,goInt e0.born]) (setBlock w b (.map es clock)):=by
   simp [Instr.mapEntry,run_underlying ht,MapKept.run_getObj_map hb,K.check w false hkey,h1,hj,h3,K.stays w hkey,hsame,MapKept.run_setObj_map _ hb,Result.andThen,setBlock]
  have K1:=keep_set w b (.map es clock)
  generalize setBlock w b (.map es clock)=W1 at *
  refine ⟨e0.val,e0.born,W1,setBlock W1 b (.map (es.modify j (fun e'=>{ e' with key:=.int .i64 a,val:=val })) clock),hrE,K1,?_,hm.kept ?_,K1.trans (keep_set _ _ _) (fun _ _ h=>h)⟩
  ·simp [Instr.entryStore,MapKept.run_getObj_map hb1,asInt,asIntOf,goInt,hidx,hmod,MapKept.run_setObj_map _ hb1,Result.andThen,setBlock]
  ·unfold setBlock
   show (W1.heap.setIfInBounds b _)[b]? = (w.heap.setIfInBounds b _)[b]?
   simp [hbl,(Array.getElem?_eq_some_iff.1 hb1).1]
end
section
open Go.RowKit Go.Maps
theorem Rnd.filter {t:Nat}(ht:0 < t) {q:Nat->Bool}:∀ {L:List Nat}{st st':LSt}{nr nr':Nat->Bool}{g:Bool},(∀ n ∈ L,q n=false->0 < st.lev n)->Rnd t (L.filter q) st nr st' nr' g->Rnd t L st nr st' nr' g
 | [],_,_,_,_,_,_,h=>h
 | n::L,st,st',nr,nr',g,hq,h=>by
   cases hn:q n with
   | true =>
     rw [List.filter_cons_of_pos hn] at h
     obtain ⟨st1,nr1,g1,g2,h1,h2,h3⟩:=h
     refine ⟨st1,nr1,g1,g2,h1,Rnd.filter ht (fun m hm hqm=>?_) h2,h3⟩
     have:=hq m (List.mem_cons_of_mem _ hm) hqm
     rcases h1.lev m with e | ⟨_,e⟩
     ·rw [e];exact this
     ·rw [e];exact ht
   | false =>
     rw [List.filter_cons_of_neg (by rw [hn];exact Bool.false_ne_true)] at h
     have h0:=hq n (List.mem_cons_self ..) hn
     exact ⟨st,nr,false,g,Or.inl ⟨Or.inl h0,rfl,rfl,rfl⟩,Rnd.filter ht (fun m hm hqm=>hq m (List.mem_cons_of_mem _ hm) hqm) h,(Bool.false_or g).symm⟩
theorem Rnd.lev {t:Nat}:∀ {L:List Nat}{st st':LSt}{nr nr':Nat->Bool}{g:Bool},Rnd t L st nr st' nr' g->∀ {n:Nat},n ∉ L->st'.lev n=st.lev n
 | [],_,_,_,_,_,⟨h,_⟩,_,_=>by rw [h]
 | m::L,_,_,_,_,_,⟨_,_,_,_,h1,h2,_⟩,n,hn=>by
   rw [Rnd.lev h2 (fun h=>hn (List.mem_cons_of_mem _ h))]
   rcases h1.lev n with e | ⟨e,_⟩
   ·exact e
   ·exact absurd (by rw [e];exact List.mem_cons_self ..) hn
def nS (nr:Nat->Bool):Int->Bool:=fun i=>decide (0<=i)&&nr i.toNat
theorem nS_at (nr:Nat->Bool) (n:Nat):nS nr (n:Int)=nr n:=by
 unfold nS
 rw [decide_eq_true (by omega),Int.toNat_natCast,Bool.true_and]
theorem nS_ins (nr:Nat->Bool) (t:Nat):insS (nS nr) (t:Int)=nS (fun k=>nr k || t == k):=by
 funext i
 unfold insS nS
 by_cases e:i=(t:Int)
 ·subst e
  rw [decide_eq_true rfl,decide_eq_true (by omega),Int.toNat_natCast]
  simp
 ·rw [decide_eq_false e,Bool.false_or]
  by_cases h0:0<=i
  ·rw [decide_eq_true h0]
   have:(t == i.toNat)=false:=by
    simp
    omega
   show (true&&nr i.toNat)=(true&&(nr i.toNat || t == i.toNat))
   rw [this,Bool.or_false]
  ·rw [decide_eq_false h0];rfl
theorem nS_no:nS (fun _=>false)=fun _=>false:=by
 funext i
 unfold nS
 simp
def LayOk (L:List Nat) (es:Nat->List LE):Prop:=∀ a,Rsg (es a)/\∀ e ∈ es a,e.to ∈ L
theorem LayOk.put {L:List Nat}{es:Nat->List LE}(h:LayOk L es) {a:Nat}{x:LE}(hx:x.to ∈ L):LayOk L (putE es a (layF x (es a))):=fun k=>by
 by_cases e:k=a
 ·subst e
  rw [putE_at]
  refine ⟨layF_ord (h k).1,fun y hy=>?_⟩
  rcases (layF_mem (h k).1 y).1 hy with rfl | ⟨h1,_⟩
  ·exact hx
  ·exact (h k).2 y h1
 ·rw [putE_off _ e];exact h k
theorem LayOk.len {L:List Nat}{es:Nat->List LE}(h:LayOk L es) (hb:∀ n ∈ L,n < 256) (a:Nat):(es a).length<=256:=by
 have h1:((es a).map (·.to)).Nodup:=by
  unfold List.Nodup
  rw [List.pairwise_map]
  exact (h a).1.imp (fun h=>Nat.ne_of_lt h)
 have:=nodup_len 256 h1 (fun n hn=>by
  obtain ⟨e,he,rfl⟩:=List.mem_map.1 hn
  exact hb _ ((h a).2 e he))
 simpa using this
theorem layAll_step {es:Nat->List LE}{l:List (Nat × LE)}{j:Nat}{x:Nat × LE}(h:l[j]? = some x):layAll es (l.take (j+1))=lay2 (layAll es (l.take j)) x:=by
 unfold layAll
 rw [List.take_add_one,h,List.foldl_append]
 rfl
theorem moreF_ends {p:LE->LE->Bool}{n:Nat}:∀ {l:List LE}{x:Nat × LE},x ∈ moreF p n l->(∃ a ∈ l,x.1=a.to)/\(∃ b ∈ l,x.2.to=b.to)/\x.2.mid=(n:Int)
 | [],_,h=>by cases h
 | a::l,x,h=>by
   rcases List.mem_append.1 h with h | h
   ·obtain ⟨b,hb,rfl⟩:=List.mem_map.1 h
    exact ⟨⟨a,List.mem_cons_self ..,rfl⟩,⟨b,List.mem_cons_of_mem _ (List.mem_filter.1 hb).1,rfl⟩,rfl⟩
   ·obtain ⟨⟨a',h1,h2⟩,⟨b',h3,h4⟩,h5⟩:=moreF_ends h
    exact ⟨⟨a',List.mem_cons_of_mem _ h1,h2⟩,⟨b',List.mem_cons_of_mem _ h3,h4⟩,h5⟩
theorem lksV_at:∀ (l:List (Nat × LE)) (i:Nat) (x:Nat × LE),l[i]? = some x->(lksV l)[i*4]? = some (.int .i64 (x.1:Int))/\(lksV l)[i*4+1]? = some (.int .i64 (x.2.to:Int))/\(lksV l)[i*4+2]? = some (.int .i64 x.2.s)/\(lksV l)[i*4+3]? = some (.int .i64 x.2.d)
 | [],i,e,h=>by simp at h
 | x::l,0,e,h=>by
   simp at h;subst h
   exact ⟨rfl,rfl,rfl,rfl⟩
 | x::l,i+1,e,h=>by
   have ih:=lksV_at l i e (by simpa using h)
   have hl:(lkV x).length=4:=rfl
   have key:∀ k,(lksV (x::l))[(i+1)*4+k]? = (lksV l)[i*4+k]? := fun k=>by
    show (lkV x++lksV l)[(i+1)*4+k]? = _
    rw [List.getElem?_append_right (by rw [hl];omega),hl]
    congr 1;omega
   exact ⟨(key 0).trans ih.1,(key 1).trans ih.2.1,(key 2).trans ih.2.2.1,(key 3).trans ih.2.2.2⟩
section
variable {w w' : World} {N lb vb eb top : Nat} {L : List Nat} {st : LSt} {f : Int → Option Value}
theorem LvAt.blt (V:LvAt w N lb vb eb top L st f) {g:Nat}(h:LvB lb vb eb f g):g < w.heap.size:=by
 rcases h with rfl | rfl | rfl | ⟨i,v,h1,h2⟩
 ·exact V.lts.1
 ·exact V.lts.2.1
 ·exact V.lts.2.2
 ·obtain ⟨i1,i2⟩:=V.no i v h1
  obtain ⟨v2,e1,e2⟩:=V.row i.toNat i2
  rw [Int.toNat_of_nonneg i1,h1] at e1;cases e1
  exact (e2.lt g h2).2
theorem LvAt.level (V:LvAt w N lb vb eb top L st f) {n t:Nat}(hn:n ∈ L) (K:Keep (fun k=>k=vb) w w') (hm:MapF Tryz.prog 3 w' vb (putF (lvF L st.lev) (n:Int) (.int .i64 (t:Int))) L.length):LvAt w' N lb vb eb top L ⟨fun k=>if k=n then t else st.lev k,st.es⟩ f:=by
 rw [lvF_put hn] at hm
 have n1:=V.nes.1
 refine ⟨K.cellOf V.c0 n1,K.cellOf V.c1 n1,K.cellOf V.c2 n1,(K.frozen (p:=⟨lb,0,none⟩) V.lts.1 n1).trans V.fz,hm,V.em.keep K (fun e=>V.ne e.symm),fun m hm=>?_,V.no,V.apart,V.off,V.nb,V.ne,V.bd,V.len⟩
 obtain ⟨v,e1,e2⟩:=V.row m hm
 exact ⟨v,e1,own_keep e2 K (own_map e2 V.lv)⟩
end
theorem Tryz.underN:Tryz.prog.underlying 133=some (.map 3 185):=by kernel_rfl
theorem zeroN (w:World):(zeroValue 185).run Tryz.prog w=.ok (.agg #[]) w:=by kernel_rfl
set_option maxHeartbeats 400000 in
theorem needed_none {lb:Nat}(w:World) (n:Int):Calls Tryz.prog 164 #[.pointer (some ⟨lb,0,none⟩),.int .i64 n,.slice none 0 0] w fun e w'=>e=.returned (.slice none 0 0)/\w'=w:=by
 go_enter Tryz.func164,Tryz.ntmps164
 go_wp2
 go_loopw [7,19] (fun rv iv wr=>rv=.slice none 0 0/\iv=.int .i64 0/\wr=w) (fun _ _ _=>0)
 case atStart=>exact ⟨rfl,rfl,rfl⟩
 case round =>
  obtain ⟨rfl,rfl,rfl⟩:=hrel
  go_wp2
  go_ret
  exact ⟨rfl,rfl⟩
theorem needed_all {N lb vb eb top n cap:Nat}{A:Option Addr}{L:List Nat}{st:LSt}{f:Int->Option Value}{l:List LE}{p:LE->LE->Bool}{base:Nat}(w:World) (V:LvAt w N lb vb eb top L st f) (O:Okl L 512 st) (hown:w.ownsRow base 207 4 (.slice A l.length cap) l.length (lesV l)) (hl:l.length<=256) (hin:∀ e ∈ l,e ∈ st.es n) (hp:∀ a b,p a b=true↔Need st n a b) :
  Calls Tryz.prog 164 #[.pointer (some ⟨lb,0,none⟩),.int .i64 (n:Int),.slice A l.length cap] w fun e w'=>∃ v,e=.returned v/\w'.ownsRow w.heap.size 236 4 v (moreF p n l).length (lksV (moreF p n l))/\Below w.heap.size w w':=by
 obtain ⟨A',cap',hv,row,h⟩:=rowL_of hown
 cases hv
 rcases h with ⟨rfl,rfl⟩ | ⟨g,rfl,_⟩
 ·rcases hown.2 with ⟨h,_⟩ | ⟨g,c,cur,h,_⟩
  ·cases h
   refine (needed_none w (n:Int)).mono ?_
   rintro e w' ⟨rfl,rfl⟩
   exact ⟨_,rfl,World.ownsRow_nil _ _ _ _,Below.refl _ _⟩
  ·cases h
 ·rcases hown.2 with ⟨h,_⟩ | ⟨g',c,cur,h,_,_,h1,h2,_⟩
  ·cases h
  ·cases h
   exact needed_any w V O row hl h1 h2 hin hp
end
section
open Go.RowKit Go.Maps
structure RSt (w wr:World) (N lb vb eb t:Nat) (L M:List Nat) (vM:Value) (f f':Int->Option Value) (st':LSt) (nr:Nat->Bool):Prop where
 lv:LvAt wr N lb vb eb t L st' f'
 bx:wr.cell? ⟨w.heap.size,0,none⟩=some (.pointer (some ⟨lb,0,none⟩))
 sk:SetAt wr (w.heap.size+1) (nS nr)
 rw:wr.ownsRow (w.heap.size+2) 3 1 vM M.length (vals M)
 off:∀ g,LvB lb vb eb f' g->g≠w.heap.size/\g≠w.heap.size+1/\vM.ownBlock≠some g
 new:∀ g,LvB lb vb eb f' g->LvB lb vb eb f g\/w.heap.size<=g
 kp:Keep (LvB lb vb eb f) w wr
section
variable {w wr wq : World} {N lb vb eb t : Nat} {L M : List Nat} {vM : Value} {f f' : Int → Option Value} {st' st2 : LSt} {nr : Nat → Bool}
theorem RSt.below (R:RSt w wr N lb vb eb t L M vM f f' st' nr) (hb:Below wr.heap.size wr wq):RSt w wq N lb vb eb t L M vM f f' st' nr :=
 ⟨R.lv.below hb,(hb.cell (World.block_lt_of_cell? _ _ R.bx)).trans R.bx,R.sk.below hb,own_below R.rw hb,R.off,R.new,R.kp.below hb⟩
theorem RSt.turn (R:RSt w wr N lb vb eb t L M vM f f' st' nr) {f2:Int->Option Value}(V:LvAt wq N lb vb eb t L st2 f2) (K:Keep (LvB lb vb eb f') wr wq) (hn:∀ g,LvB lb vb eb f2 g->LvB lb vb eb f' g\/wr.heap.size<=g):RSt w wq N lb vb eb t L M vM f f2 st2 nr:=by
 have hx:w.heap.size < wr.heap.size:=World.block_lt_of_cell? _ _ R.bx
 have hy:=R.sk.lt
 refine ⟨V,K.cellOf R.bx (fun h=>(R.off _ h).1 rfl),R.sk.kept (K.block _ hy (fun h=>(R.off _ h).2.1 rfl)),own_keep R.rw K (fun g hg h=>(R.off g h).2.2 hg),fun g hg=>?_,fun g hg=>?_,R.kp.trans K (fun i hi h=>(R.new i h).elim id (fun h=>by omega))⟩
 ·rcases hn g hg with h | h
  ·exact R.off g h
  ·refine ⟨by omega,by omega,fun h2=>?_⟩
   have:=(R.rw.lt g h2).2;omega
 ·rcases hn g hg with h | h
  ·exact R.new g h
  ·exact Or.inr (by omega)
theorem RSt.skip (R:RSt w wr N lb vb eb t L M vM f f' st' nr) {nr':Nat->Bool}(K:Keep (fun k=>k=w.heap.size+1) wr wq) (hs:SetAt wq (w.heap.size+1) (nS nr')):RSt w wq N lb vb eb t L M vM f f' st' nr':=by
 refine ⟨R.lv.keep K (fun g hg=>(R.off g hg).2.1),K.cellOf R.bx (by show ¬ w.heap.size=_;omega),hs,own_keep R.rw K (own_map R.rw R.sk.mp),R.off,R.new,R.kp.trans K (fun i hi e=>by omega)⟩
end
set_option maxHeartbeats 8000000 in
set_option maxRecDepth 1000000 in
theorem round_any {N lb vb eb t:Nat}{L:List Nat}{st:LSt}{f:Int->Option Value}{K:Int}(w:World) (V:LvAt w N lb vb eb t L st f) (hr:L.Pairwise (· < ·)) (hA:All L t K st (fun _=>false)) (hK0:0<=K) (hK:K<=256) (ht:0 < t) :
  Calls Tryz.prog 124 #[.pointer (some ⟨lb,0,none⟩)] w fun e w'=>∃ st' nr' got f',e=.returned (.bool got)/\Rnd t L st (fun _=>false) st' nr' got/\LvAt w' N lb vb eb t L st' f'/\(∀ g,LvB lb vb eb f' g->LvB lb vb eb f g\/w.heap.size<=g)/\Keep (LvB lb vb eb f) w w':=by
 have hmm:=@run_makeMap Tryz.prog
 obtain ⟨W0,hW0⟩:∃ W0,W0=(w.alloc (.cells #[.pointer (some ⟨lb,0,none⟩)] 92)).alloc (.map #[] 0):=⟨_,rfl⟩
 have BW:Below w.heap.size w W0:=by
  rw [hW0]
  exact ((Below.refl _ _).alloc (Nat.le_refl _) _).alloc (by simp) _
 have hz0:W0.heap.size=w.heap.size+2:=by rw [hW0];simp
 have k0:W0.cell? ⟨w.heap.size,0,none⟩=some (.pointer (some ⟨lb,0,none⟩)):=by
  rw [hW0]
  exact Lib.cell?_alloc_some _ (World.cell?_alloc_at _ _ _ 0 rfl)
 have k1:SetAt W0 (w.heap.size+1) (nS fun _=>false):=by
  have q:=SetAt.made (w.alloc (.cells #[.pointer (some ⟨lb,0,none⟩)] 92))
  have e:(w.alloc (.cells #[.pointer (some ⟨lb,0,none⟩)] 92)).heap.size=w.heap.size+1:=by simp
  rw [e] at q
  rw [hW0,nS_no];exact q
 have V0:=V.below BW
 have hop:=opens_any W0 V0 hr
 have HM:Hid (openL L st=L.filter (fun n=>st.lev n == 0)):=rfl
 have HMR:Hid ((openL L st).Pairwise (· < ·)):=hr.filter _
 have HMM:Hid (∀ n,n ∈ openL L st↔n ∈ L/\st.lev n=0):=fun n=>by
  unfold openL
  rw [List.mem_filter]
  simp
 have hlen:=V.len
 have HBD:Hid (∀ n ∈ L,n < 256):=V.bd
 have hblt:=fun g (h:LvB lb vb eb f g)=>V.blt h
 have HBLT:Hid _:=hblt
 clear hblt
 have hML:(openL L st).length<=256:=Nat.le_trans (List.length_filter_le _ _) hlen
 go_enter Tryz.func124,Tryz.ntmps124
 go_wp2_with fail
 rw [<- hW0]
 refine hop.mono ?_
 rintro e w1 ⟨vM,rfl,hown1,hb1⟩
 rw [hz0] at hown1
 generalize hMM:openL L st=M at *
 clear hMM
 have RS:RSt w w1 N lb vb eb t L M vM f f st (fun _=>false):=by
  refine ⟨V0.below hb1,(hb1.cell (World.block_lt_of_cell? _ _ k0)).trans k0,k1.below hb1,hown1,fun g hg=>?_,fun g hg=>Or.inl hg,(Keep.of_below BW).below hb1⟩
  have h1:=HBLT.out g hg
  refine ⟨by omega,by omega,fun h=>?_⟩
  have:=(hown1.lt g h).1;omega
 obtain ⟨AM,capM,rfl,_⟩:=row_of hown1
 clear hop hb1 k0 k1 V0 BW hW0 hown1 hz0
 go_wp2
 go_loopw [4,19] (fun gv iv wr=>∃ (k:Nat) (st':LSt) (nr:Nat->Bool) (f':Int->Option Value) (got:Bool),k<=M.length/\iv=.int .i64 k/\gv=.bool got/\RSt w wr N lb vb eb t L M (.slice AM M.length capM) f f' st' nr/\Hid (Rnd t (M.take k) st (fun _=>false) st' nr got)/\Hid (All L t K st' nr)/\Hid (∀ n,nr n=true->n ∈ L))
  (fun _ i _=>M.length - (intOf i).toNat)
 case atStart=>exact ⟨0,st,fun _=>false,f,false,Nat.zero_le _,rfl,rfl,RS,⟨rfl,rfl,rfl⟩,hA,fun n h=>(by cases h)⟩
 case round =>
  clear RS
  obtain ⟨k,st',nr,f',got,hk,rfl,rfl,RS,HR,HA,HNL⟩:=hrel
  by_cases hlt:k < M.length
  ·obtain ⟨g0,hA0⟩:∃ g0,AM=some ⟨g0,0,none⟩:=by
    rcases RS.rw.2 with ⟨_,h0⟩ | ⟨g0,_,_,hv,_⟩
    ·omega
    ·exact ⟨g0,by cases hv;rfl⟩
   subst hA0
   have hcell:=own_int RS.rw k hlt
   obtain ⟨n,hn⟩:∃ n,M[k]? = some n:=⟨M[k],List.getElem?_eq_getElem hlt⟩
   have hnk:M.getD k 0=n:=by
    rw [List.getD_eq_getElem?_getD,hn];rfl
   rw [hnk] at hcell
   clear hnk
   have hnM:=List.mem_of_getElem? hn
   obtain ⟨hnL,hn0⟩:=(HMM.out n).1 hnM
   have hnb:=HBD.out n hnL
   have hwn:=wf_small (a:=(n:Int)) (by omega) (by omega)
   have HTK:Hid (M.take (k+1)=M.take k++[n]):=by
    rw [List.take_add_one,hn];rfl
   have HL0:Hid (st'.lev n=0):=by
    refine (HR.out.lev (fun hm=>?_)).trans hn0
    obtain ⟨i,hi,h⟩:=List.getElem_of_mem hm
    have hik:i < k:=by rw [List.length_take] at hi;omega
    have h2:M[i]? = some n:=by
     rw [List.getElem_take] at h
     rw [List.getElem?_eq_getElem (by omega),h]
    have h3:=List.pairwise_iff_getElem.1 HMR.out i k (by omega) hlt hik
    rw [List.getElem?_eq_getElem hlt] at hn
    rw [List.getElem?_eq_getElem (by omega)] at h2
    have e1:=Option.some.inj hn
    have e2:=Option.some.inj h2
    omega
   have i1:(0:Int)<=(k:Int):=by omega
   have i2:(k:Int) < (M.length:Int):=by omega
   have b2:Below wr.heap.size wr (wr.alloc (.cells #[] 185)):=(Below.refl _ _).alloc (Nat.le_refl _) _
   have RS2:=RS.below b2
   have hz2:wr.heap.size<=(wr.alloc (.cells #[] 185)).heap.size:=b2.size
   clear hn hnM hn0 b2
   cases hnr:nr n with
   | true =>
     have hlk:(Instr.lookup 133 (.map (some (w.heap.size+1))) (.int .i64 (n:Int)) true).run Tryz.prog wr=.ok (.tuple #[.agg #[],.bool true]) wr:=RS.sk.mp.look_some law3 Tryz.underN (zeroN _) hwn (setF_some (by rw [nS_at];exact hnr)) true
     have HR2:Hid (Rnd t (M.take (k+1)) st (fun _=>false) st' nr got):=by
      rw [HTK.out]
      have h1:=HR.out.snoc (n:=n) (st2:=st') (nr2:=nr) (g2:=false) (Or.inl ⟨Or.inr hnr,rfl,rfl,rfl⟩)
      rw [Bool.or_false] at h1
      exact h1
     clear HR HL0 HTK hnr RS
     go_wp2
     go_roundw
     case rel=>exact ⟨k+1,st',nr,f',got,by omega,by go_num,rfl,RS2,HR2.out,HA.out,HNL.out⟩
     case measure=>simp [intOf];omega
   | false =>
     have hlk:(Instr.lookup 133 (.map (some (w.heap.size+1))) (.int .i64 (n:Int)) true).run Tryz.prog wr=.ok (.tuple #[.agg #[],.bool false]) wr:=RS.sk.mp.look_none law3 Tryz.underN (zeroN _) hwn (setF_none (by rw [nS_at];exact hnr)) true
     have O:Okl L 512 st':=⟨HA.out.lin.esy,HA.out.cor,fun he=>by
      obtain ⟨p1,p2⟩:=HA.out.bdd.pos he
      obtain ⟨p3,p4⟩:=HA.out.bdd.new he
      exact ⟨p1,p2,by omega,by omega⟩⟩
     obtain ⟨p,hp⟩:∃ p:LE->LE->Bool,∀ a b,p a b=true↔Need st' n a b:=⟨fun a b=>@decide (Need st' n a b) (Classical.propDecidable _),fun a b=>@decide_eq_true_iff _ (Classical.propDecidable _)⟩
     have HP:Hid (∀ a b,p a b=true↔Need st' n a b):=hp
     have V2:=RS2.lv
     obtain ⟨A,cap,hl2,row2,_⟩:=V2.edges hnL
     have c2:=V2.c2
     have bx2:=RS2.bx
     have hfind:=find_open (xb:=w.heap.size) (cap:=cap) (p:=fun e=>st'.lev e.to == 0) (wr.alloc (.cells #[] 185)) row2 (O.len HBD.out n) (fun w' e hB' he=>clo_open w' (V2.below hB') ((hB'.cell (World.block_lt_of_cell? _ _ bx2)).trans bx2) e (O.cor.ends he).2)
     have hnot:¬ (0 < st'.lev n\/nr n=true):=fun h=>by
      rcases h with h | h
      ·rw [HL0.out] at h;exact Nat.lt_irrefl _ h
      ·rw [hnr] at h;cases h
     have HNOT:Hid _:=hnot
     have HFE:Hid (feF st' n=(st'.es n).filter (fun e=>st'.lev e.to == 0)):=rfl
     have HIN:Hid (∀ e ∈ (st'.es n).filter (fun e=>st'.lev e.to == 0),e ∈ st'.es n):=fun e he=>(List.mem_filter.1 he).1
     have hfl:((st'.es n).filter (fun e=>st'.lev e.to == 0)).length<=256:=Nat.le_trans (List.length_filter_le _ _) (O.len HBD.out n)
     clear hnr hp hnot V2 row2
     generalize (st'.es n).filter (fun e=>st'.lev e.to == 0)=l at *
     go_wp2_with fail
     refine hfind.mono ?_
     rintro e w3 ⟨v3,rfl,own3,hb3⟩
     obtain ⟨A3,cap3,rfl,row3,hA3⟩:=rowL_of own3
     have RS3:=RS2.below hb3
     have bx3:=RS3.bx
     have hneed:=needed_all w3 RS3.lv O own3 hfl HIN.out HP.out
     clear hfind RS2 hl2 c2 bx2 hlk RS hA3
     go_wp2_with fail
     refine hneed.mono ?_
     rintro e w4 ⟨v4,rfl,own4,hb4⟩
     obtain ⟨A4,cap4,hv4⟩:∃ A4 cap4,v4=.slice A4 (moreF p n l).length cap4:=by
      rcases own4.2 with ⟨h,h0⟩ | ⟨g,c,cur,h,_⟩
      ·exact ⟨none,0,by rw [h,h0]⟩
      ·exact ⟨_,_,h⟩
     subst hv4
     have RS4:=RS3.below hb4
     have row4:=row3.below hb4
     have own34:=own_below own3 hb4
     have HE:Hid (∀ x ∈ moreF p n l,(∃ a ∈ l,x.1=a.to)/\(∃ b ∈ l,x.2.to=b.to)/\x.2.mid=(n:Int)):=fun x hx=>moreF_ends hx
     have HQ:Hid (moreF p n l=moreF p n (feF st' n)):=by unfold Hid;rw [HFE.out]
     have hQl:(moreF p n l).length<=256*256:=by
      rw [<- mTo_all]
      exact Nat.le_trans (mTo_len p n l l.length) (Nat.mul_le_mul hfl hfl)
     have h34:w3.heap.size<=w4.heap.size:=hb4.size
     have hv4lt:=fun q (hq:(Value.slice A4 (moreF p n l).length cap4).ownBlock=some q)=>own4.lt q hq
     have HB3:Hid (∀ g,LvB lb vb eb f' g->g < w3.heap.size):=fun g hg=>RS3.lv.blt hg
     clear hneed RS3 own3 row3 bx3 hb4
     generalize moreF p n l=Q at *
     by_cases hgt:l.length < Q.length
     ·have hgt':(l.length:Int) < (Q.length:Int):=by omega
      have HR2:Hid (Rnd t (M.take (k+1)) st (fun _=>false) st' nr got):=by
       rw [HTK.out]
       have h1:=HR.out.snoc (n:=n) (st2:=st') (nr2:=nr) (g2:=false) (Or.inr ⟨HNOT.out,p,HP.out,Or.inl ⟨by rw [<- HQ.out,HFE.out];exact hgt,rfl,rfl,rfl⟩⟩)
       rw [Bool.or_false] at h1
       exact h1
      clear HR HL0 HTK HNOT HP HE HQ HFE HIN own4 own34 row4
      go_wp2
      go_roundw
      case rel=>exact ⟨k+1,st',nr,f',got,by omega,by go_num,rfl,RS4,HR2.out,HA.out,HNL.out⟩
      case measure=>simp [intOf];omega
     ·have hgt':¬ (l.length:Int) < (Q.length:Int):=by omega
      have bD:Below w4.heap.size w4 w4.drew:=(Below.refl _ _).drew
      have RSD:=RS4.below bD
      have his:(lvF L st'.lev (n:Int)).isSome=true:=by rw [lvF_in hnL];rfl
      obtain ⟨v0,stp,W5,W6,hrE,KE,hrS,hmS,KS⟩:=RSD.lv.lv.entry law3 Tryz.underV (zero3 _) (by have:=RSD.lv.len;unfold maxLen;omega) hwn his (.int .i64 (t:Int))
      have hrS':(Instr.entryStore 173 (.map (some vb)) (.int .i64 (stp:Int)) (.int .i64 (t:Int))).run Tryz.prog W5=.ok () W6:=hrS
      clear hrS
      have r0:=RSD.bx
      have r1:=RSD.lv.c0
      have r2:=RSD.lv.c1
      have hXv:w.heap.size≠vb:=fun h=>(RSD.off vb (Or.inr (Or.inl rfl))).1 h.symm
      have hLv:=RSD.lv.nes.1
      have s0:=KE.cellOf r0 hXv
      have s1:=KE.cellOf r1 hLv
      have s2:=KE.cellOf r2 hLv
      have u0:=KS.cellOf r0 hXv
      have u1:=KS.cellOf r1 hLv
      have u2:=KS.cellOf r2 hLv
      go_wp2_with fail
      go_region_held3 (fun w'=>w'.cell? ⟨w.heap.size,0,none⟩=some (.pointer (some ⟨lb,0,none⟩))/\w'.cell? ⟨lb,0,none⟩=some (.int .i64 (t:Int))/\w'.cell? ⟨lb,1,none⟩=some (.map (some vb))) (first | (exact ⟨r0,r1,r2⟩) | (exact ⟨s0,s1,s2⟩) | (exact ⟨u0,u1,u2⟩)) (first | (fail))
      have V6:=RSD.lv.level hnL KS hmS
      have RS6:=RSD.turn V6 (KS.mono (fun _ _ h=>Or.inr (Or.inl h))) (fun g hg=>Or.inl hg)
      have own6:W6.ownsRow 0 207 4 (.slice A3 l.length cap3) l.length (lesV l):=own_keep (own_base (own_below own34 bD) (Nat.zero_le _)) KS (own_map (own_below own34 bD) RSD.lv.lv)
      have lks6:W6.ownsRow w3.heap.size 236 4 (.slice A4 Q.length cap4) Q.length (lksV Q):=own_keep (own_below own4 bD) KS (own_map (own_below own4 bD) RSD.lv.lv)
      have HO4:Hid (∀ g,LvB lb vb eb f' g->(Value.slice A4 Q.length cap4).ownBlock≠some g):=fun g hg h=>by
       have h1:=HB3.out g hg
       have h2:=(hv4lt g h).1
       omega
      have HLO:Hid (LayOk L st'.es):=fun a=>⟨HA.out.lin.esy.ord a,fun e he=>(HA.out.cor.ends he).2⟩
      have HTO:Hid (∀ e ∈ l,e.to ∈ L):=fun e he=>(HA.out.cor.ends (HIN.out e he)).2
      clear RSD RS4 bD hrE KE hrS' hmS KS r0 r1 r2 s0 s1 s2 u0 u1 u2 own4 own34 row4 V6 his
      go_wp2
      go_loopw [60] (fun iv wr=>∃ j:Nat,j<=l.length/\iv=.int .i64 j/\RSt w wr N lb vb eb t L M (.slice (some ⟨g0,0,none⟩) M.length capM) f f' ⟨fun k=>if k=n then t else st'.lev k,st'.es⟩ (fun k=>nr k || (l.take j).any (fun e=>e.to == k))/\wr.ownsRow 0 207 4 (.slice A3 l.length cap3) l.length (lesV l)/\wr.ownsRow w3.heap.size 236 4 (.slice A4 Q.length cap4) Q.length (lksV Q))
       (fun i _=>l.length - (intOf i).toNat)
      case atStart =>
       refine ⟨0,Nat.zero_le _,rfl,?_,own6,lks6⟩
       have e:(fun k=>nr k || (l.take 0).any (fun e=>e.to == k))=nr:=by
        funext k
        simp
       rw [e];exact RS6
      case round =>
       clear RS6 own6 lks6
       obtain ⟨j,hj,rfl,RS6,own6,lks6⟩:=hrel
       by_cases hlt2:j < l.length
       ·obtain ⟨e,he⟩:∃ e,l[j]? = some e:=⟨l[j],List.getElem?_eq_getElem hlt2⟩
        obtain ⟨A',c',hv',row6,_⟩:=rowL_of own6
        cases hv'
        obtain ⟨b,o,rfl,q1,q2,q3,q4⟩:=row6 j e he
        have heL:=HTO.out e (List.mem_of_getElem? he)
        have heb:=HBD.out _ heL
        have hwe:=wf_small (a:=(e.to:Int)) (by omega) (by omega)
        have j1:(0:Int)<=(j:Int):=by omega
        have j2:(j:Int) < (l.length:Int):=by omega
        have b7:Below wr.heap.size wr (wr.alloc (.cells #[.int .i64 (e.to:Int),.int .i64 e.s,.int .i64 e.d,.int .i64 e.mid] 207)):=(Below.refl _ _).alloc (Nat.le_refl _) _
        have RS7:=RS6.below b7
        have own7:=own_below own6 b7
        have lks7:=own_below lks6 b7
        obtain ⟨w8,hrun8,hm8,ht8⟩:=RS7.sk.mp.store law3 Tryz.underN RS7.sk.room hwe (.agg #[])
        have sk8:=RS7.sk.put (by omega) (by omega) hm8
        rw [nS_ins] at sk8
        have RS8:=RS7.skip (turned_keep ht8) sk8
        have own8:=own_keep own7 (turned_keep ht8) (own_map own7 RS7.sk.mp)
        have lks8:=own_keep lks7 (turned_keep ht8) (own_map lks7 RS7.sk.mp)
        have HNR:Hid ((fun k=>(nr k || (l.take j).any (fun e=>e.to == k)) || e.to == k)=fun k=>nr k || (l.take (j+1)).any (fun e=>e.to == k)):=by
         unfold Hid
         funext k
         rw [List.take_add_one,he,List.any_append,Bool.or_assoc]
         simp
        clear RS6 RS7 own6 own7 lks6 lks7 hm8 ht8 sk8 b7 row6 he
        generalize (e.to:Int)=et at *
        generalize e.s=es at *
        generalize e.d=ed at *
        generalize e.mid=em at *
        go_wp2
        go_roundw
        case rel=>exact ⟨j+1,by omega,by go_num,by rw [<- HNR.out];exact RS8,own8,lks8⟩
        case measure=>simp [intOf];omega
       ·have e:j=l.length:=by omega
        subst e
        have RS7:RSt w wr N lb vb eb t L M (.slice (some ⟨g0,0,none⟩) M.length capM) f f' ⟨fun k=>if k=n then t else st'.lev k,st'.es⟩ (fun k=>nr k || l.any (fun e=>e.to == k)):=by
         have:=RS6
         rw [List.take_length] at this
         exact this
        clear RS6 own6
        go_wp2
        go_loopw [71] (fun iv wr=>∃ (j:Nat) (f2:Int->Option Value),j<=Q.length/\iv=.int .i64 j/\RSt w wr N lb vb eb t L M (.slice (some ⟨g0,0,none⟩) M.length capM) f f2 ⟨fun k=>if k=n then t else st'.lev k,layAll st'.es (Q.take j)⟩ (fun k=>nr k || l.any (fun e=>e.to == k))/\wr.ownsRow w3.heap.size 236 4 (.slice A4 Q.length cap4) Q.length (lksV Q)/\Hid (∀ g,LvB lb vb eb f2 g->(Value.slice A4 Q.length cap4).ownBlock≠some g)/\Hid (LayOk L (layAll st'.es (Q.take j))))
         (fun i _=>Q.length - (intOf i).toNat)
        case atStart=>exact ⟨0,f',Nat.zero_le _,rfl,RS7,lks6,HO4,HLO⟩
        case round =>
         clear RS7 lks6 HO4
         obtain ⟨j,f2,hj,rfl,RS7,lks6,HO4,HLJ⟩:=hrel
         by_cases hlt3:j < Q.length
         ·obtain ⟨x,hx⟩:∃ x,Q[j]? = some x:=⟨Q[j],List.getElem?_eq_getElem hlt3⟩
          obtain ⟨⟨a,haL,hx1⟩,⟨b,hbL,hx2⟩,hxm⟩:=HE.out x (List.mem_of_getElem? hx)
          have h1L:x.1 ∈ L:=by rw [hx1];exact HTO.out a haL
          have h2L:x.2.to ∈ L:=by rw [hx2];exact HTO.out b hbL
          obtain ⟨g4,rfl⟩:∃ g4,A4=some ⟨g4,0,none⟩:=by
           rcases lks6.2 with ⟨_,h0⟩ | ⟨g4,_,_,hv,_⟩
           ·omega
           ·exact ⟨g4,by cases hv;rfl⟩
          obtain ⟨e0,e1,e2,e3⟩:=lksV_at Q j x hx
          have q0:=(lks6.cellAt _ (by omega)).trans e0
          have q1:=(lks6.cellAt _ (by omega)).trans e1
          have q2:=(lks6.cellAt _ (by omega)).trans e2
          have q3:=(lks6.cellAt _ (by omega)).trans e3
          have j1:(0:Int)<=(j:Int):=by omega
          have j2:(j:Int) < (Q.length:Int):=by omega
          have HST:Hid (layAll st'.es (Q.take (j+1))=lay2 (layAll st'.es (Q.take j)) x):=layAll_step hx
          have b7:Below wr.heap.size wr (wr.alloc (.cells #[.int .i64 (x.1:Int),.int .i64 (x.2.to:Int),.int .i64 x.2.s,.int .i64 x.2.d] 236)):=(Below.refl _ _).alloc (Nat.le_refl _) _
          have RS8:=RS7.below b7
          have lks8:=own_below lks6 b7
          have y0:(wr.alloc (.cells #[.int .i64 (x.1:Int),.int .i64 (x.2.to:Int),.int .i64 x.2.s,.int .i64 x.2.d] 236)).cell? ⟨wr.heap.size,0,none⟩=some (.int .i64 (x.1:Int)):=World.cell?_alloc_at _ _ _ 0 rfl
          have y1:(wr.alloc (.cells #[.int .i64 (x.1:Int),.int .i64 (x.2.to:Int),.int .i64 x.2.s,.int .i64 x.2.d] 236)).cell? ⟨wr.heap.size,1,none⟩=some (.int .i64 (x.2.to:Int)):=World.cell?_alloc_at _ _ _ 1 rfl
          have y2:(wr.alloc (.cells #[.int .i64 (x.1:Int),.int .i64 (x.2.to:Int),.int .i64 x.2.s,.int .i64 x.2.d] 236)).cell? ⟨wr.heap.size,2,none⟩=some (.int .i64 x.2.s):=World.cell?_alloc_at _ _ _ 2 rfl
          have y3:(wr.alloc (.cells #[.int .i64 (x.1:Int),.int .i64 (x.2.to:Int),.int .i64 x.2.s,.int .i64 x.2.d] 236)).cell? ⟨wr.heap.size,3,none⟩=some (.int .i64 x.2.d):=World.cell?_alloc_at _ _ _ 3 rfl
          have hput1:=put_edge (wr.alloc (.cells #[.int .i64 (x.1:Int),.int .i64 (x.2.to:Int),.int .i64 x.2.s,.int .i64 x.2.d] 236)) RS8.lv h1L (HLJ.out x.1).1 (HLJ.out.len HBD.out x.1) x.2
          rw [hxm] at hput1
          have bx8:=RS8.bx
          have hB7:∀ g,LvB lb vb eb f2 g->g < wr.heap.size:=fun g hg=>RS7.lv.blt hg
          have HB7:Hid _:=hB7
          have hE7:wr.heap.size < (wr.alloc (.cells #[.int .i64 (x.1:Int),.int .i64 (x.2.to:Int),.int .i64 x.2.s,.int .i64 x.2.d] 236)).heap.size:=by simp
          have HX:Hid (x=(x.1,⟨x.2.to,x.2.s,x.2.d,(n:Int)⟩)):=by
           unfold Hid
           rw [<- hxm]
          have HXM:Hid (x.2.mid=(n:Int)):=hxm
          clear hB7 e0 e1 e2 e3 b7 hx hx1 hx2 haL hbL hxm RS7 lks6
          generalize hxa:(x.1:Int)=xa at *
          generalize hxb:(x.2.to:Int)=xb at *
          generalize hxs:x.2.s=xs at *
          generalize hxd:x.2.d=xd at *
          have HXA:Hid ((x.1:Int)=xa):=hxa
          have HXB:Hid ((x.2.to:Int)=xb):=hxb
          have HXS:Hid (x.2.s=xs):=hxs
          have HXD:Hid (x.2.d=xd):=hxd
          clear hxa hxb hxs hxd
          go_wp2_with fail
          generalize wr.alloc (.cells #[.int .i64 xa,.int .i64 xb,.int .i64 xs,.int .i64 xd] 236)=w8 at *
          refine hput1.mono ?_
          rintro r w9 ⟨rfl,⟨f9,V9,hn9⟩,K9⟩
          have nE:¬ LvB lb vb eb f2 wr.heap.size:=fun h=>Nat.lt_irrefl _ (HB7.out _ h)
          have RS9:=RS8.turn V9 K9 hn9
          have z0:=K9.cellOf y0 nE
          have z1:=K9.cellOf y1 nE
          have z2:=K9.cellOf y2 nE
          have z3:=K9.cellOf y3 nE
          have lks9:=own_keep lks8 K9 (fun g hg h=>HO4.out g h hg)
          have HO9:Hid (∀ g,LvB lb vb eb f9 g->(Value.slice (some ⟨g4,0,none⟩) Q.length cap4).ownBlock≠some g):=fun g hg h=>by
           rcases hn9 g hg with h1 | h1
           ·exact HO4.out g h1 h
           ·have:=(lks8.lt g h).2;omega
          have nE9:¬ LvB lb vb eb f9 wr.heap.size:=fun h=>by
           rcases hn9 _ h with h1 | h1
           ·exact nE h1
           ·omega
          have HLK:Hid (LayOk L (putE (layAll st'.es (Q.take j)) x.1 (layF x.2 (layAll st'.es (Q.take j) x.1)))):=HLJ.out.put h2L
          have hput2:=put_edge w9 RS9.lv h2L (HLK.out x.2.to).1 (HLK.out.len HBD.out x.2.to) ⟨x.1,xs,xd,(n:Int)⟩
          rw [HXB.out] at hput2
          simp only [HXA.out] at hput2
          have bx9:=RS9.bx
          clear hput1 RS8 lks8 y0 y1 y2 y3 bx8 K9 V9 hn9 HO4
          go_wp2_with fail
          refine hput2.mono ?_
          rintro r wA ⟨rfl,⟨fA,VA,hnA⟩,KA⟩
          have RSA:=RS9.turn VA KA hnA
          have lksA:=own_keep lks9 KA (fun g hg h=>HO9.out g h hg)
          have HOA:Hid (∀ g,LvB lb vb eb fA g->(Value.slice (some ⟨g4,0,none⟩) Q.length cap4).ownBlock≠some g):=fun g hg h=>by
           rcases hnA g hg with h1 | h1
           ·exact HO9.out g h1 h
           ·have:=(lks9.lt g h).2;omega
          have HEQ:Hid (putE (putE (layAll st'.es (Q.take j)) x.1 (layF x.2 (layAll st'.es (Q.take j) x.1))) x.2.to (layF ⟨x.1,xs,xd,(n:Int)⟩ (putE (layAll st'.es (Q.take j)) x.1 (layF x.2 (layAll st'.es (Q.take j) x.1)) x.2.to))=layAll st'.es (Q.take (j+1))):=by
           rw [HST.out]
           unfold lay2
           rw [HXS.out,HXD.out,HXM.out]
           exact rfl
          have HLA:Hid (LayOk L (layAll st'.es (Q.take (j+1)))):=by
           rw [<- HEQ.out]
           exact HLK.out.put h1L
          have RSB:RSt w wA N lb vb eb t L M (.slice (some ⟨g0,0,none⟩) M.length capM) f fA ⟨fun k=>if k=n then t else st'.lev k,layAll st'.es (Q.take (j+1))⟩ (fun k=>nr k || l.any (fun e=>e.to == k)):=by
           rw [<- HEQ.out]
           exact RSA
          clear hput2 RS9 lks9 z0 z1 z2 z3 bx9 KA VA hnA HO9 RSA HEQ HST HLJ HLK
          go_wp2
          go_roundw
          case rel=>exact ⟨j+1,fA,by omega,by go_num,RSB,lksA,HOA.out,HLA.out⟩
          case measure=>simp [intOf];omega
         ·have e:j=Q.length:=by omega
          subst e
          have RS8:RSt w wr N lb vb eb t L M (.slice (some ⟨g0,0,none⟩) M.length capM) f f2 ⟨fun k=>if k=n then t else st'.lev k,layAll st'.es Q⟩ (fun k=>nr k || l.any (fun e=>e.to == k)):=by
           have:=RS7
           rw [List.take_length] at this
           exact this
          have HTU:Hid (Turn t n st' nr ⟨fun k=>if k=n then t else st'.lev k,layAll st'.es Q⟩ (fun k=>nr k || l.any (fun e=>e.to == k)) true):=by
           refine Or.inr ⟨HNOT.out,p,HP.out,Or.inr ?_⟩
           rw [<- HQ.out,HFE.out]
           exact ⟨hgt,rfl,rfl,rfl⟩
          have HR2:Hid (Rnd t (M.take (k+1)) st (fun _=>false) ⟨fun k=>if k=n then t else st'.lev k,layAll st'.es Q⟩ (fun k=>nr k || l.any (fun e=>e.to == k)) true):=by
           rw [HTK.out]
           have h1:=HR.out.snoc HTU.out
           rw [Bool.or_true] at h1
           exact h1
          have HA2:Hid _:=HA.out.turn hK0 hnL HTU.out
          have HN2:Hid (∀ m,(nr m || l.any (fun e=>e.to == m))=true->m ∈ L):=fun m hm=>by
           rcases Bool.or_eq_true .. ▸ hm with h | h
           ·exact HNL.out m h
           ·obtain ⟨e,he,h2⟩:=List.any_eq_true.1 h
            have:e.to=m:=beq_iff_eq.1 h2
            rw [<- this];exact HTO.out e he
          clear RS7 lks6 HO4 HLJ HTU HR HA HNL HNOT HP HE HQ HFE HIN HLO HTO HL0
          go_wp2
          go_roundw
          case rel=>exact ⟨k+1,_,_,f2,true,by omega,by go_num,rfl,RS8,HR2.out,HA2.out,HN2.out⟩
          case measure=>simp [intOf];omega
  ·have e:k=M.length:=by omega
   subst e
   have HRF:Hid (Rnd t L st (fun _=>false) st' nr got):=by
    have h1:=HR.out
    rw [List.take_length] at h1
    exact Rnd.filter ht (fun n hn hq=>by
     have:st.lev n≠0:=by simpa using hq
     omega) (HM.out ▸ h1)
   have lv:=RS.lv
   have new:=RS.new
   have kp:=RS.kp
   clear HR RS
   go_wp2
   go_ret
   exact ⟨st',nr,got,f',rfl,HRF.out,lv,new,kp⟩
end
end Go.Proofs.YtipbhlofbpnpjaaGreatDoor
