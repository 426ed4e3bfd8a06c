/-
  Texts laid together: Shelf, Sorts, AllDir, Reach, RNext, Find.
-/
import Derived.Test.YtmaefimaeelkbaaGreatDoorP6
import Derived.Test.YtmaefimaeelkbaaGreatDoorP7
import Derived.Test.YtmaefimaeelkbaaGreatDoorP5
import Derived.Shelf.SlIterI.Nil
import Derived.Shelf.SortM.Plain
import Derived.Shelf.SortM.SortNone
import Derived.Test.YtmaefimaeelkbaaGreatDoorProg
import Derived.Sort.OwnSortedInts
namespace Go.Proofs.YtmaefimaeelkbaaGreatDoor
section
open Go.Shelf
def Tryz.keysA_ren:Go.Shelf.Ren:=⟨fun|7=>100|10=>143|n=>n,fun|23=>123|26=>3|3=>126|28=>191|0=>0|27=>190|33=>134|4=>4|n=>n,fun|n=>n⟩
theorem Tryz.keysA:Go.Proofs.SlLaysZI.n7 Tryz.prog Tryz.keysA_ren:={
 mixed:=by kernel_rfl
 f7:=⟨Tryz.f100.name,by decide,Tryz.func100.trans (congrArg some (by kernel_rfl))⟩
 f10:=⟨Tryz.f143.name,by decide,Tryz.func143.trans (congrArg some (by kernel_rfl))⟩
 t0:=Tryz.underlying0
 a0:=Tryz.isAgg0
 z0:=Tryz.sizeOf0
 v0:=Tryz.zeroValue0
 t4:=Tryz.underlying4
 a4:=Tryz.isAgg4
 z4:=Tryz.sizeOf4
 v4:=Tryz.zeroValue4
 t23:=Tryz.underlying123
 a23:=Tryz.isAgg123
 z23:=Tryz.sizeOf123
 v23:=Tryz.zeroValue123
 t26:=Tryz.underlying3
 a26:=Tryz.isAgg3
 z26:=Tryz.sizeOf3
 v26:=Tryz.zeroValue3
 t27:=Tryz.underlying190
 a27:=Tryz.isAgg190
 z27:=Tryz.sizeOf190
 v27:=Tryz.zeroValue190
 t28:=Tryz.underlying191
 a28:=Tryz.isAgg191
 z28:=Tryz.sizeOf191
 v28:=Tryz.zeroValue191
 t33:=Tryz.underlying134
 a33:=Tryz.isAgg134
 z33:=Tryz.sizeOf134
 v33:=Tryz.zeroValue134 }
def Tryz.sortedA_ren:Go.Shelf.Ren:=⟨fun|6=>99|8=>141|9=>142|11=>184|13=>186|12=>185|23=>217|24=>218|14=>208|15=>209|16=>210|17=>211|18=>212|19=>213|20=>214|21=>215|22=>216|25=>243|26=>244|27=>245|28=>246|29=>247|30=>248|31=>261|n=>n,fun|26=>3|28=>191|24=>51|0=>0|3=>3|37=>273|48=>299|50=>301|4=>4|40=>293|39=>292|45=>166|5=>5|9=>9|51=>321|55=>325|57=>338|58=>48|33=>134|n=>n,fun|n=>n⟩
theorem Tryz.sortedA:Go.Proofs.SlLaysZI.n6 Tryz.prog Tryz.sortedA_ren:={
 mixed:=by kernel_rfl
 f6:=⟨Tryz.f99.name,by decide,Tryz.func99.trans (congrArg some (by kernel_rfl))⟩
 f8:=⟨Tryz.f141.name,by decide,Tryz.func141.trans (congrArg some (by kernel_rfl))⟩
 f11:=⟨Tryz.f184.name,by decide,Tryz.func184.trans (congrArg some (by kernel_rfl))⟩
 t0:=Tryz.underlying0
 a0:=Tryz.isAgg0
 z0:=Tryz.sizeOf0
 v0:=Tryz.zeroValue0
 t24:=Tryz.underlying51
 a24:=Tryz.isAgg51
 z24:=Tryz.sizeOf51
 v24:=Tryz.zeroValue51
 t26:=Tryz.underlying3
 a26:=Tryz.isAgg3
 z26:=Tryz.sizeOf3
 v26:=Tryz.zeroValue3
 t28:=Tryz.underlying191
 a28:=Tryz.isAgg191
 z28:=Tryz.sizeOf191
 v28:=Tryz.zeroValue191
 i26:=by kernel_rfl }
def Tryz.sortA_ren:Go.Shelf.Ren:=⟨fun|5=>142|8=>186|7=>185|19=>217|20=>218|10=>208|11=>209|12=>210|13=>211|14=>212|15=>213|16=>214|17=>215|18=>216|30=>243|31=>244|32=>245|33=>246|34=>247|35=>248|40=>261|n=>n,fun|23=>51|25=>3|3=>3|32=>273|22=>51|0=>0|44=>299|46=>301|4=>4|36=>293|35=>292|41=>166|5=>5|9=>9|53=>321|57=>325|63=>338|64=>48|n=>n,fun|n=>n⟩
theorem Tryz.sortA:Go.Proofs.SlLaysM.n5 Tryz.prog Tryz.sortA_ren:={
 mixed:=by kernel_rfl
 f5:=⟨Tryz.f142.name,by decide,Tryz.func142.trans (congrArg some (by kernel_rfl))⟩
 f7:=⟨Tryz.f185.name,by decide,Tryz.func185.trans (congrArg some (by kernel_rfl))⟩
 f8:=Tryz.func186.trans (congrArg some (by kernel_rfl))
 f10:=⟨Tryz.f208.name,by decide,Tryz.func208.trans (congrArg some (by kernel_rfl))⟩
 f11:=⟨Tryz.f209.name,by decide,Tryz.func209.trans (congrArg some (by kernel_rfl))⟩
 f12:=⟨Tryz.f210.name,by decide,Tryz.func210.trans (congrArg some (by kernel_rfl))⟩
 f13:=⟨Tryz.f211.name,by decide,Tryz.func211.trans (congrArg some (by kernel_rfl))⟩
 f14:=⟨Tryz.f212.name,by decide,Tryz.func212.trans (congrArg some (by kernel_rfl))⟩
 f15:=⟨Tryz.f213.name,by decide,Tryz.func213.trans (congrArg some (by kernel_rfl))⟩
 f16:=⟨Tryz.f214.name,by decide,Tryz.func214.trans (congrArg some (by kernel_rfl))⟩
 f17:=⟨Tryz.f215.name,by decide,Tryz.func215.trans (congrArg some (by kernel_rfl))⟩
 f18:=⟨Tryz.f216.name,by decide,Tryz.func216.trans (congrArg some (by kernel_rfl))⟩
 f19:=Tryz.func217.trans (congrArg some (by kernel_rfl))
 f20:=Tryz.func218.trans (congrArg some (by kernel_rfl))
 f30:=⟨Tryz.f243.name,by decide,Tryz.func243.trans (congrArg some (by kernel_rfl))⟩
 f31:=Tryz.func244.trans (congrArg some (by kernel_rfl))
 f32:=Tryz.func245.trans (congrArg some (by kernel_rfl))
 f33:=⟨Tryz.f246.name,by decide,Tryz.func246.trans (congrArg some (by kernel_rfl))⟩
 f34:=⟨Tryz.f247.name,by decide,Tryz.func247.trans (congrArg some (by kernel_rfl))⟩
 f35:=⟨Tryz.f248.name,by decide,Tryz.func248.trans (congrArg some (by kernel_rfl))⟩
 f40:=⟨Tryz.f261.name,by decide,Tryz.func261.trans (congrArg some (by kernel_rfl))⟩
 t0:=Tryz.underlying0
 a0:=Tryz.isAgg0
 z0:=Tryz.sizeOf0
 v0:=Tryz.zeroValue0
 t3:=Tryz.underlying3
 a3:=Tryz.isAgg3
 z3:=Tryz.sizeOf3
 v3:=Tryz.zeroValue3
 t4:=Tryz.underlying4
 a4:=Tryz.isAgg4
 z4:=Tryz.sizeOf4
 v4:=Tryz.zeroValue4
 t5:=Tryz.underlying5
 a5:=Tryz.isAgg5
 z5:=Tryz.sizeOf5
 v5:=Tryz.zeroValue5
 t9:=Tryz.underlying9
 a9:=Tryz.isAgg9
 z9:=Tryz.sizeOf9
 v9:=Tryz.zeroValue9
 t22:=Tryz.underlying51
 a22:=Tryz.isAgg51
 z22:=Tryz.sizeOf51
 v22:=Tryz.zeroValue51
 t23:=Tryz.underlying51
 a23:=Tryz.isAgg51
 z23:=Tryz.sizeOf51
 v23:=Tryz.zeroValue51
 t25:=Tryz.underlying3
 a25:=Tryz.isAgg3
 z25:=Tryz.sizeOf3
 v25:=Tryz.zeroValue3
 t32:=Tryz.underlying273
 a32:=Tryz.isAgg273
 z32:=Tryz.sizeOf273
 v32:=Tryz.zeroValue273
 t35:=Tryz.underlying292
 a35:=Tryz.isAgg292
 z35:=Tryz.sizeOf292
 v35:=Tryz.zeroValue292
 t36:=Tryz.underlying293
 a36:=Tryz.isAgg293
 z36:=Tryz.sizeOf293
 v36:=Tryz.zeroValue293
 t41:=Tryz.underlying166
 a41:=Tryz.isAgg166
 z41:=Tryz.sizeOf166
 v41:=Tryz.zeroValue166
 t44:=Tryz.underlying299
 a44:=Tryz.isAgg299
 z44:=Tryz.sizeOf299
 v44:=Tryz.zeroValue299
 t46:=Tryz.underlying301
 a46:=Tryz.isAgg301
 z46:=Tryz.sizeOf301
 v46:=Tryz.zeroValue301
 t53:=Tryz.underlying321
 a53:=Tryz.isAgg321
 z53:=Tryz.sizeOf321
 v53:=Tryz.zeroValue321
 t57:=Tryz.underlying325
 a57:=Tryz.isAgg325
 z57:=Tryz.sizeOf325
 v57:=Tryz.zeroValue325
 t63:=Tryz.underlying338
 a63:=Tryz.isAgg338
 z63:=Tryz.sizeOf338
 v63:=Tryz.zeroValue338
 t64:=Tryz.underlying48
 a64:=Tryz.isAgg48
 z64:=Tryz.sizeOf48
 v64:=Tryz.zeroValue48 }
end
section
open Go.RowKit Go.Sort
theorem rise_ext:∀ {l l':List Int},l.Pairwise (·<·)->l'.Pairwise (·<·)->(∀ x,x ∈ l↔x ∈ l')->l=l'
 |[],[],_,_,_=>rfl
 |[],y::l',_,_,h=>absurd ((h y).2 (List.mem_cons_self ..)) (List.not_mem_nil)
 |x::l,[],_,_,h=>absurd ((h x).1 (List.mem_cons_self ..)) (List.not_mem_nil)
 |x::l,y::l',h1,h2,h=>by
  rw [List.pairwise_cons] at h1 h2
  have e:x=y:=by
   rcases List.mem_cons.1 ((h x).1 (List.mem_cons_self ..)) with e|e
   ·exact e
   ·rcases List.mem_cons.1 ((h y).2 (List.mem_cons_self ..)) with f|f
    ·exact f.symm
    ·have:=h2.1 x e
     have:=h1.1 y f
     omega
  subst e
  have ih:=rise_ext h1.2 h2.2 (fun z=>by
   constructor
   ·intro hz
    rcases List.mem_cons.1 ((h z).1 (List.mem_cons_of_mem _ hz)) with e|e
    ·have:=h1.1 z hz;omega
    ·exact e
   ·intro hz
    rcases List.mem_cons.1 ((h z).2 (List.mem_cons_of_mem _ hz)) with e|e
    ·have:=h2.1 z hz;omega
    ·exact e)
  rw [ih]
abbrev intsN (l:List Nat):List Int:=l.map fun n:Nat=>(n:Int)
theorem mem_intsN {l:List Nat}{x:Int}:x ∈ intsN l↔∃ n:Nat,n ∈ l/\x=n:=by
 unfold intsN
 rw [List.mem_map]
 exact ⟨fun ⟨n,h,e⟩=>⟨n,h,e.symm⟩,fun ⟨n,h,e⟩=>⟨n,h,e.symm⟩⟩
theorem rise_intsN {l:List Nat}(h:l.Pairwise (·<·)):(intsN l).Pairwise (·<·):=by
 unfold intsN
 rw [List.pairwise_map]
 exact h.imp (fun h=>by omega)
theorem rise_eq {l l':List Nat}(h1:l.Pairwise (·<·))(h2:l'.Pairwise (·<·))(h:∀ n,n ∈ l↔n ∈ l'):l=l':=by
 have:=rise_ext (rise_intsN h1) (rise_intsN h2) (fun x=>by
  rw [mem_intsN,mem_intsN]
  exact ⟨fun ⟨n,a,b⟩=>⟨n,(h n).1 a,b⟩,fun ⟨n,a,b⟩=>⟨n,(h n).2 a,b⟩⟩)
 have q:=congrArg (List.map Int.toNat) this
 simpa [intsN,List.map_map,Function.comp_def] using q
theorem srt_ex (L:List Nat)(hn:L.Nodup):∃ l:List Nat,l.Pairwise (·<·)/\(∀ n,n ∈ l↔n ∈ L)/\l.length=L.length/\(intsN L).mergeSort (fun x y=>decide (x<=y))=intsN l:=by
 have hp:=List.mergeSort_perm (intsN L) (fun x y=>decide (x<=y))
 have hs:((intsN L).mergeSort (fun x y=>decide (x<=y))).Pairwise (fun x y=>decide (x<=y)=true):=List.pairwise_mergeSort (fun a b c h1 h2=>by simp at *;omega) (fun a b=>by simp;omega) (intsN L)
 have hnI:(intsN L).Nodup:=by
  unfold intsN List.Nodup
  rw [List.pairwise_map]
  exact hn.imp (fun h e=>h (by omega))
 have hnd:=hp.nodup_iff.2 hnI
 generalize (intsN L).mergeSort (fun x y=>decide (x<=y))=Z at *
 have hlt:Z.Pairwise (·<·):=by
  have:=hs.and hnd
  refine this.imp ?_
  rintro a b ⟨h1,h2⟩
  have:=of_decide_eq_true h1
  omega
 have hz:∀ x ∈ Z,0<=x:=fun x hx=>by
  obtain ⟨n,_,e⟩:=mem_intsN.1 (hp.mem_iff.1 hx)
  omega
 have eZ:intsN (Z.map Int.toNat)=Z:=by
  unfold intsN
  rw [List.map_map]
  conv=>rhs;rw [<- List.map_id Z]
  exact List.map_congr_left (fun x hx=>by
   have:=hz x hx
   simp
   omega)
 refine ⟨Z.map Int.toNat,?_,fun n=>?_,?_,eZ.symm⟩
 ·rw [List.pairwise_map]
  refine List.Pairwise.imp_of_mem ?_ hlt
  intro a b ha hb h
  have:=hz a ha
  omega
 ·rw [List.mem_map]
  constructor
  ·rintro ⟨x,hx,rfl⟩
   obtain ⟨m,hm,e⟩:=mem_intsN.1 (hp.mem_iff.1 hx)
   rw [e];exact hm
  ·intro hn
   exact ⟨n,hp.mem_iff.2 (mem_intsN.2 ⟨n,hn,rfl⟩),by simp⟩
 ·rw [List.length_map,hp.length_eq]
  simp [intsN]
theorem nodup_len:∀ (N:Nat) {L:List Nat},L.Nodup->(∀ n ∈ L,n<N)->L.length<=N
 |0,[],_,_=>Nat.le_refl _
 |0,x::_,_,h=>absurd (h x (List.mem_cons_self ..)) (Nat.not_lt_zero _)
 |N+1,L,hn,h=>by
  have h1:=nodup_len N (L:=L.erase N) (hn.erase N) (fun n hm=>by
   have:=(hn.mem_erase_iff).1 hm
   have:=h n this.2
   omega)
  have h2:L.length<=(L.erase N).length+1:=by
   rw [List.length_erase]
   split <;> omega
  omega
theorem own_grown {w w':World}{base e n:Nat}{row:Option Nat}{k:Nat}{v:Value}{xs:List Value}(h:w.ownsRow base e k v n xs)(hg:w.grownBy w' row)(hne:∀ g,v.ownBlock=some g->some g≠row):w'.ownsRow base e k v n xs:=by
 refine h.kept hg ?_
 cases hv:v.ownBlock with
 |none=>exact Or.inl rfl
 |some g=>exact Or.inr (hne g hv)
theorem own_keep {F:Nat->Prop}{w w':World}{base e k n:Nat}{v:Value}{xs:List Value}(h:w.ownsRow base e k v n xs)(K:Keep F w w')(hne:∀ g,v.ownBlock=some g->¬ F g):w'.ownsRow base e k v n xs:=by
 refine ⟨h.1,?_⟩
 rcases h.2 with h2|⟨g,cap,cur,hv,hbase,hg,h3⟩
 ·exact Or.inl h2
 ·refine Or.inr ⟨g,cap,cur,hv,hbase,(K.block g (Array.getElem?_eq_some_iff.1 hg).1 (hne g (by rw [hv];rfl))).trans hg,h3⟩
theorem own_map {P:Program}{kt:TypeId}{w:World}{b m:Nat}{f:Int->Option Value}{base e k n:Nat}{v:Value}{xs:List Value}(h:w.ownsRow base e k v n xs)(M:MapF P kt w b f m):∀ g,v.ownBlock=some g->g≠b:=by
 intro g hg e
 obtain ⟨D,⟨es,clock,h1,_⟩,_⟩:=M
 rcases h.2 with ⟨rfl,_⟩|⟨g',cap,cur,rfl,_,hgg,_⟩
 ·cases hg
 ·simp only [Value.ownBlock,Option.some.injEq] at hg
  rw [hg,e,h1] at hgg
  cases hgg
theorem sort_row {base:Nat}{v:Value}{L l:List Nat}(w:World)(h:w.ownsRow base 3 1 v L.length (vals L))(hne:L≠[])(hl:l.length=L.length)(hs:(intsN L).mergeSort (fun x y=>decide (x<=y))=intsN l)(hlen:L.length<=256) :
  Calls Tryz.prog 142 #[v] w fun e w'=>e=.returned (.tuple #[])/\w'.ownsRow base 3 1 v l.length (vals l)/\w.grownBy w' v.ownBlock:=by
 rcases h.2 with ⟨_,h0⟩|⟨g,cap,cur,rfl,hbase,hg,h1,h2,h3,h4⟩
 ·exact absurd (List.length_eq_zero_iff.1 h0) hne
 ·have hv:vals L=(intsN L).map (Value.int .i64):=by simp [vals,intsN]
  have hv':vals l=(intsN l).map (Value.int .i64):=by simp [vals,intsN]
  have hL:(intsN L).length=L.length:=by simp [intsN]
  have hl':(intsN l).length=(intsN L).length:=by simp [intsN,hl]
  have hH:Go.Sort.Holds (Value.int .i64) w g 0 (intsN L).toArray:=holds_of_blockI hg (by rw [hL,<- hv];simpa using h4)
  have hc:=AnyM.slices_Sort_int Tryz.sortA g 0 cap (intsN L) w hH (Array.getElem?_eq_some_iff.1 hg).1 (by rw [hL];omega)
  rw [hs,hL] at hc
  refine hc.mono ?_
  rintro e w' ⟨rfl,n,os,rfl⟩
  refine ⟨rfl,?_,grownBy_sortedI _⟩
  have:=ownsRow_sortedI (base:=base) (n:=n) (os:=os) (ss:=intsN L) (ts:=intsN l) hl' hbase hg (by rw [hL];exact h1) h2 h3
  rw [hL] at this
  rw [hl,hv']
  exact this
end
section
open Go.RowKit
theorem errV_nil:errV 0=.nilIface:=rfl
theorem errV_some {n:Int}(h:n≠0):errV n=.iface 54 (.int .i64 n):=by unfold errV;rw [if_neg h]
theorem own_rng {P:Program}{kt:TypeId}{w:World}{b r m cnt:Nat}{f:Int->Option Value}{left:Int->Bool}{base e k n:Nat}{v:Value}{xs:List Value}(h:w.ownsRow base e k v n xs)(M:RngF P kt w b r f m left cnt):∀ g,v.ownBlock=some g->some g≠some r:=by
 intro g hg e
 obtain ⟨D,lf,⟨es,clock,since,seen,c0,h1,h2,h3,h4,h5,h6⟩,h7⟩:=M
 rcases h.2 with ⟨rfl,_⟩|⟨g',cap,cur,rfl,_,hgg,_⟩
 ·cases hg
 ·simp only [Value.ownBlock,Option.some.injEq] at hg
  rw [hg,Option.some.inj e,h5] at hgg
  cases hgg
set_option maxHeartbeats 4000000 in
set_option maxRecDepth 1000000 in
theorem alldir_ok {b:Nat}{W H V a:Int}{bl:Nat->Bool}(w:World)(g:GridAt w b W H V bl)(s:StepsAt w)(hb:b<w.heap.size)(ha:inB W H a=true)(hfree:bl a.toNat=false) :
  Calls Tryz.prog 168 #[.pointer (some ⟨b,0,none⟩),.int .i64 a] w fun e w'=>∃ v l,e=.returned (.tuple #[v,.nilIface])/\w'.ownsRow w.heap.size 3 1 v l.length (vals l)/\(l.Pairwise (·<·)/\∀ n:Nat,n ∈ l↔Dir W H bl a n)/\Below w.heap.size w w':=by
 have gw1:=g.w1
 have gw2:=g.w2
 have gh1:=g.h1
 have gh2:=g.h2
 have hwh:=wh_bd g.w1 g.w2 g.h1 g.h2
 have hia:0<=a/\a<W*H:=of_decide_eq_true ha
 have hwa:=wf_small hia.1 (show a<256 by omega)
 have HBD:Hid (∀ r,Nr W H bl a r->octS W a r<=1000/\octD W a r<=1000):=fun r hr=>by
  have:=oct_small gw1 gw2 gh1 gh2 ha (hr.in gw1 ha)
  omega
 have HDI:Hid (∀ n:Int,Dir W H bl a n↔Nr W H bl a n/\¬ Bhd W H bl a n):=fun n=>by
  constructor
  ·intro hd
   have:=oct_small gw1 gw2 gh1 gh2 ha (hd.in gw1 ha)
   exact (Dir.iff gw1 (by omega) (by omega)).1 hd
  ·intro hd
   obtain ⟨q1,q2⟩:=HBD.out n hd.1
   exact (Dir.iff gw1 q1 q2).2 hd
 have HIN:Hid (∀ n:Int,Nr W H bl a n->0<=n/\n<256/\inB W H n=true/\octN W a n<=32):=fun n hn=>by
  have h1:=hn.in gw1 ha
  have h2:0<=n/\n<W*H:=of_decide_eq_true h1
  have:=oct_small gw1 gw2 gh1 gh2 ha h1
  exact ⟨h2.1,by omega,h1,by unfold octN;omega⟩
 obtain ⟨i0,hi,hz0,hz1,hz2⟩:=info_parts Tryz.info3
 have h1:=check_any a w g
 rw [ffv_zero ha hfree,errV_nil] at h1
 have hmm:=@run_makeMap Tryz.prog
 go_enter Tryz.func168,Tryz.ntmps168
 go_wp2_with fail
 refine h1.mono ?_
 rintro e w1 ⟨rfl,hb1⟩
 clear h1
 have hM0:=(SetAt.made w1).grown (World.grownBy_alloc (w1.alloc (.map #[] 0)) (.map #[] 0) none) (by simp)
 have hM1:=SetAt.made (w1.alloc (.map #[] 0))
 have hzz:(w1.alloc (.map #[] 0)).heap.size=w1.heap.size+1:=by simp
 have B0:Below w.heap.size w ((w1.alloc (.map #[] 0)).alloc (.map #[] 0)):=(hb1.alloc hb1.size _).alloc (by have:=hb1.size;simp;omega) _
 rw [hzz] at hM1
 go_wp2_with (first|(refine wpList_ins rfl _ _ _ 164 rfl 3 217 law3 Tryz.underS (w1.heap.size+1) _ _ (by first|rfl|(rw [hzz];rfl)) hM1.mp hM1.room a (.agg #[]) rfl rfl hwa ?_;intro w2 hm2 ht2;go_frame)|go_in)
 have hF0:=hM1.put hia.1 (show a<256 by omega) hm2
 have hg2:=ht2.grown
 have hA0:=hM0.grown hg2 (fun e=>by have:=Option.some.inj e;omega)
 have B1:Below w.heap.size w w2:=B0.grown hg2 (by have:=hb1.size;simp;omega) (fun k e=>by cases e;have:=hb1.size;omega)
 have hz1':=hb1.size
 clear hM0 hM1 hzz B0 hm2 ht2 hg2 hmm
 generalize hbb:w1.heap.size=bb at *
 clear hbb hb1
 go_loopg [7,9] 60 (fun gk dv fv wr=>∃ (i fb:Nat) (SF SB:Int->Bool) (L:List Nat),gk=60 - i/\fv=.map (some fb)/\bb<fb/\SetAt wr fb SF/\SetAt wr bb SB/\Hid (∀ z,SF z=true↔Nr W H bl a z/\octN W a z=i)/\Hid (∀ z,SB z=true↔(Nr W H bl a z/\octN W a z<=i)/\Bhd W H bl a z) /\
   wr.ownsRow w.heap.size 3 1 dv L.length (vals L)/\L.Nodup/\Hid (∀ n:Nat,n ∈ L↔Dir W H bl a n/\octN W a n<i)/\Below w.heap.size w wr)
 case atStart =>
  refine ⟨0,_,_,_,[],rfl,rfl,Nat.lt_succ_self _,hF0,hA0,fun z=>?_,fun z=>⟨fun h=>(by cases h),?_⟩,World.ownsRow_nil _ _ _ _,List.nodup_nil,fun n=>?_,B1⟩
  ·rw [insS_iff]
   constructor
   ·rintro (rfl|h)
    ·exact ⟨Nr.self,by rw [octN_self];rfl⟩
    ·cases h
   ·rintro ⟨h1,h2⟩
    exact Or.inl (octN_zero h2)
  ·rintro ⟨⟨h1,h2⟩,h3⟩
   have:=octN_nonneg W a z
   have e:=octN_zero (W:=W) (a:=a) (r:=z) (by simp at h2;omega)
   rw [e] at h3
   exact absurd h3 (Bhd.not_self gw1)
  ·have:=octN_nonneg W a n
   simp
   omega
 case round =>
  obtain ⟨i,fb,SF,SB,L,hgk,rfl,hfb,hF,hB,hFi,hBi,hown,hnd,hLi,hBw⟩:=hrel
  have hlen:=fun ty=>hF.mp.len (t:=164) Tryz.underS ty
  have hne:=hF.ne_nil
  have hLL:L.length<=256:=nodup_len 256 hnd (fun n hn=>by
   have:=HIN.out n ((HDI.out n).1 ((hLi.out n).1 hn).1).1
   omega)
  have HND:Hid L.Nodup:=hnd
  clear hnd
  by_cases hpos:0<cntS SF 256
  ·obtain ⟨z,hz⟩:=hne.1 hpos
   have hz':=(hFi.out z).1 hz
   have hzn:=HIN.out z hz'.1
   have hcp:(0:Int)<((cntS SF 256:Nat):Int):=by omega
   have hle:i<=32:=by omega
   clear hne hz hz' hzn
   have hbz:=hBw.size
   have hfl:=hF.lt
   have hbl:=hB.lt
   go_wp2_with (first|(at_range;refine wpList_rangeF rfl _ 164 rfl 3 217 law3 Tryz.underS fb _ _ rfl hF.mp ?_;intro w3 hrg3 hg3 hs3)|go_in)
   have hB3:=hB.grown hg3 (by simp)
   have hown3:=own_grown hown hg3 (by simp)
   have hB3':Below w.heap.size w w3:=hBw.grown hg3 hbz (by simp)
   generalize hr:wr.heap.size=r at *
   clear hown hB hBw hg3 hlen
   go_frame
   go_loopg [7] (cntS SF 256) (fun gj dv' wq=>∃ (left:Int->Bool) (cnt:Nat) (L':List Nat),gj=cnt/\RngS wq fb r SF left cnt/\SetAt wq bb SB/\wq.ownsRow w.heap.size 3 1 dv' L'.length (vals L')/\Hid L'.Nodup/\Hid (∀ n:Nat,n ∈ L'↔n ∈ L\/((SF n=true/\left n=false)/\SB n=false))/\Below w.heap.size w wq/\r<wq.heap.size)
   case atStart =>
    refine ⟨_,_,L,rfl,hrg3,hB3,hown3,HND.out,fun n=>⟨Or.inl,?_⟩,hB3',by omega⟩
    rintro (h|⟨⟨h1,h2⟩,_⟩)
    ·exact h
    ·rw [setF_isSome,h1] at h2
     cases h2
   case round =>
    obtain ⟨left,cnt,L',hgj,hrg,hBq,hown,hnd,hLq,hBw,hrq⟩:=hrel
    have hbq:=hBw.size
    have hLL':L'.length<=256:=nodup_len 256 hnd.out (fun n hn=>by
     rcases (hLq.out n).1 hn with h|h
     ·have:=HIN.out n ((HDI.out n).1 ((hLi.out n).1 h).1).1
      omega
     ·have:=HIN.out n ((hFi.out n).1 h.1.1).1
      omega)
    go_wp2_with (first|(at_next;refine wpList_nextF rfl _ rfl 3 law3 fb r _ _ _ _ rfl hrg ?_ ?_)|go_in)
    ·intro hc0 hl0
     have hFq:SetAt wr fb SF:=⟨hrg.map,hF.bd⟩
     have hgo:=goOut_any wr (g.below hBw hb) (s.below hBw (by omega)) (Nat.lt_of_lt_of_le hb hBw.size) hFq hBq (Nat.ne_of_gt hfb) (by have:=s.pos;omega) (by have:=s.pos;omega) (fun z hz=>(HIN.out z ((hFi.out z).1 hz).1).2.2.1) ha (fun c k z hc ho=>by
      cases hz:SF z with
      |false=>rfl
      |true =>
       have h1:=(hFi.out c).1 hc
       have h2:=(hFi.out z).1 hz
       have:=ho.next gw1
       omega)
     have hnm:=own_map hown hBq.mp
     clear hrg hFq
     go_wp2_with fail
     refine hgo.mono ?_
     rintro e w5 ⟨nb,T,B',rfl,hT,hB',hTi,hB'i,hnb,hK⟩
     have hown5:=own_keep hown hK hnm
     have B5:Below w.heap.size w w5:=hBw.trans (hK.to_below hBw.size (fun k e=>by omega))
     clear hgo hown hK hBq hnm
     go_wp2
     go_roundg (60 - (i+1))
     case measure=>omega
     case rel =>
      refine ⟨i+1,nb,T,B',L',rfl,rfl,by omega,hT,hB',fun z=>?_,fun z=>?_,hown5,hnd.out,fun n=>?_,B5⟩
      ·rw [hTi z]
       constructor
       ·rintro ⟨c,k,h1,h2⟩
        obtain ⟨q1,q2⟩:=(hFi.out c).1 h1
        have:=h2.next gw1
        exact ⟨q1.out gw1 h2,by omega⟩
       ·rintro ⟨h1,h2⟩
        obtain ⟨q1,q2⟩:=HBD.out z h1
        obtain ⟨c,k,h3,h4⟩:=h1.prev gw1 q1 q2 (fun e=>by rw [e,octN_self] at h2;omega)
        have:=h4.next gw1
        exact ⟨c,k,(hFi.out c).2 ⟨h3,by omega⟩,h4⟩
      ·rw [hB'i z]
       constructor
       ·rintro (h|⟨c,k,h1,h2,h3⟩)
        ·obtain ⟨⟨q1,q2⟩,q3⟩:=(hBi.out z).1 h
         exact ⟨⟨q1,by omega⟩,q3⟩
        ·obtain ⟨q1,q2⟩:=(hFi.out c).1 h1
         have:=h2.next gw1
         have hz:=q1.out gw1 h2
         obtain ⟨b1,b2⟩:=HBD.out z hz
         refine ⟨⟨hz,by omega⟩,(Bhd.iff gw1 b1 b2).2 ⟨c,k,q1,h2,?_⟩⟩
         rcases h3 with h3|⟨h3,h4⟩
         ·exact Or.inl ((hBi.out c).1 h3).2
         ·exact Or.inr ⟨cornB_iff.1 h3,h4⟩
       ·rintro ⟨⟨q1,q2⟩,q3⟩
        by_cases hle2:octN W a z<=i
        ·exact Or.inl ((hBi.out z).2 ⟨⟨q1,hle2⟩,q3⟩)
        ·obtain ⟨b1,b2⟩:=HBD.out z q1
         obtain ⟨c,k,h1,h2,h3⟩:=(Bhd.iff gw1 b1 b2).1 q3
         have:=h2.next gw1
         refine Or.inr ⟨c,k,(hFi.out c).2 ⟨h1,by omega⟩,h2,?_⟩
         rcases h3 with h3|⟨h3,h4⟩
         ·exact Or.inl ((hBi.out c).2 ⟨⟨h1,by omega⟩,h3⟩)
         ·exact Or.inr ⟨cornB_iff.2 h3,h4⟩
      ·rw [hLq.out n,hLi.out n,hFi.out n,HDI.out n]
       constructor
       ·rintro (⟨h1,h2⟩|⟨⟨⟨h1,h2⟩,_⟩,h3⟩)
        ·exact ⟨h1,by omega⟩
        ·refine ⟨⟨h1,fun hb=>?_⟩,by omega⟩
         have:=(hBi.out n).2 ⟨⟨h1,by omega⟩,hb⟩
         rw [h3] at this;cases this
       ·rintro ⟨h1,h2⟩
        by_cases hlt:octN W a n<i
        ·exact Or.inl ⟨h1,hlt⟩
        ·refine Or.inr ⟨⟨⟨h1.1,by omega⟩,hl0 n⟩,?_⟩
         cases hs:SB n with
         |false=>rfl
         |true=>exact absurd ((hBi.out n).1 hs).2 h1.2
    ·intro x v w4 cnt1 hwx hlx hfx hrg1 hlt hg1 hs1 hen
     obtain ⟨hSx,rfl⟩:=setF_val hfx
     have hx:=hF.bd x hSx
     have hBq1:=hBq.grown hg1 (fun e=>by have:=Option.some.inj e;omega)
     have hown4:=own_grown hown hg1 (own_rng hown hrg)
     have B4:Below w.heap.size w w4:=hBw.grown hg1 hbq (fun k e=>by cases e;omega)
     have hB5:=hBq1.grown (World.grownBy_alloc w4 (.cells #[] 217) none) (by simp)
     have hrg2:=hrg1.grown (World.grownBy_alloc w4 (.cells #[] 217) none) (by simp) (by simp)
     have hown5:=hown4.alloc (.cells #[] 217)
     have B5:=B4.alloc B4.size (.cells #[] 217)
     have hr5:r<(w4.alloc (.cells #[] 217)).heap.size:=by simp;omega
     cases hSB:SB x with
     |true =>
      have hlk:(Instr.lookup 164 (.map (some bb)) (.int .i64 x) true).run Tryz.prog w4=.ok (.tuple #[.agg #[],.bool true]) w4:=hBq1.mp.look_some law3 Tryz.underS (zeroS _) hwx (setF_some hSB) true
      clear hrg hBw hBq hown hBq1 hown4 B4 hg1
      go_wp2
      go_roundg cnt1
      case measure=>omega
      case rel =>
       refine ⟨_,cnt1,L',rfl,hrg2,hB5,hown5,hnd,fun n=>?_,B5,hr5⟩
       rw [hLq.out n]
       by_cases e:(n:Int)=x
       ·rw [e];simp [hSB]
       ·simp [e]
     |false =>
      have hlk:(Instr.lookup 164 (.map (some bb)) (.int .i64 x) true).run Tryz.prog w4=.ok (.tuple #[.agg #[],.bool false]) w4:=hBq1.mp.look_none law3 Tryz.underS (zeroS _) hwx (setF_none hSB) true
      clear hrg hBw hBq hown hBq1 hown4 B4 hg1
      have hz5:=B5.size
      obtain ⟨xn,hxn⟩:∃ xn:Nat,x=(xn:Int):=⟨x.toNat,by omega⟩
      have HXN:Hid (x=(xn:Int)):=hxn
      clear hxn
      generalize hw5:w4.alloc (.cells #[] 217)=w5 at *
      go_wp2_with (at_builtin;refine wpList_append_own _ rfl _ _ 51 rfl w.heap.size 3 i0 (.int .i64 0) 1 8 Tryz.underlying51 hi hz0 hz1 hz2 rfl (by decide) _ _ _ rfl (hown5.alloc _) ⟨w5.heap.size,0,none⟩ 1 1 [.int .i64 x] rfl rfl ?c1 ?c2 ?c3 ?c4 ?c5 ?_)
      case c1 =>
       intro j u hj
       match j,hj with
       |0,hj =>
        simp at hj;subst hj;simp only [Addr.add]
        exact World.cell?_alloc_at (w:=w5) #[.int .i64 x] 3 w5.heap.size 0 rfl
      case c2=>intro u hu;simp at hu;subst hu;rfl
      case c3=>unfold maxLen;omega
      case c4=>omega
      case c5=>simp;omega
      intro v' w6 hown' hgrow _
      have hbase:=fun q hq=>(hown5.lt q hq).1
      have B6:Below w.heap.size w w6:=(B5.alloc hz5 _).grown hgrow (by simp;omega) hbase
      have O6:w6.ownsRow w.heap.size 3 1 v' (L'++[xn]).length (vals (L'++[xn])):=by
       rw [HXN.out] at hown'
       simpa [vals] using hown'
      have hrg6:=(hrg2.grown (World.grownBy_alloc w5 (.cells #[.int .i64 x] 3) none) (by simp) (by simp)).grown hgrow (fun e=>own_map hown5 hrg2.map _ e.symm rfl) (fun e=>own_rng hown5 hrg2 _ e.symm rfl)
      have hB6:=(hB5.grown (World.grownBy_alloc w5 (.cells #[.int .i64 x] 3) none) (by simp)).grown hgrow (fun e=>own_map hown5 hB5.mp _ e.symm rfl)
      have hr6:r<w6.heap.size:=Nat.lt_of_lt_of_le hr5 (Nat.le_trans (by simp) hgrow.size)
      have HN:Hid (L'++[xn]).Nodup:=by
       have hnm:xn ∉ L':=fun hm=>by
        rcases (hLq.out xn).1 hm with h|h
        ·have h1:=(hLi.out xn).1 h
         rw [<- HXN.out] at h1
         have h2:=(hFi.out x).1 hSx
         omega
        ·rw [<- HXN.out] at h
         rw [hlx] at h
         exact absurd h.1.2 (by decide)
       unfold Hid List.Nodup
       rw [List.pairwise_append]
       exact ⟨hnd.out,List.pairwise_singleton _ _,fun p hp q hq e=>by
        rw [List.mem_singleton] at hq
        rw [e,hq] at hp
        exact hnm hp⟩
      clear hown' hgrow hown5 B5 hrg2 hB5
      go_wp2
      go_roundg cnt1
      case measure=>omega
      case rel =>
       refine ⟨_,cnt1,L'++[xn],rfl,hrg6,hB6,O6,HN,fun n=>?_,B6,hr6⟩
       rw [List.mem_append,List.mem_singleton,hLq.out n]
       by_cases e:n=xn
       ·subst e
        rw [<- HXN.out]
        simp [hSB,hSx]
       ·have e':¬ (n:Int)=x:=fun q=>e (by have:=HXN.out;omega)
        simp [e,e']
  ·have hno:∀ z,SF z=false:=fun z=>by
    cases hz:SF z with
    |false=>rfl
    |true=>exact absurd (hne.2 ⟨z,hz⟩) hpos
   have hc0:cntS SF 256=0:=by omega
   have hfin:∀ n:Nat,n ∈ L↔Dir W H bl a n:=fun n=>by
    rw [hLi.out n]
    refine ⟨fun h=>h.1,fun h=>⟨h,?_⟩⟩
    by_cases q:octN W a n<i
    ·exact q
    ·exfalso
     have h1:=((HDI.out n).1 h).1
     have h2:=octN_nonneg W a n
     obtain ⟨z',h3,h4⟩:=Nr.mid gw1 HBD.out (octN W a n).toNat n h1 (by omega) i (by omega)
     have:=(hFi.out z').2 ⟨h3,h4⟩
     rw [hno z'] at this
     cases this
   have HF:Hid (∀ n:Nat,n ∈ L↔Dir W H bl a n):=hfin
   have hLne:L≠[]:=fun e=>by
    have h1:=(hfin a.toNat).2 (by rw [Int.toNat_of_nonneg hia.1];exact Dir.self gw1)
    rw [e] at h1
    cases h1
   obtain ⟨l,l1,l2,l3,l4⟩:=srt_ex L HND.out
   have HL2:Hid (∀ n,n ∈ l↔n ∈ L):=l2
   have HL1:Hid (l.Pairwise (·<·)):=l1
   have hso:=sort_row wr hown hLne l3 l4 hLL
   have hbz:=hBw.size
   have hbase:=fun q hq=>(hown.lt q hq).1
   rw [hc0] at hlen
   clear hfin hno hne hpos hFi hBi l1 l2 l3 l4 hLne hown hB hF hLi
   go_wp2_with fail
   refine hso.mono ?_
   rintro e w5 ⟨rfl,hown5,hg5⟩
   have B5:Below w.heap.size w w5:=hBw.grown hg5 hbz hbase
   clear hso hg5 hbase
   go_wp2
   go_ret2
   exact ⟨_,l,rfl,hown5,⟨HL1.out,fun n=>(HL2.out n).trans (HF.out n)⟩,B5⟩
end
section
open Go.RowKit
def ff2 (W H:Int) (bl:Nat->Bool) (a t:Int):Int:=if ffv W H bl a=0 then ffv W H bl t else ffv W H bl a
theorem ff2_ok {W H:Int}{bl:Nat->Bool}{a t:Int}(h:ff2 W H bl a t=0):(inB W H a=true/\bl a.toNat=false)/\(inB W H t=true/\bl t.toNat=false):=by
 have one:∀ c,ffv W H bl c=0->inB W H c=true/\bl c.toNat=false:=fun c h=>by
  unfold ffv at h
  cases h1:inB W H c with
  |false=>rw [h1] at h;cases h
  |true =>
   cases h2:bl c.toNat with
   |false=>exact ⟨rfl,rfl⟩
   |true=>rw [h1,h2] at h;cases h
 unfold ff2 at h
 split at h
 ·rename_i h1;exact ⟨one a h1,one t h⟩
 ·rename_i h1;exact absurd h h1
set_option maxHeartbeats 400000 in
theorem check2_any {b:Nat}{W H V:Int}{bl:Nat->Bool}(a t:Int)(w:World)(g:GridAt w b W H V bl)(hb:b<w.heap.size) :
  Calls Tryz.prog 81 #[.pointer (some ⟨b,0,none⟩),.int .i64 a,.int .i64 t] w fun e w'=>e=.returned (errV (ff2 W H bl a t))/\Below w.heap.size w w':=by
 have h1:=check_any a w g
 unfold ff2
 by_cases h:ffv W H bl a=0
 ·rw [if_pos h]
  rw [h,errV_nil] at h1
  go_enter Tryz.func81,Tryz.ntmps81
  go_wp2_with fail
  refine h1.mono ?_
  rintro e w1 ⟨rfl,hb1⟩
  have h2:=check_any t w1 (g.below hb1 hb)
  clear h1
  go_wp2_with fail
  refine h2.mono ?_
  rintro e w2 ⟨rfl,hb2⟩
  clear h2
  go_wp2
  go_ret
  exact ⟨rfl,hb1.trans (hb2.mono hb1.size)⟩
 ·rw [if_neg h]
  rw [errV_some h] at h1 ⊢
  go_enter Tryz.func81,Tryz.ntmps81
  go_wp2_with fail
  refine h1.mono ?_
  rintro e w1 ⟨rfl,hb1⟩
  clear h1
  go_wp2
  go_ret
  exact ⟨rfl,hb1⟩
end
section
open Go.RowKit
set_option maxHeartbeats 2000000 in
set_option maxRecDepth 1000000 in
theorem rnext_any {b ob:Nat}{W H V c t:Int}{bl:Nat->Bool}{S:Int->Bool}{l:List Nat}(hl:onw W H bl c t 8=l)(w:World)(g:GridAt w b W H V bl)(s:StepsAt w)(d:DiagAt w)(hb:b<w.heap.size)(hS:SetAt w ob S)(hc:inB W H c=true)(ht:inB W H t=true) :
  Calls Tryz.prog 83 #[.pointer (some ⟨b,0,none⟩),.map (some ob),.int .i64 c,.int .i64 t] w fun e w'=>Below w.heap.size w w' /\
   ((∃ i,i<l.length/\S ((l.getD i 0:Nat):Int)=true/\(∀ j,j<i->S ((l.getD j 0:Nat):Int)=false)/\e=.returned (.tuple #[.int .i64 ((l.getD i 0:Nat):Int),.bool true])) \/
    ((∀ i,i<l.length->S ((l.getD i 0:Nat):Int)=false)/\e=.returned (.tuple #[.int .i64 0,.bool false]))):=by
 have gw1:=g.w1
 have hwh:=wh_bd g.w1 g.w2 g.h1 g.h2
 have hob:=hS.lt
 have hll:l.length<=8:=by rw [<- hl];exact onw_len _ _ _ _ _ _
 have HZ:Hid (∀ j,j<l.length->(0:Int)<=((l.getD j 0:Nat):Int)/\((l.getD j 0:Nat):Int)<256):=fun j hj=>by
  obtain ⟨k,e,_⟩:=(onw_row (z:=((l.getD j 0:Nat):Int)) gw1 hc hl).1 ⟨j,hj,rfl⟩
  have:0<=((l.getD j 0:Nat):Int)/\((l.getD j 0:Nat):Int)<W*H:=of_decide_eq_true (e.in' gw1)
  omega
 have hon:=onward_v hl w g s d hb hc ht
 clear hl
 go_enter Tryz.func83,Tryz.ntmps83
 go_wp2_with fail
 refine hon.mono ?_
 rintro e w1 ⟨A,cap,rfl,hrow,hb1⟩
 have hS1:=hS.below hb1
 clear hon hS
 go_wp2
 go_loopg [19] l.length (fun gj iv wr=>∃ j:Nat,gj=l.length - j/\iv=.int .i64 j/\j<=l.length/\SetAt wr ob S/\Hid (∀ i,i<j->S ((l.getD i 0:Nat):Int)=false)/\OldRow wr A l.length (fun i=>(l.getD i 0:Nat))/\Below w.heap.size w wr)
 case atStart=>exact ⟨0,rfl,rfl,Nat.zero_le _,hS1,fun i hi=>absurd hi (by omega),hrow,hb1⟩
 case round =>
  obtain ⟨j,hgj,rfl,hj,hT,hno,hrow',hB⟩:=hrel
  by_cases hlj:j<l.length
  ·obtain ⟨ba,oa,rfl,hba,hcell⟩:=hrow' j hlj
   obtain ⟨z0,z1⟩:=HZ.out j hlj
   have hcell':wr.cell? ⟨ba,oa+j,none⟩=some (.int .i64 ((l.getD j 0:Nat):Int)):=hcell
   clear hcell
   obtain ⟨zz,hzz⟩:∃ zz,((l.getD j 0:Nat):Int)=zz:=⟨_,rfl⟩
   have HZZ:Hid (((l.getD j 0:Nat):Int)=zz):=hzz
   rw [hzz] at hcell' z0 z1
   clear hzz
   have i1:(0:Int)<=(j:Int):=by omega
   have i2:(j:Int)<(l.length:Int):=by omega
   have bA:Below wr.heap.size wr (wr.alloc (.cells #[] 217)):=(Below.refl _ _).alloc (Nat.le_refl _) _
   have hT2:=hT.below bA
   have hB2:=hB.trans (bA.mono hB.size)
   have hrow2:=hrow'.below bA
   cases hSz:S zz with
   |false =>
    have hlk:(Instr.lookup 164 (.map (some ob)) (.int .i64 zz) true).run Tryz.prog wr=.ok (.tuple #[.agg #[],.bool false]) wr:=hT.mp.look_none law3 Tryz.underS (zeroS _) (wf_small z0 z1) (setF_none hSz) true
    clear hT hB hrow' bA
    go_wp2
    go_roundg (l.length - (j+1))
    case measure=>omega
    case rel =>
     refine ⟨j+1,rfl,by go_num,by omega,hT2,fun i hi=>?_,hrow2,hB2⟩
     by_cases e:i=j
     ·rw [e,HZZ.out];exact hSz
     ·exact hno.out i (by omega)
   |true =>
    have hlk:(Instr.lookup 164 (.map (some ob)) (.int .i64 zz) true).run Tryz.prog wr=.ok (.tuple #[.agg #[],.bool true]) wr:=hT.mp.look_some law3 Tryz.underS (zeroS _) (wf_small z0 z1) (setF_some hSz) true
    clear hT hB hrow' bA
    go_wp2
    go_ret2
    exact ⟨hB2,Or.inl ⟨j,hlj,by rw [HZZ.out];exact hSz,hno.out,by rw [HZZ.out];rfl⟩⟩
  ·have e:j=l.length:=by omega
   subst e
   go_wp2
   go_ret2
   exact ⟨hB,Or.inr ⟨hno.out,rfl⟩⟩
set_option maxHeartbeats 400000 in
theorem rway_err {b:Nat}{W H V:Int}{bl:Nat->Bool}(a t:Int)(w:World)(g:GridAt w b W H V bl)(hb:b<w.heap.size)(hf:ff2 W H bl a t≠0) :
  Calls Tryz.prog 42 #[.pointer (some ⟨b,0,none⟩),.int .i64 a,.int .i64 t] w fun e w'=>e=.returned (.tuple #[.slice none 0 0,errV (ff2 W H bl a t)])/\Below w.heap.size w w':=by
 have h1:=check2_any a t w g hb
 rw [errV_some hf] at h1 ⊢
 go_enter Tryz.func42,Tryz.ntmps42
 go_wp2_with fail
 refine h1.mono ?_
 rintro e w1 ⟨rfl,hb1⟩
 clear h1
 go_wp2
 go_ret2
 exact ⟨rfl,hb1⟩
set_option maxHeartbeats 1000000 in
theorem rway_none {b:Nat}{W H V:Int}{bl:Nat->Bool}(a t:Int)(w:World)(g:GridAt w b W H V bl)(s:StepsAt w)(d:DiagAt w)(hb:b<w.heap.size)(hf:ff2 W H bl a t=0)(hno:¬ ∃ z,On W H bl a t z) :
  Calls Tryz.prog 42 #[.pointer (some ⟨b,0,none⟩),.int .i64 a,.int .i64 t] w fun e w'=>e=.returned (.tuple #[.slice none 0 0,.iface 54 (.int .i64 5)])/\Below w.heap.size w w':=by
 have h1:=check2_any a t w g hb
 rw [hf,errV_nil] at h1
 obtain ⟨⟨ha,_⟩,⟨ht,_⟩⟩:=ff2_ok hf
 go_enter Tryz.func42,Tryz.ntmps42
 go_wp2_with fail
 refine h1.mono ?_
 rintro e w1 ⟨rfl,hb1⟩
 have h2:=rbtw_any w1 (g.below hb1 hb) (s.below hb1 (by omega)) (d.below hb1) (Nat.lt_of_lt_of_le hb hb1.size) ha ht
 clear h1
 go_wp2_with fail
 refine h2.mono ?_
 rintro e w2 ⟨nb,T,rfl,hT,hTi,_,hb2⟩
 have B2:=hb1.trans (hb2.mono hb1.size)
 have hlen:=fun ty=>hT.mp.len (t:=164) Tryz.underS ty
 have hc0:cntS T 256=0:=by
  by_cases hp:0<cntS T 256
  ·obtain ⟨z,hz⟩:=hT.ne_nil.1 hp
   exact absurd ⟨z,(hTi z).1 hz⟩ hno
  ·omega
 rw [hc0] at hlen
 clear h2 hb2 hT hTi hno
 go_wp2
 go_ret2
 exact ⟨rfl,B2⟩
end
section
open Go.RowKit
def edgeV (W a:Int) (n:Nat):List Value:=[.int .i64 n,.int .i64 (octS W a n),.int .i64 (octD W a n),.int .i64 (-1)]
def edgesV (W a:Int) (l:List Nat):List Value:=l.flatMap (edgeV W a)
theorem edgesV_app (W a:Int)(l:List Nat)(n:Nat):edgesV W a (l++[n])=edgesV W a l++edgeV W a n:=by
 unfold edgesV
 rw [List.flatMap_append,List.flatMap_cons,List.flatMap_nil,List.append_nil]
theorem isc_any {b:Nat}{W H V:Int}{bl:Nat->Bool}(c:Int)(w:World)(g:GridAt w b W H V bl)(s:StepsAt w)(hr:inB W H c=true) :
  Calls Tryz.prog 129 #[.pointer (some ⟨b,0,none⟩),.int .i64 c] w fun e w'=>e=.returned (.bool (cornB W H bl c))/\∃ m,w'=w.drewN m:=by
 have h1:=is_v rfl w g s hr
 generalize cornB W H bl c=r at *
 go_enter Tryz.func129,Tryz.ntmps129
 go_wp2_with fail
 refine h1.mono ?_
 rintro e w1 ⟨rfl,m,rfl⟩
 clear h1
 go_wp2
 go_ret
 exact ⟨rfl,m,rfl⟩
set_option maxHeartbeats 400000 in
theorem dist' {b:Nat}{a t x y u v S D:Int}(w:World)
  (hP:∀ w',Below w.heap.size w w'->Calls Tryz.prog 84 #[.pointer (some ⟨b,0,none⟩),.int .i64 a] w' fun e w''=>e=.returned (.tuple #[.int .i64 x,.int .i64 y,.nilIface])/\∃ m,w''=w'.drewN m)
  (hQ:∀ w',Below w.heap.size w w'->Calls Tryz.prog 84 #[.pointer (some ⟨b,0,none⟩),.int .i64 t] w' fun e w''=>e=.returned (.tuple #[.int .i64 u,.int .i64 v,.nilIface])/\∃ m,w''=w'.drewN m)
  (ho:∀ w,Calls Tryz.prog 86 #[.int .i64 x,.int .i64 y,.int .i64 u,.int .i64 v] w fun e w'=>e=.returned (.agg #[.int .i64 S,.int .i64 D])/\Below w.heap.size w w') :
  Calls Tryz.prog 169 #[.pointer (some ⟨b,0,none⟩),.int .i64 a,.int .i64 t] w fun e w'=>e=.returned (.agg #[.int .i64 S,.int .i64 D])/\Below w.heap.size w w':=by
 have sl:=Slot.new w 0 0
 have B0:Below w.heap.size w (w.alloc (.cells #[.int .i64 0,.int .i64 0] 53)):=(Below.refl _ _).alloc (Nat.le_refl _) _
 go_enter Tryz.func169,Tryz.ntmps169
 go_wp2_with fail
 refine (hP _ B0).mono ?_
 rintro e w1 ⟨rfl,m1,hw1⟩
 have B1:Below w.heap.size w w1:=by rw [hw1];exact below_drewN B0 _
 have sl1:Slot w1 w.heap.size 0 0:=by rw [hw1];exact sl.below (below_drewN (Below.refl _ _) _)
 clear hw1 sl B0 hP
 go_wp2_with fail
 refine (hQ _ B1).mono ?_
 rintro e w2 ⟨rfl,m2,hw2⟩
 have B2:Below w.heap.size w w2:=by rw [hw2];exact below_drewN B1 _
 have sl2:Slot w2 w.heap.size 0 0:=by rw [hw2];exact sl1.below (below_drewN (Below.refl _ _) _)
 clear hw2 sl1 B1 hQ
 go_wp2_with fail
 refine (ho _).mono ?_
 rintro e w3 ⟨rfl,hb3⟩
 have B3:=B2.trans (hb3.mono B2.size)
 have sl3:=sl2.below hb3
 have c0:=sl3.c0
 have c1:=sl3.c1
 have z0:=sl3.z0
 have z1:=sl3.z1
 clear hb3 sl2 B2 ho
 go_wp2
 have q:=setTwo w3 w.heap.size S D c0 c1
 have hd:=q.1
 have ht:=q.2
 refine bodyPost_ret (v:=.agg #[.int .i64 S,.int .i64 D]) (by simp [results,Tryz.results169,go_sem,hd,ht]) rfl ⟨rfl,?_⟩
 exact (B3.setCell (p:=⟨w.heap.size,0,none⟩) (Nat.le_refl _) _).setCell (p:=⟨w.heap.size,1,none⟩) (Nat.le_refl _) _
theorem dist_any {b:Nat}{W H V a t:Int}{bl:Nat->Bool}(w:World)(g:GridAt w b W H V bl)(hb:b<w.heap.size)(ha:inB W H a=true)(ht:inB W H t=true) :
  Calls Tryz.prog 169 #[.pointer (some ⟨b,0,none⟩),.int .i64 a,.int .i64 t] w fun e w'=>e=.returned (.agg #[.int .i64 (octS W a t),.int .i64 (octD W a t)])/\Below w.heap.size w w':=by
 obtain ⟨x1,x2,y1,y2⟩:=place_bd g.w1 ha
 obtain ⟨u1,u2,v1,v2⟩:=place_bd g.w1 ht
 have gw:=g.w2
 have gh:=g.h2
 exact dist' w (fun w' hB=>place_in a w' (g.below hB hb) ha) (fun w' hB=>place_in t w' (g.below hB hb) ht) (fun w=>oct_any _ _ _ _ w (near_place (by omega) (by omega)) (near_place (by omega) (by omega)) (near_place (by omega) (by omega)) (near_place (by omega) (by omega)))
def pick (p:Int->Bool) (L:List Nat) (k:Nat):List Nat:=(L.take k).filter fun n:Nat=>p (n:Int)
theorem pick_no {p:Int->Bool}{L:List Nat}{k:Nat}(h:k<L.length)(hp:p ((L.getD k 0:Nat):Int)=false):pick p L (k+1)=pick p L k:=by
 unfold pick
 rw [List.take_succ_eq_append_getElem h,List.filter_append,<- getD_at _ _ h]
 generalize L.getD k 0=m at *
 simp [hp]
theorem pick_yes {p:Int->Bool}{L:List Nat}{k:Nat}(h:k<L.length)(hp:p ((L.getD k 0:Nat):Int)=true):pick p L (k+1)=pick p L k++[L.getD k 0]:=by
 unfold pick
 rw [List.take_succ_eq_append_getElem h,List.filter_append,<- getD_at _ _ h]
 generalize L.getD k 0=m at *
 simp [hp]
theorem pick_len {p:Int->Bool}{L:List Nat}{k:Nat}:(pick p L k).length<=L.length :=
 Nat.le_trans (List.length_filter_le _ _) (by rw [List.length_take];omega)
theorem pick_mem {p:Int->Bool}{L:List Nat}{n:Nat}:n ∈ pick p L L.length↔n ∈ L/\p n=true:=by
 unfold pick
 rw [List.take_length,List.mem_filter]
theorem pick_rise {p:Int->Bool}{L:List Nat}(h:L.Pairwise (·<·)):(pick p L L.length).Pairwise (·<·):=by
 unfold pick
 rw [List.take_length]
 exact h.filter _
theorem own_apart {w:World}{b1 b2 e1 e2 k1 k2 n1 n2:Nat}{v1 v2:Value}{x1 x2:List Value}(h1:w.ownsRow b1 e1 k1 v1 n1 x1)(h2:w.ownsRow b2 e2 k2 v2 n2 x2)(hne:e1≠e2):∀ g,v1.ownBlock=some g->some g≠v2.ownBlock:=by
 intro g hg e
 rcases h1.2 with ⟨rfl,_⟩|⟨g1,c1,cur1,rfl,_,q1,_⟩
 ·cases hg
 ·rcases h2.2 with ⟨rfl,_⟩|⟨g2,c2,cur2,rfl,_,q2,_⟩
  ·cases e
  ·simp only [Value.ownBlock,Option.some.injEq] at hg e
   rw [hg,e,q2] at q1
   simp only [Option.some.injEq,Obj.cells.injEq] at q1
   exact hne q1.2.1.symm
theorem Tryz.infoE:(Tryz.prog.info? 204).map (fun i=>(i.zero,i.size,i.bytes))=some (some (.agg #[.int .i64 0,.int .i64 0,.int .i64 0,.int .i64 0]),4,32):=by kernel_rfl
theorem Tryz.underE:Tryz.prog.underlying 126=some (.slice 204):=by kernel_rfl
theorem cell_four_new (w:World)(x y z u:Value)(t:TypeId):∀ j q,[x,y,z,u][j]? = some q->(w.alloc (.cells #[x,y,z,u] t)).cell? ((⟨w.heap.size,0,none⟩:Addr).add j)=some q:=by
 intro j q hj
 match j,hj with
 |0,hj=>simp at hj;subst hj;simp [Addr.add]
 |1,hj=>simp at hj;subst hj;simp [Addr.add]
 |2,hj=>simp at hj;subst hj;simp [Addr.add]
 |3,hj=>simp at hj;subst hj;simp [Addr.add]
set_option maxHeartbeats 2000000 in
set_option maxRecDepth 1000000 in
theorem find_look {b cb rb:Nat}{W H V a:Int}{bl:Nat->Bool}{p:Int->Bool}(w:World)(g:GridAt w b W H V bl)(s:StepsAt w)(hb:b<w.heap.size)(ha:inB W H a=true)(hfree:bl a.toNat=false)
  (hC:∀ (w':World) (n:Int),Below w.heap.size w w'->inB W H n=true->Calls Tryz.prog 150 #[.int .i64 n,.pointer (some ⟨cb,0,none⟩),.pointer (some ⟨rb,0,none⟩)] w' fun e w''=>e=.returned (.bool (p n))/\Below w'.heap.size w' w'') :
  Calls Tryz.prog 127 #[.pointer (some ⟨b,0,none⟩),.int .i64 a,.func (.func 150) #[] #[.pointer (some ⟨cb,0,none⟩),.pointer (some ⟨rb,0,none⟩)]] w fun e w'=>∃ v l,e=.returned v/\w'.ownsRow w.heap.size 204 4 v l.length (edgesV W a l)/\(l.Pairwise (·<·)/\∀ n:Nat,n ∈ l↔Dir W H bl a n/\p n=true)/\Below w.heap.size w w':=by
 obtain ⟨i0,hi,hz0,hz1,hz2⟩:=info_parts Tryz.infoE
 have gw1:=g.w1
 have hwh:=wh_bd g.w1 g.w2 g.h1 g.h2
 have h1:=alldir_ok w g s hb ha hfree
 go_enter Tryz.func127,Tryz.ntmps127
 go_wp2_with fail
 refine h1.mono ?_
 rintro e w1 ⟨v1,L,rfl,hown1,⟨hrise,hmem⟩,hb1⟩
 obtain ⟨A,cap,rfl,_⟩:=row_of hown1
 have HM:Hid (∀ n:Nat,n ∈ L↔Dir W H bl a n):=hmem
 have HR:Hid (L.Pairwise (·<·)):=hrise
 have hin:∀ n ∈ L,inB W H (n:Int)=true/\n<256:=fun n hn=>by
  have h:=((HM.out n).1 hn).in gw1 ha
  have:0<=(n:Int)/\(n:Int)<W*H:=of_decide_eq_true h
  exact ⟨h,by omega⟩
 have hLL:L.length<=256:=nodup_len 256 (hrise.imp (fun h e=>by omega)) (fun n hn=>(hin n hn).2)
 have HIN:Hid (∀ n ∈ L,inB W H (n:Int)=true/\n<256):=hin
 have hz1':=hb1.size
 clear h1 hmem hrise hin
 go_wp2
 go_loopw [7,20] (fun fv iv wr=>∃ k:Nat,k<=L.length/\iv=.int .i64 k/\wr.ownsRow w.heap.size 204 4 fv (pick p L k).length (edgesV W a (pick p L k))/\wr.ownsRow w.heap.size 3 1 (.slice A L.length cap) L.length (vals L)/\Below w.heap.size w wr)
  (fun _ i _=>L.length - (intOf i).toNat)
 case atStart=>exact ⟨0,Nat.zero_le _,rfl,World.ownsRow_nil _ _ _ _,hown1,hb1⟩
 case round =>
  obtain ⟨k,hk,rfl,hown,hrow',hB⟩:=hrel
  by_cases hlt:k<L.length
  ·obtain ⟨ba,hA⟩:∃ ba,A=some ⟨ba,0,none⟩:=by
    rcases hrow'.2 with ⟨_,h0⟩|⟨ba,_,_,hv,_⟩
    ·omega
    ·exact ⟨ba,by cases hv;rfl⟩
   subst hA
   have hcell':wr.cell? ⟨ba,k,none⟩=some (.int .i64 ((L.getD k 0:Nat):Int)):=own_int hrow' k hlt
   have hnm:L.getD k 0 ∈ L:=by rw [getD_at _ _ hlt];exact List.getElem_mem hlt
   obtain ⟨hni,hn2⟩:=HIN.out _ hnm
   have hno:=fun h=>pick_no (p:=p) hlt h
   have hys:=fun h=>pick_yes (p:=p) hlt h
   generalize hnn:L.getD k 0=n at *
   clear hnn hnm
   have i1:(0:Int)<=(k:Int):=by omega
   have i2:(k:Int)<(L.length:Int):=by omega
   have hbz:=hB.size
   have hcl:=hC wr n hB hni
   have hfl:(pick p L k).length<=256:=Nat.le_trans pick_len hLL
   cases hp:p n with
   |false =>
    have HS:Hid (pick p L (k+1)=pick p L k):=hno hp
    rw [hp] at hcl
    clear hno hys hp
    go_wp2_with fail
    refine hcl.mono ?_
    rintro e w2 ⟨rfl,hb2⟩
    have hrow2:=own_below hrow' hb2
    have hown2:=own_below hown hb2
    have B2:=hB.trans (hb2.mono hB.size)
    clear hcl hown hrow' hb2
    go_wp2
    go_roundw
    case rel=>exact ⟨k+1,by omega,by go_num,by rw [HS.out];exact hown2,hrow2,B2⟩
    case measure=>simp [intOf];omega
   |true =>
    have HS:Hid (pick p L (k+1)=pick p L k++[n]):=hys hp
    rw [hp] at hcl
    clear hno hys hp
    generalize pick p L k=F at *
    go_wp2_with fail
    refine hcl.mono ?_
    rintro e w2 ⟨rfl,hb2⟩
    have hown2:=own_below hown hb2
    have B2:=hB.trans (hb2.mono hB.size)
    have hds:=dist_any w2 (g.below B2 hb) (Nat.lt_of_lt_of_le hb B2.size) ha hni
    clear hcl
    go_wp2_with fail
    refine hds.mono ?_
    rintro e w3 ⟨rfl,hb3⟩
    have b3:=hb2.trans (hb3.mono hb2.size)
    have hrow3:=own_below hrow' b3
    have hown3:=own_below hown2 hb3
    have B3:=B2.trans (hb3.mono B2.size)
    have hz3:=B3.size
    have HEV:Hid (edgeV W a n=[.int .i64 n,.int .i64 (octS W a n),.int .i64 (octD W a n),.int .i64 (-1)]):=rfl
    clear hown hrow' hb2 hb3 b3 hds hown2 B2
    generalize octS W a n=es at *
    generalize octD W a n=ed at *
    go_wp2_with (at_builtin;refine wpList_append_own _ rfl _ _ 126 rfl w.heap.size 204 i0 (.agg #[.int .i64 0,.int .i64 0,.int .i64 0,.int .i64 0]) 4 32 Tryz.underE hi hz0 hz1 hz2 rfl (by decide) _ _ _ rfl (hown3.alloc _) ⟨w3.heap.size,0,none⟩ 1 1 [.int .i64 n,.int .i64 es,.int .i64 ed,.int .i64 (-1)] rfl rfl (cell_four_new _ _ _ _ _ _) (by intro u hu;simp at hu;rcases hu with rfl|rfl|rfl|rfl <;> rfl) ?c3 ?c4 ?c5 ?_)
    case c3=>unfold maxLen;omega
    case c4=>omega
    case c5=>simp;omega
    intro v' w4 hown' hgrow _
    have hbase:=fun q hq=>(hown3.lt q hq).1
    have B4:Below w.heap.size w w4:=(B3.alloc hz3 _).grown hgrow (by simp;omega) hbase
    have O4:w4.ownsRow w.heap.size 204 4 v' (F++[n]).length (edgesV W a (F++[n])):=by
     rw [edgesV_app,HEV.out]
     simpa using hown'
    have hrow4:=own_grown (hrow3.alloc (.cells #[.int .i64 n,.int .i64 es,.int .i64 ed,.int .i64 (-1)] 204)) hgrow (own_apart hrow3 hown3 (by decide))
    clear hown' hgrow hown3 B3
    go_wp2
    go_roundw
    case rel=>exact ⟨k+1,by omega,by go_num,by rw [HS.out];exact O4,hrow4,B4⟩
    case measure=>simp [intOf];omega
  ·have e:k=L.length:=by omega
   subst e
   have HMM:Hid (∀ n:Nat,n ∈ pick p L L.length↔Dir W H bl a n/\p n=true):=fun n=>by rw [pick_mem,HM.out n]
   have HRR:Hid ((pick p L L.length).Pairwise (·<·)):=pick_rise HR.out
   generalize pick p L L.length=F at *
   go_wp2
   go_ret
   exact ⟨_,F,rfl,hown,⟨HRR.out,HMM.out⟩,hB⟩
end
end Go.Proofs.YtmaefimaeelkbaaGreatDoor
