/-
  Texts laid together: OutM, Shelf, Sorts, AllDir, Find, Look.
-/
import Derived.Test.YtipbhlofbpnpjaaGreatDoorP6
import Derived.Test.YtipbhlofbpnpjaaGreatDoorP5
import Derived.Shelf.SlIterI.Nil
import Derived.Shelf.SortM.Plain
import Derived.Shelf.SortM.SortNone
import Derived.Test.YtipbhlofbpnpjaaGreatDoorProg
import Derived.Sort.OwnSortedInts
import Derived.Deep.RegionHeld3
namespace Go.Proofs.YtipbhlofbpnpjaaGreatDoor
section
def octN (W a b:Int):Int:=octS W a b+octD W a b
theorem octN_nonneg (W a b:Int):0<=octN W a b:=by
 have:=octS_nonneg W a b
 have:=octD_nonneg W a b
 unfold octN;omega
theorem octN_self (W a:Int):octN W a a=0:=by unfold octN;rw [octS_self,octD_self];rfl
theorem opp_opp {k:Nat}(h:k<8):opp (opp k)=k:=by unfold opp;omega
section
variable {W H : Int} {bl : Nat → Bool} {a : Int}
theorem Edge.opp {c r:Int}{k:Nat}(w1:1<=W)(e:Edge W H bl c k r):Edge W H bl r (opp k) c:=by
 obtain ⟨p1,p2⟩:=e.place w1
 have hin:=e.in' w1
 obtain ⟨h1,h2,h3,h4⟩:=e
 refine ⟨opp_lt k,hin,?_,?_⟩
 ·rw [p1,p2];exact may_back h1 h3
 ·rw [h4];exact (back_home h1).symm
def Nr (W H:Int) (bl:Nat->Bool) (a b:Int):Prop:=Wk (Edge W H bl) a b (octS W a b) (octD W a b)
theorem Nr.self:Nr W H bl a a:=by unfold Nr;rw [octS_self,octD_self];exact Wk.nil
theorem Nr.of_on (w1:1<=W){b z:Int}(hS:octS W a b<=1000)(hD:octD W a b<=1000)(h:On W H bl a b z):Nr W H bl a b:=(h.ends w1 hS hD).2.2
theorem Nr.on (w1:1<=W){b:Int}(hS:octS W a b<=1000)(hD:octD W a b<=1000)(h:Nr W H bl a b):On W H bl a b b:=On.of_near w1 hS hD h
theorem Og.far {c r:Int}{k:Nat}(w1:1<=W)(h:Og W H bl a c k r):octS W a c+stS k=octS W a r/\octD W a c+stD k=octD W a r:=by
 obtain ⟨g1,g2⟩:=(good_iff w1 (h.1.opp w1)).1 h.2
 obtain ⟨s1,s2⟩:=st_opp k
 rw [s1,octS_comm W c a,octS_comm W r a] at g1
 rw [s2,octD_comm W c a,octD_comm W r a] at g2
 exact ⟨g1,g2⟩
theorem Og.next {c r:Int}{k:Nat}(w1:1<=W)(h:Og W H bl a c k r):octN W a c+1=octN W a r:=by
 obtain ⟨g1,g2⟩:=h.far w1
 have:=st_bd k
 unfold octN
 omega
theorem Nr.out {c r:Int}{k:Nat}(w1:1<=W)(h:Nr W H bl a c)(o:Og W H bl a c k r):Nr W H bl a r:=by
 obtain ⟨g1,g2⟩:=o.far w1
 have:=h.step o.1
 rw [g1,g2] at this
 exact this
theorem Og.on {c r:Int}{k:Nat}(w1:1<=W)(hS:octS W a r<=1000)(hD:octD W a r<=1000)(h:Nr W H bl a c)(o:Og W H bl a c k r):On W H bl a r c:=by
 obtain ⟨g1,g2⟩:=o.far w1
 obtain ⟨s1,s2⟩:=st_opp k
 have hb:=wk_edge (o.1.opp w1)
 rw [s1,s2] at hb
 exact On.of_walks w1 hS hD h hb g1 g2
theorem Og.prev {r q:Int}(w1:1<=W)(hS:octS W a r<=1000)(hD:octD W a r<=1000)(h:On W H bl a r q)(hne:q≠r) :
  ∃ c k,Nr W H bl a c/\Og W H bl a c k r/\On W H bl a c q:=by
 have hS':octS W r a<=1000:=by rw [octS_comm];exact hS
 have hD':octD W r a<=1000:=by rw [octD_comm];exact hD
 obtain ⟨h1,h2,h3,h4⟩:=h.walks w1 hS hD
 have n1:=octS_nonneg W a q
 have n2:=octD_nonneg W a q
 have qS:octS W r q<=1000:=by omega
 have qD:octD W r q<=1000:=by omega
 -- the first step back from r towards q
 have hon:On W H bl r q r:=(On.of_near w1 qS qD h2).ends w1 qS qD |>.1
 obtain ⟨j,c,ej,gj,hc⟩:=On.next w1 qS qD hon (Ne.symm hne)
 obtain ⟨g1,g2⟩:=(good_iff w1 ej).1 gj
 obtain ⟨c1,c2,c3,c4⟩:=hc.walks w1 qS qD
 rw [octS_comm W c q,octS_comm W r q] at g1
 rw [octD_comm W c q,octD_comm W r q] at g2
 rw [octS_comm W r q] at c3
 rw [octD_comm W r q] at c4
 have hra:On W H bl r a c:=On.trans w1 hS' hD' h.sym hc
 obtain ⟨d1,d2,d3,d4⟩:=hra.walks w1 hS' hD'
 have hj:=ej.1
 refine ⟨c,opp j,d2,⟨ej.opp w1,?_⟩,?_⟩
 ·rw [opp_opp hj]
  refine (good_iff w1 ej).2 ⟨?_,?_⟩
  ·rw [octS_comm W c a];omega
  ·rw [octD_comm W c a];omega
 ·rw [octS_comm W r q] at h3
  rw [octD_comm W r q] at h4
  rw [octS_comm W r a] at d3
  rw [octD_comm W r a] at d4
  have m1:=octS_nonneg W r c
  have m2:=octD_nonneg W r c
  refine On.of_walks w1 (by omega) (by omega) h1 (c2.back (Edge.back w1)) ?_ ?_
  ·omega
  ·omega
theorem Nr.prev {r:Int}(w1:1<=W)(hS:octS W a r<=1000)(hD:octD W a r<=1000)(h:Nr W H bl a r)(hne:r≠a):∃ c k,Nr W H bl a c/\Og W H bl a c k r:=by
 obtain ⟨c,k,h1,h2,_⟩:=Og.prev w1 hS hD ((h.on w1 hS hD).ends w1 hS hD).1 (Ne.symm hne)
 exact ⟨c,k,h1,h2⟩
def Bhd (W H:Int) (bl:Nat->Bool) (a r:Int):Prop:=∃ q,On W H bl a r q/\CornC W H bl q/\q≠a/\q≠r
theorem Bhd.iff {r:Int}(w1:1<=W)(hS:octS W a r<=1000)(hD:octD W a r<=1000) :
  Bhd W H bl a r↔∃ c k,Nr W H bl a c/\Og W H bl a c k r/\(Bhd W H bl a c\/(CornC W H bl c/\c≠a)):=by
 constructor
 ·rintro ⟨q,hq,hc,h1,h2⟩
  obtain ⟨c,k,hn,ho,hon⟩:=Og.prev w1 hS hD hq h2
  refine ⟨c,k,hn,ho,?_⟩
  by_cases e:q=c
  ·rw [e] at hc h1
   exact Or.inr ⟨hc,h1⟩
  ·exact Or.inl ⟨q,hon,hc,h1,e⟩
 ·rintro ⟨c,k,hn,ho,hb⟩
  have hon:=ho.on w1 hS hD hn
  have hlt:=ho.next w1
  rcases hb with ⟨q,hq,hc,h1,h2⟩|⟨hc,h1⟩
  ·refine ⟨q,On.trans w1 hS hD hon hq,hc,h1,fun e=>?_⟩
   obtain ⟨g1,g2⟩:=ho.far w1
   have:=st_bd k
   obtain ⟨_,_,q3,q4⟩:=hq.walks w1 (by omega) (by omega)
   have n1:=octS_nonneg W c q
   have n2:=octD_nonneg W c q
   rw [e] at q3 q4 n1 n2
   unfold octN at hlt
   omega
  ·exact ⟨c,hon,hc,h1,fun e=>by rw [e] at hlt;omega⟩
theorem Bhd.not_self (w1:1<=W):¬ Bhd W H bl a a:=by
 rintro ⟨q,hq,hc,h1,_⟩
 rcases (Dir.self (H:=H) (bl:=bl) w1).2 q hq hc with e|e <;> exact h1 e
theorem Dir.iff {r:Int}(w1:1<=W)(hS:octS W a r<=1000)(hD:octD W a r<=1000):Dir W H bl a r↔Nr W H bl a r/\¬ Bhd W H bl a r:=by
 constructor
 ·rintro ⟨⟨z,hz⟩,h⟩
  refine ⟨Nr.of_on w1 hS hD hz,?_⟩
  rintro ⟨q,hq,hc,h1,h2⟩
  rcases h q hq hc with e|e
  ·exact h1 e
  ·exact h2 e
 ·rintro ⟨hn,hb⟩
  refine ⟨⟨r,hn.on w1 hS hD⟩,fun q hq hc=>?_⟩
  by_cases e1:q=a
  ·exact Or.inl e1
  ·by_cases e2:q=r
   ·exact Or.inr e2
   ·exact absurd ⟨q,hq,hc,e1,e2⟩ hb
theorem Nr.in (w1:1<=W)(ha:inB W H a=true){r:Int}(h:Nr W H bl a r):inB W H r=true:=wk_in' w1 ha h
theorem octN_zero {r:Int}(h:octN W a r=0):r=a:=by
 have n1:=octS_nonneg W a r
 have n2:=octD_nonneg W a r
 unfold octN at h
 exact (oct_zero (W:=W) (a:=a) (b:=r) (by omega) (by omega)).symm
theorem Nr.mid (w1:1<=W)(hbd:∀ r,Nr W H bl a r->octS W a r<=1000/\octD W a r<=1000):∀ (n:Nat) (r:Int),Nr W H bl a r->octN W a r=n->∀ i:Nat,i<=n->∃ z,Nr W H bl a z/\octN W a z=i:=by
 intro n
 induction n with
 |zero=>intro r hr hn i hi;exact ⟨r,hr,by omega⟩
 |succ n ih =>
  intro r hr hn i hi
  by_cases e:i=n+1
  ·exact ⟨r,hr,by omega⟩
  ·have hne:r≠a:=fun e=>by rw [e,octN_self] at hn;omega
   obtain ⟨h1,h2⟩:=hbd r hr
   obtain ⟨c,k,hc,ho⟩:=hr.prev w1 h1 h2 hne
   have:=ho.next w1
   exact ih c hc (by omega) i (by omega)
theorem Tw.in {t z:Int}(w1:1<=W)(ha:inB W H a=true)(h:Tw W H bl a t z):inB W H z=true :=
 h (fun z=>inB W H z=true) ha (fun _ _ _ _ e _=>e.in' w1)
theorem On.in_b {b z:Int}(w1:1<=W)(ha:inB W H a=true)(h:On W H bl a b z):inB W H b=true:=by
 have q:z=b\/inB W H b=true:=h.2 (fun z=>z=b\/inB W H b=true) (Or.inl rfl) (fun p k r hp e _=>by
  rcases hp with rfl|hp
  ·exact Or.inr e.2.1
  ·exact Or.inr hp)
 rcases q with e|e
 ·rw [<- e];exact h.1.in w1 ha
 ·exact e
theorem Dir.in {b:Int}(w1:1<=W)(ha:inB W H a=true)(h:Dir W H bl a b):inB W H b=true:=by
 obtain ⟨z,hz⟩:=h.1
 exact hz.in_b w1 ha
end
end
section
open Go.Shelf
def Tryz.keysA_ren:Go.Shelf.Ren:=⟨fun|7=>100|10=>139|n=>n,fun|23=>129|26=>3|3=>141|28=>171|0=>0|27=>170|33=>183|4=>4|n=>n,fun|n=>n⟩
theorem Tryz.keysA:Go.Proofs.SlLaysZI.n7 Tryz.prog Tryz.keysA_ren:={
 mixed:=by kernel_rfl
 f7:=⟨Tryz.f100.name,by decide,Tryz.func100.trans (congrArg some (by kernel_rfl))⟩
 f10:=⟨Tryz.f139.name,by decide,Tryz.func139.trans (congrArg some (by kernel_rfl))⟩
 t0:=Tryz.underlying0
 a0:=Tryz.isAgg0
 z0:=Tryz.sizeOf0
 v0:=Tryz.zeroValue0
 t4:=Tryz.underlying4
 a4:=Tryz.isAgg4
 z4:=Tryz.sizeOf4
 v4:=Tryz.zeroValue4
 t23:=Tryz.underlying129
 a23:=Tryz.isAgg129
 z23:=Tryz.sizeOf129
 v23:=Tryz.zeroValue129
 t26:=Tryz.underlying3
 a26:=Tryz.isAgg3
 z26:=Tryz.sizeOf3
 v26:=Tryz.zeroValue3
 t27:=Tryz.underlying170
 a27:=Tryz.isAgg170
 z27:=Tryz.sizeOf170
 v27:=Tryz.zeroValue170
 t28:=Tryz.underlying171
 a28:=Tryz.isAgg171
 z28:=Tryz.sizeOf171
 v28:=Tryz.zeroValue171
 t33:=Tryz.underlying183
 a33:=Tryz.isAgg183
 z33:=Tryz.sizeOf183
 v33:=Tryz.zeroValue183 }
def Tryz.sortedA_ren:Go.Shelf.Ren:=⟨fun|6=>99|8=>137|9=>138|11=>173|13=>175|12=>174|23=>204|24=>205|14=>195|15=>196|16=>197|17=>198|18=>199|19=>200|20=>201|21=>202|22=>203|25=>227|26=>228|27=>229|28=>230|29=>231|30=>232|31=>244|n=>n,fun|26=>3|28=>171|24=>22|0=>0|3=>3|37=>246|48=>274|50=>276|4=>4|40=>268|39=>267|45=>136|5=>5|9=>9|51=>294|55=>298|57=>310|58=>49|33=>183|n=>n,fun|n=>n⟩
theorem Tryz.sortedA:Go.Proofs.SlLaysZI.n6 Tryz.prog Tryz.sortedA_ren:={
 mixed:=by kernel_rfl
 f6:=⟨Tryz.f99.name,by decide,Tryz.func99.trans (congrArg some (by kernel_rfl))⟩
 f8:=⟨Tryz.f137.name,by decide,Tryz.func137.trans (congrArg some (by kernel_rfl))⟩
 f11:=⟨Tryz.f173.name,by decide,Tryz.func173.trans (congrArg some (by kernel_rfl))⟩
 t0:=Tryz.underlying0
 a0:=Tryz.isAgg0
 z0:=Tryz.sizeOf0
 v0:=Tryz.zeroValue0
 t24:=Tryz.underlying22
 a24:=Tryz.isAgg22
 z24:=Tryz.sizeOf22
 v24:=Tryz.zeroValue22
 t26:=Tryz.underlying3
 a26:=Tryz.isAgg3
 z26:=Tryz.sizeOf3
 v26:=Tryz.zeroValue3
 t28:=Tryz.underlying171
 a28:=Tryz.isAgg171
 z28:=Tryz.sizeOf171
 v28:=Tryz.zeroValue171
 i26:=by kernel_rfl }
def Tryz.sortA_ren:Go.Shelf.Ren:=⟨fun|5=>138|8=>175|7=>174|19=>204|20=>205|10=>195|11=>196|12=>197|13=>198|14=>199|15=>200|16=>201|17=>202|18=>203|30=>227|31=>228|32=>229|33=>230|34=>231|35=>232|40=>244|n=>n,fun|23=>22|25=>3|3=>3|32=>246|22=>22|0=>0|44=>274|46=>276|4=>4|36=>268|35=>267|41=>136|5=>5|9=>9|53=>294|57=>298|63=>310|64=>49|n=>n,fun|n=>n⟩
theorem Tryz.sortA:Go.Proofs.SlLaysM.n5 Tryz.prog Tryz.sortA_ren:={
 mixed:=by kernel_rfl
 f5:=⟨Tryz.f138.name,by decide,Tryz.func138.trans (congrArg some (by kernel_rfl))⟩
 f7:=⟨Tryz.f174.name,by decide,Tryz.func174.trans (congrArg some (by kernel_rfl))⟩
 f8:=Tryz.func175.trans (congrArg some (by kernel_rfl))
 f10:=⟨Tryz.f195.name,by decide,Tryz.func195.trans (congrArg some (by kernel_rfl))⟩
 f11:=⟨Tryz.f196.name,by decide,Tryz.func196.trans (congrArg some (by kernel_rfl))⟩
 f12:=⟨Tryz.f197.name,by decide,Tryz.func197.trans (congrArg some (by kernel_rfl))⟩
 f13:=⟨Tryz.f198.name,by decide,Tryz.func198.trans (congrArg some (by kernel_rfl))⟩
 f14:=⟨Tryz.f199.name,by decide,Tryz.func199.trans (congrArg some (by kernel_rfl))⟩
 f15:=⟨Tryz.f200.name,by decide,Tryz.func200.trans (congrArg some (by kernel_rfl))⟩
 f16:=⟨Tryz.f201.name,by decide,Tryz.func201.trans (congrArg some (by kernel_rfl))⟩
 f17:=⟨Tryz.f202.name,by decide,Tryz.func202.trans (congrArg some (by kernel_rfl))⟩
 f18:=⟨Tryz.f203.name,by decide,Tryz.func203.trans (congrArg some (by kernel_rfl))⟩
 f19:=Tryz.func204.trans (congrArg some (by kernel_rfl))
 f20:=Tryz.func205.trans (congrArg some (by kernel_rfl))
 f30:=⟨Tryz.f227.name,by decide,Tryz.func227.trans (congrArg some (by kernel_rfl))⟩
 f31:=Tryz.func228.trans (congrArg some (by kernel_rfl))
 f32:=Tryz.func229.trans (congrArg some (by kernel_rfl))
 f33:=⟨Tryz.f230.name,by decide,Tryz.func230.trans (congrArg some (by kernel_rfl))⟩
 f34:=⟨Tryz.f231.name,by decide,Tryz.func231.trans (congrArg some (by kernel_rfl))⟩
 f35:=⟨Tryz.f232.name,by decide,Tryz.func232.trans (congrArg some (by kernel_rfl))⟩
 f40:=⟨Tryz.f244.name,by decide,Tryz.func244.trans (congrArg some (by kernel_rfl))⟩
 t0:=Tryz.underlying0
 a0:=Tryz.isAgg0
 z0:=Tryz.sizeOf0
 v0:=Tryz.zeroValue0
 t3:=Tryz.underlying3
 a3:=Tryz.isAgg3
 z3:=Tryz.sizeOf3
 v3:=Tryz.zeroValue3
 t4:=Tryz.underlying4
 a4:=Tryz.isAgg4
 z4:=Tryz.sizeOf4
 v4:=Tryz.zeroValue4
 t5:=Tryz.underlying5
 a5:=Tryz.isAgg5
 z5:=Tryz.sizeOf5
 v5:=Tryz.zeroValue5
 t9:=Tryz.underlying9
 a9:=Tryz.isAgg9
 z9:=Tryz.sizeOf9
 v9:=Tryz.zeroValue9
 t22:=Tryz.underlying22
 a22:=Tryz.isAgg22
 z22:=Tryz.sizeOf22
 v22:=Tryz.zeroValue22
 t23:=Tryz.underlying22
 a23:=Tryz.isAgg22
 z23:=Tryz.sizeOf22
 v23:=Tryz.zeroValue22
 t25:=Tryz.underlying3
 a25:=Tryz.isAgg3
 z25:=Tryz.sizeOf3
 v25:=Tryz.zeroValue3
 t32:=Tryz.underlying246
 a32:=Tryz.isAgg246
 z32:=Tryz.sizeOf246
 v32:=Tryz.zeroValue246
 t35:=Tryz.underlying267
 a35:=Tryz.isAgg267
 z35:=Tryz.sizeOf267
 v35:=Tryz.zeroValue267
 t36:=Tryz.underlying268
 a36:=Tryz.isAgg268
 z36:=Tryz.sizeOf268
 v36:=Tryz.zeroValue268
 t41:=Tryz.underlying136
 a41:=Tryz.isAgg136
 z41:=Tryz.sizeOf136
 v41:=Tryz.zeroValue136
 t44:=Tryz.underlying274
 a44:=Tryz.isAgg274
 z44:=Tryz.sizeOf274
 v44:=Tryz.zeroValue274
 t46:=Tryz.underlying276
 a46:=Tryz.isAgg276
 z46:=Tryz.sizeOf276
 v46:=Tryz.zeroValue276
 t53:=Tryz.underlying294
 a53:=Tryz.isAgg294
 z53:=Tryz.sizeOf294
 v53:=Tryz.zeroValue294
 t57:=Tryz.underlying298
 a57:=Tryz.isAgg298
 z57:=Tryz.sizeOf298
 v57:=Tryz.zeroValue298
 t63:=Tryz.underlying310
 a63:=Tryz.isAgg310
 z63:=Tryz.sizeOf310
 v63:=Tryz.zeroValue310
 t64:=Tryz.underlying49
 a64:=Tryz.isAgg49
 z64:=Tryz.sizeOf49
 v64:=Tryz.zeroValue49 }
end
section
open Go.RowKit Go.Sort
theorem rise_ext:∀ {l l':List Int},l.Pairwise (·<·)->l'.Pairwise (·<·)->(∀ x,x ∈ l↔x ∈ l')->l=l'
 |[],[],_,_,_=>rfl
 |[],y::l',_,_,h=>absurd ((h y).2 (List.mem_cons_self ..)) (List.not_mem_nil)
 |x::l,[],_,_,h=>absurd ((h x).1 (List.mem_cons_self ..)) (List.not_mem_nil)
 |x::l,y::l',h1,h2,h=>by
  rw [List.pairwise_cons] at h1 h2
  have e:x=y:=by
   rcases List.mem_cons.1 ((h x).1 (List.mem_cons_self ..)) with e|e
   ·exact e
   ·rcases List.mem_cons.1 ((h y).2 (List.mem_cons_self ..)) with f|f
    ·exact f.symm
    ·have:=h2.1 x e
     have:=h1.1 y f
     omega
  subst e
  have ih:=rise_ext h1.2 h2.2 (fun z=>by
   constructor
   ·intro hz
    rcases List.mem_cons.1 ((h z).1 (List.mem_cons_of_mem _ hz)) with e|e
    ·have:=h1.1 z hz;omega
    ·exact e
   ·intro hz
    rcases List.mem_cons.1 ((h z).2 (List.mem_cons_of_mem _ hz)) with e|e
    ·have:=h2.1 z hz;omega
    ·exact e)
  rw [ih]
abbrev intsN (l:List Nat):List Int:=l.map fun n:Nat=>(n:Int)
theorem mem_intsN {l:List Nat}{x:Int}:x ∈ intsN l↔∃ n:Nat,n ∈ l/\x=n:=by
 unfold intsN
 rw [List.mem_map]
 exact ⟨fun ⟨n,h,e⟩=>⟨n,h,e.symm⟩,fun ⟨n,h,e⟩=>⟨n,h,e.symm⟩⟩
theorem rise_intsN {l:List Nat}(h:l.Pairwise (·<·)):(intsN l).Pairwise (·<·):=by
 unfold intsN
 rw [List.pairwise_map]
 exact h.imp (fun h=>by omega)
theorem rise_eq {l l':List Nat}(h1:l.Pairwise (·<·))(h2:l'.Pairwise (·<·))(h:∀ n,n ∈ l↔n ∈ l'):l=l':=by
 have:=rise_ext (rise_intsN h1) (rise_intsN h2) (fun x=>by
  rw [mem_intsN,mem_intsN]
  exact ⟨fun ⟨n,a,b⟩=>⟨n,(h n).1 a,b⟩,fun ⟨n,a,b⟩=>⟨n,(h n).2 a,b⟩⟩)
 have q:=congrArg (List.map Int.toNat) this
 simpa [intsN,List.map_map,Function.comp_def] using q
theorem srt_ex (L:List Nat)(hn:L.Nodup):∃ l:List Nat,l.Pairwise (·<·)/\(∀ n,n ∈ l↔n ∈ L)/\l.length=L.length/\(intsN L).mergeSort (fun x y=>decide (x<=y))=intsN l:=by
 have hp:=List.mergeSort_perm (intsN L) (fun x y=>decide (x<=y))
 have hs:((intsN L).mergeSort (fun x y=>decide (x<=y))).Pairwise (fun x y=>decide (x<=y)=true):=List.pairwise_mergeSort (fun a b c h1 h2=>by simp at *;omega) (fun a b=>by simp;omega) (intsN L)
 have hnI:(intsN L).Nodup:=by
  unfold intsN List.Nodup
  rw [List.pairwise_map]
  exact hn.imp (fun h e=>h (by omega))
 have hnd:=hp.nodup_iff.2 hnI
 generalize (intsN L).mergeSort (fun x y=>decide (x<=y))=Z at *
 have hlt:Z.Pairwise (·<·):=by
  have:=hs.and hnd
  refine this.imp ?_
  rintro a b ⟨h1,h2⟩
  have:=of_decide_eq_true h1
  omega
 have hz:∀ x ∈ Z,0<=x:=fun x hx=>by
  obtain ⟨n,_,e⟩:=mem_intsN.1 (hp.mem_iff.1 hx)
  omega
 have eZ:intsN (Z.map Int.toNat)=Z:=by
  unfold intsN
  rw [List.map_map]
  conv=>rhs;rw [<- List.map_id Z]
  exact List.map_congr_left (fun x hx=>by
   have:=hz x hx
   simp
   omega)
 refine ⟨Z.map Int.toNat,?_,fun n=>?_,?_,eZ.symm⟩
 ·rw [List.pairwise_map]
  refine List.Pairwise.imp_of_mem ?_ hlt
  intro a b ha hb h
  have:=hz a ha
  omega
 ·rw [List.mem_map]
  constructor
  ·rintro ⟨x,hx,rfl⟩
   obtain ⟨m,hm,e⟩:=mem_intsN.1 (hp.mem_iff.1 hx)
   rw [e];exact hm
  ·intro hn
   exact ⟨n,hp.mem_iff.2 (mem_intsN.2 ⟨n,hn,rfl⟩),by simp⟩
 ·rw [List.length_map,hp.length_eq]
  simp [intsN]
theorem nodup_len:∀ (N:Nat) {L:List Nat},L.Nodup->(∀ n ∈ L,n<N)->L.length<=N
 |0,[],_,_=>Nat.le_refl _
 |0,x::_,_,h=>absurd (h x (List.mem_cons_self ..)) (Nat.not_lt_zero _)
 |N+1,L,hn,h=>by
  have h1:=nodup_len N (L:=L.erase N) (hn.erase N) (fun n hm=>by
   have:=(hn.mem_erase_iff).1 hm
   have:=h n this.2
   omega)
  have h2:L.length<=(L.erase N).length+1:=by
   rw [List.length_erase]
   split <;> omega
  omega
theorem own_grown {w w':World}{base e n:Nat}{row:Option Nat}{k:Nat}{v:Value}{xs:List Value}(h:w.ownsRow base e k v n xs)(hg:w.grownBy w' row)(hne:∀ g,v.ownBlock=some g->some g≠row):w'.ownsRow base e k v n xs:=by
 refine h.kept hg ?_
 cases hv:v.ownBlock with
 |none=>exact Or.inl rfl
 |some g=>exact Or.inr (hne g hv)
theorem own_keep {F:Nat->Prop}{w w':World}{base e k n:Nat}{v:Value}{xs:List Value}(h:w.ownsRow base e k v n xs)(K:Keep F w w')(hne:∀ g,v.ownBlock=some g->¬ F g):w'.ownsRow base e k v n xs:=by
 refine ⟨h.1,?_⟩
 rcases h.2 with h2|⟨g,cap,cur,hv,hbase,hg,h3⟩
 ·exact Or.inl h2
 ·refine Or.inr ⟨g,cap,cur,hv,hbase,(K.block g (Array.getElem?_eq_some_iff.1 hg).1 (hne g (by rw [hv];rfl))).trans hg,h3⟩
theorem own_map {P:Program}{kt:TypeId}{w:World}{b m:Nat}{f:Int->Option Value}{base e k n:Nat}{v:Value}{xs:List Value}(h:w.ownsRow base e k v n xs)(M:MapF P kt w b f m):∀ g,v.ownBlock=some g->g≠b:=by
 intro g hg e
 obtain ⟨D,⟨es,clock,h1,_⟩,_⟩:=M
 rcases h.2 with ⟨rfl,_⟩|⟨g',cap,cur,rfl,_,hgg,_⟩
 ·cases hg
 ·simp only [Value.ownBlock,Option.some.injEq] at hg
  rw [hg,e,h1] at hgg
  cases hgg
theorem sort_row {base:Nat}{v:Value}{L l:List Nat}(w:World)(h:w.ownsRow base 3 1 v L.length (vals L))(hne:L≠[])(hl:l.length=L.length)(hs:(intsN L).mergeSort (fun x y=>decide (x<=y))=intsN l)(hlen:L.length<=256) :
  Calls Tryz.prog 138 #[v] w fun e w'=>e=.returned (.tuple #[])/\w'.ownsRow base 3 1 v l.length (vals l)/\w.grownBy w' v.ownBlock:=by
 rcases h.2 with ⟨_,h0⟩|⟨g,cap,cur,rfl,hbase,hg,h1,h2,h3,h4⟩
 ·exact absurd (List.length_eq_zero_iff.1 h0) hne
 ·have hv:vals L=(intsN L).map (Value.int .i64):=by simp [vals,intsN]
  have hv':vals l=(intsN l).map (Value.int .i64):=by simp [vals,intsN]
  have hL:(intsN L).length=L.length:=by simp [intsN]
  have hl':(intsN l).length=(intsN L).length:=by simp [intsN,hl]
  have hH:Go.Sort.Holds (Value.int .i64) w g 0 (intsN L).toArray:=holds_of_blockI hg (by rw [hL,<- hv];simpa using h4)
  have hc:=AnyM.slices_Sort_int Tryz.sortA g 0 cap (intsN L) w hH (Array.getElem?_eq_some_iff.1 hg).1 (by rw [hL];omega)
  rw [hs,hL] at hc
  refine hc.mono ?_
  rintro e w' ⟨rfl,n,os,rfl⟩
  refine ⟨rfl,?_,grownBy_sortedI _⟩
  have:=ownsRow_sortedI (base:=base) (n:=n) (os:=os) (ss:=intsN L) (ts:=intsN l) hl' hbase hg (by rw [hL];exact h1) h2 h3
  rw [hL] at this
  rw [hl,hv']
  exact this
end
section
open Go.RowKit
theorem errV_nil:errV 0=.nilIface:=rfl
theorem errV_some {n:Int}(h:n≠0):errV n=.iface 39 (.int .i64 n):=by unfold errV;rw [if_neg h]
set_option maxHeartbeats 400000 in
theorem alldir_err {b:Nat}{W H V:Int}{bl:Nat->Bool}(a:Int)(w:World)(g:GridAt w b W H V bl)(hf:ffv W H bl a≠0) :
  Calls Tryz.prog 145 #[.pointer (some ⟨b,0,none⟩),.int .i64 a] w fun e w'=>e=.returned (.tuple #[.slice none 0 0,errV (ffv W H bl a)])/\Below w.heap.size w w':=by
 have h1:=check_any a w g
 rw [errV_some hf] at h1 ⊢
 go_enter Tryz.func145,Tryz.ntmps145
 go_wp2_with fail
 refine h1.mono ?_
 rintro e w1 ⟨rfl,hb1⟩
 clear h1
 go_wp2
 go_ret2
 exact ⟨rfl,hb1⟩
theorem own_rng {P:Program}{kt:TypeId}{w:World}{b r m cnt:Nat}{f:Int->Option Value}{left:Int->Bool}{base e k n:Nat}{v:Value}{xs:List Value}(h:w.ownsRow base e k v n xs)(M:RngF P kt w b r f m left cnt):∀ g,v.ownBlock=some g->some g≠some r:=by
 intro g hg e
 obtain ⟨D,lf,⟨es,clock,since,seen,c0,h1,h2,h3,h4,h5,h6⟩,h7⟩:=M
 rcases h.2 with ⟨rfl,_⟩|⟨g',cap,cur,rfl,_,hgg,_⟩
 ·cases hg
 ·simp only [Value.ownBlock,Option.some.injEq] at hg
  rw [hg,Option.some.inj e,h5] at hgg
  cases hgg
set_option maxHeartbeats 4000000 in
set_option maxRecDepth 1000000 in
theorem alldir_ok {b:Nat}{W H V a:Int}{bl:Nat->Bool}(w:World)(g:GridAt w b W H V bl)(s:StepsAt w)(hb:b<w.heap.size)(ha:inB W H a=true)(hfree:bl a.toNat=false) :
  Calls Tryz.prog 145 #[.pointer (some ⟨b,0,none⟩),.int .i64 a] w fun e w'=>∃ v l,e=.returned (.tuple #[v,.nilIface])/\w'.ownsRow w.heap.size 3 1 v l.length (vals l)/\(l.Pairwise (·<·)/\∀ n:Nat,n ∈ l↔Dir W H bl a n)/\Below w.heap.size w w':=by
 have gw1:=g.w1
 have gw2:=g.w2
 have gh1:=g.h1
 have gh2:=g.h2
 have hwh:=wh_bd g.w1 g.w2 g.h1 g.h2
 have hia:0<=a/\a<W*H:=of_decide_eq_true ha
 have hwa:=wf_small hia.1 (show a<256 by omega)
 have HBD:Hid (∀ r,Nr W H bl a r->octS W a r<=1000/\octD W a r<=1000):=fun r hr=>by
  have:=oct_small gw1 gw2 gh1 gh2 ha (hr.in gw1 ha)
  omega
 have HDI:Hid (∀ n:Int,Dir W H bl a n↔Nr W H bl a n/\¬ Bhd W H bl a n):=fun n=>by
  constructor
  ·intro hd
   have:=oct_small gw1 gw2 gh1 gh2 ha (hd.in gw1 ha)
   exact (Dir.iff gw1 (by omega) (by omega)).1 hd
  ·intro hd
   obtain ⟨q1,q2⟩:=HBD.out n hd.1
   exact (Dir.iff gw1 q1 q2).2 hd
 have HIN:Hid (∀ n:Int,Nr W H bl a n->0<=n/\n<256/\inB W H n=true/\octN W a n<=32):=fun n hn=>by
  have h1:=hn.in gw1 ha
  have h2:0<=n/\n<W*H:=of_decide_eq_true h1
  have:=oct_small gw1 gw2 gh1 gh2 ha h1
  exact ⟨h2.1,by omega,h1,by unfold octN;omega⟩
 obtain ⟨i0,hi,hz0,hz1,hz2⟩:=info_parts Tryz.info3
 have h1:=check_any a w g
 rw [ffv_zero ha hfree,errV_nil] at h1
 have hmm:=@run_makeMap Tryz.prog
 go_enter Tryz.func145,Tryz.ntmps145
 go_wp2_with fail
 refine h1.mono ?_
 rintro e w1 ⟨rfl,hb1⟩
 clear h1
 have hM0:=(SetAt.made w1).grown (World.grownBy_alloc (w1.alloc (.map #[] 0)) (.map #[] 0) none) (by simp)
 have hM1:=SetAt.made (w1.alloc (.map #[] 0))
 have hzz:(w1.alloc (.map #[] 0)).heap.size=w1.heap.size+1:=by simp
 have B0:Below w.heap.size w ((w1.alloc (.map #[] 0)).alloc (.map #[] 0)):=(hb1.alloc hb1.size _).alloc (by have:=hb1.size;simp;omega) _
 rw [hzz] at hM1
 go_wp2_with (first|(refine wpList_ins rfl _ _ _ 134 rfl 3 185 law3 Tryz.underS (w1.heap.size+1) _ _ (by first|rfl|(rw [hzz];rfl)) hM1.mp hM1.room a (.agg #[]) rfl rfl hwa ?_;intro w2 hm2 ht2;go_frame)|go_in)
 have hF0:=hM1.put hia.1 (show a<256 by omega) hm2
 have hg2:=ht2.grown
 have hA0:=hM0.grown hg2 (fun e=>by have:=Option.some.inj e;omega)
 have B1:Below w.heap.size w w2:=B0.grown hg2 (by have:=hb1.size;simp;omega) (fun k e=>by cases e;have:=hb1.size;omega)
 have hz1':=hb1.size
 clear hM0 hM1 hzz B0 hm2 ht2 hg2 hmm
 generalize hbb:w1.heap.size=bb at *
 clear hbb hb1
 go_loopg [7,9] 60 (fun gk dv fv wr=>∃ (i fb:Nat) (SF SB:Int->Bool) (L:List Nat),gk=60 - i/\fv=.map (some fb)/\bb<fb/\SetAt wr fb SF/\SetAt wr bb SB/\Hid (∀ z,SF z=true↔Nr W H bl a z/\octN W a z=i)/\Hid (∀ z,SB z=true↔(Nr W H bl a z/\octN W a z<=i)/\Bhd W H bl a z) /\
   wr.ownsRow w.heap.size 3 1 dv L.length (vals L)/\L.Nodup/\Hid (∀ n:Nat,n ∈ L↔Dir W H bl a n/\octN W a n<i)/\Below w.heap.size w wr)
 case atStart =>
  refine ⟨0,_,_,_,[],rfl,rfl,Nat.lt_succ_self _,hF0,hA0,fun z=>?_,fun z=>⟨fun h=>(by cases h),?_⟩,World.ownsRow_nil _ _ _ _,List.nodup_nil,fun n=>?_,B1⟩
  ·rw [insS_iff]
   constructor
   ·rintro (rfl|h)
    ·exact ⟨Nr.self,by rw [octN_self];rfl⟩
    ·cases h
   ·rintro ⟨h1,h2⟩
    exact Or.inl (octN_zero h2)
  ·rintro ⟨⟨h1,h2⟩,h3⟩
   have:=octN_nonneg W a z
   have e:=octN_zero (W:=W) (a:=a) (r:=z) (by simp at h2;omega)
   rw [e] at h3
   exact absurd h3 (Bhd.not_self gw1)
  ·have:=octN_nonneg W a n
   simp
   omega
 case round =>
  obtain ⟨i,fb,SF,SB,L,hgk,rfl,hfb,hF,hB,hFi,hBi,hown,hnd,hLi,hBw⟩:=hrel
  have hlen:=fun ty=>hF.mp.len (t:=134) Tryz.underS ty
  have hne:=hF.ne_nil
  have hLL:L.length<=256:=nodup_len 256 hnd (fun n hn=>by
   have:=HIN.out n ((HDI.out n).1 ((hLi.out n).1 hn).1).1
   omega)
  have HND:Hid L.Nodup:=hnd
  clear hnd
  by_cases hpos:0<cntS SF 256
  ·obtain ⟨z,hz⟩:=hne.1 hpos
   have hz':=(hFi.out z).1 hz
   have hzn:=HIN.out z hz'.1
   have hcp:(0:Int)<((cntS SF 256:Nat):Int):=by omega
   have hle:i<=32:=by omega
   clear hne hz hz' hzn
   have hbz:=hBw.size
   have hfl:=hF.lt
   have hbl:=hB.lt
   go_wp2_with (first|(at_range;refine wpList_rangeF rfl _ 134 rfl 3 185 law3 Tryz.underS fb _ _ rfl hF.mp ?_;intro w3 hrg3 hg3 hs3)|go_in)
   have hB3:=hB.grown hg3 (by simp)
   have hown3:=own_grown hown hg3 (by simp)
   have hB3':Below w.heap.size w w3:=hBw.grown hg3 hbz (by simp)
   generalize hr:wr.heap.size=r at *
   clear hown hB hBw hg3 hlen
   go_frame
   go_loopg [7] (cntS SF 256) (fun gj dv' wq=>∃ (left:Int->Bool) (cnt:Nat) (L':List Nat),gj=cnt/\RngS wq fb r SF left cnt/\SetAt wq bb SB/\wq.ownsRow w.heap.size 3 1 dv' L'.length (vals L')/\Hid L'.Nodup/\Hid (∀ n:Nat,n ∈ L'↔n ∈ L\/((SF n=true/\left n=false)/\SB n=false))/\Below w.heap.size w wq/\r<wq.heap.size)
   case atStart =>
    refine ⟨_,_,L,rfl,hrg3,hB3,hown3,HND.out,fun n=>⟨Or.inl,?_⟩,hB3',by omega⟩
    rintro (h|⟨⟨h1,h2⟩,_⟩)
    ·exact h
    ·rw [setF_isSome,h1] at h2
     cases h2
   case round =>
    obtain ⟨left,cnt,L',hgj,hrg,hBq,hown,hnd,hLq,hBw,hrq⟩:=hrel
    have hbq:=hBw.size
    have hLL':L'.length<=256:=nodup_len 256 hnd.out (fun n hn=>by
     rcases (hLq.out n).1 hn with h|h
     ·have:=HIN.out n ((HDI.out n).1 ((hLi.out n).1 h).1).1
      omega
     ·have:=HIN.out n ((hFi.out n).1 h.1.1).1
      omega)
    go_wp2_with (first|(at_next;refine wpList_nextF rfl _ rfl 3 law3 fb r _ _ _ _ rfl hrg ?_ ?_)|go_in)
    ·intro hc0 hl0
     have hFq:SetAt wr fb SF:=⟨hrg.map,hF.bd⟩
     have hgo:=goOut_any wr (g.below hBw hb) (s.below hBw (by omega)) (Nat.lt_of_lt_of_le hb hBw.size) hFq hBq (Nat.ne_of_gt hfb) (by have:=s.pos;omega) (by have:=s.pos;omega) (fun z hz=>(HIN.out z ((hFi.out z).1 hz).1).2.2.1) ha (fun c k z hc ho=>by
      cases hz:SF z with
      |false=>rfl
      |true =>
       have h1:=(hFi.out c).1 hc
       have h2:=(hFi.out z).1 hz
       have:=ho.next gw1
       omega)
     have hnm:=own_map hown hBq.mp
     clear hrg hFq
     go_wp2_with fail
     refine hgo.mono ?_
     rintro e w5 ⟨nb,T,B',rfl,hT,hB',hTi,hB'i,hnb,hK⟩
     have hown5:=own_keep hown hK hnm
     have B5:Below w.heap.size w w5:=hBw.trans (hK.to_below hBw.size (fun k e=>by omega))
     clear hgo hown hK hBq hnm
     go_wp2
     go_roundg (60 - (i+1))
     case measure=>omega
     case rel =>
      refine ⟨i+1,nb,T,B',L',rfl,rfl,by omega,hT,hB',fun z=>?_,fun z=>?_,hown5,hnd.out,fun n=>?_,B5⟩
      ·rw [hTi z]
       constructor
       ·rintro ⟨c,k,h1,h2⟩
        obtain ⟨q1,q2⟩:=(hFi.out c).1 h1
        have:=h2.next gw1
        exact ⟨q1.out gw1 h2,by omega⟩
       ·rintro ⟨h1,h2⟩
        obtain ⟨q1,q2⟩:=HBD.out z h1
        obtain ⟨c,k,h3,h4⟩:=h1.prev gw1 q1 q2 (fun e=>by rw [e,octN_self] at h2;omega)
        have:=h4.next gw1
        exact ⟨c,k,(hFi.out c).2 ⟨h3,by omega⟩,h4⟩
      ·rw [hB'i z]
       constructor
       ·rintro (h|⟨c,k,h1,h2,h3⟩)
        ·obtain ⟨⟨q1,q2⟩,q3⟩:=(hBi.out z).1 h
         exact ⟨⟨q1,by omega⟩,q3⟩
        ·obtain ⟨q1,q2⟩:=(hFi.out c).1 h1
         have:=h2.next gw1
         have hz:=q1.out gw1 h2
         obtain ⟨b1,b2⟩:=HBD.out z hz
         refine ⟨⟨hz,by omega⟩,(Bhd.iff gw1 b1 b2).2 ⟨c,k,q1,h2,?_⟩⟩
         rcases h3 with h3|⟨h3,h4⟩
         ·exact Or.inl ((hBi.out c).1 h3).2
         ·exact Or.inr ⟨cornB_iff.1 h3,h4⟩
       ·rintro ⟨⟨q1,q2⟩,q3⟩
        by_cases hle2:octN W a z<=i
        ·exact Or.inl ((hBi.out z).2 ⟨⟨q1,hle2⟩,q3⟩)
        ·obtain ⟨b1,b2⟩:=HBD.out z q1
         obtain ⟨c,k,h1,h2,h3⟩:=(Bhd.iff gw1 b1 b2).1 q3
         have:=h2.next gw1
         refine Or.inr ⟨c,k,(hFi.out c).2 ⟨h1,by omega⟩,h2,?_⟩
         rcases h3 with h3|⟨h3,h4⟩
         ·exact Or.inl ((hBi.out c).2 ⟨⟨h1,by omega⟩,h3⟩)
         ·exact Or.inr ⟨cornB_iff.2 h3,h4⟩
      ·rw [hLq.out n,hLi.out n,hFi.out n,HDI.out n]
       constructor
       ·rintro (⟨h1,h2⟩|⟨⟨⟨h1,h2⟩,_⟩,h3⟩)
        ·exact ⟨h1,by omega⟩
        ·refine ⟨⟨h1,fun hb=>?_⟩,by omega⟩
         have:=(hBi.out n).2 ⟨⟨h1,by omega⟩,hb⟩
         rw [h3] at this;cases this
       ·rintro ⟨h1,h2⟩
        by_cases hlt:octN W a n<i
        ·exact Or.inl ⟨h1,hlt⟩
        ·refine Or.inr ⟨⟨⟨h1.1,by omega⟩,hl0 n⟩,?_⟩
         cases hs:SB n with
         |false=>rfl
         |true=>exact absurd ((hBi.out n).1 hs).2 h1.2
    ·intro x v w4 cnt1 hwx hlx hfx hrg1 hlt hg1 hs1 hen
     obtain ⟨hSx,rfl⟩:=setF_val hfx
     have hx:=hF.bd x hSx
     have hBq1:=hBq.grown hg1 (fun e=>by have:=Option.some.inj e;omega)
     have hown4:=own_grown hown hg1 (own_rng hown hrg)
     have B4:Below w.heap.size w w4:=hBw.grown hg1 hbq (fun k e=>by cases e;omega)
     have hB5:=hBq1.grown (World.grownBy_alloc w4 (.cells #[] 185) none) (by simp)
     have hrg2:=hrg1.grown (World.grownBy_alloc w4 (.cells #[] 185) none) (by simp) (by simp)
     have hown5:=hown4.alloc (.cells #[] 185)
     have B5:=B4.alloc B4.size (.cells #[] 185)
     have hr5:r<(w4.alloc (.cells #[] 185)).heap.size:=by simp;omega
     cases hSB:SB x with
     |true =>
      have hlk:(Instr.lookup 134 (.map (some bb)) (.int .i64 x) true).run Tryz.prog w4=.ok (.tuple #[.agg #[],.bool true]) w4:=hBq1.mp.look_some law3 Tryz.underS (zeroS _) hwx (setF_some hSB) true
      clear hrg hBw hBq hown hBq1 hown4 B4 hg1
      go_wp2
      go_roundg cnt1
      case measure=>omega
      case rel =>
       refine ⟨_,cnt1,L',rfl,hrg2,hB5,hown5,hnd,fun n=>?_,B5,hr5⟩
       rw [hLq.out n]
       by_cases e:(n:Int)=x
       ·rw [e];simp [hSB]
       ·simp [e]
     |false =>
      have hlk:(Instr.lookup 134 (.map (some bb)) (.int .i64 x) true).run Tryz.prog w4=.ok (.tuple #[.agg #[],.bool false]) w4:=hBq1.mp.look_none law3 Tryz.underS (zeroS _) hwx (setF_none hSB) true
      clear hrg hBw hBq hown hBq1 hown4 B4 hg1
      have hz5:=B5.size
      obtain ⟨xn,hxn⟩:∃ xn:Nat,x=(xn:Int):=⟨x.toNat,by omega⟩
      have HXN:Hid (x=(xn:Int)):=hxn
      clear hxn
      generalize hw5:w4.alloc (.cells #[] 185)=w5 at *
      go_wp2_with (at_builtin;refine wpList_append_own _ rfl _ _ 22 rfl w.heap.size 3 i0 (.int .i64 0) 1 8 Tryz.underlying22 hi hz0 hz1 hz2 rfl (by decide) _ _ _ rfl (hown5.alloc _) ⟨w5.heap.size,0,none⟩ 1 1 [.int .i64 x] rfl rfl ?c1 ?c2 ?c3 ?c4 ?c5 ?_)
      case c1 =>
       intro j u hj
       match j,hj with
       |0,hj =>
        simp at hj;subst hj;simp only [Addr.add]
        exact World.cell?_alloc_at (w:=w5) #[.int .i64 x] 3 w5.heap.size 0 rfl
      case c2=>intro u hu;simp at hu;subst hu;rfl
      case c3=>unfold maxLen;omega
      case c4=>omega
      case c5=>simp;omega
      intro v' w6 hown' hgrow _
      have hbase:=fun q hq=>(hown5.lt q hq).1
      have B6:Below w.heap.size w w6:=(B5.alloc hz5 _).grown hgrow (by simp;omega) hbase
      have O6:w6.ownsRow w.heap.size 3 1 v' (L'++[xn]).length (vals (L'++[xn])):=by
       rw [HXN.out] at hown'
       simpa [vals] using hown'
      have hrg6:=(hrg2.grown (World.grownBy_alloc w5 (.cells #[.int .i64 x] 3) none) (by simp) (by simp)).grown hgrow (fun e=>own_map hown5 hrg2.map _ e.symm rfl) (fun e=>own_rng hown5 hrg2 _ e.symm rfl)
      have hB6:=(hB5.grown (World.grownBy_alloc w5 (.cells #[.int .i64 x] 3) none) (by simp)).grown hgrow (fun e=>own_map hown5 hB5.mp _ e.symm rfl)
      have hr6:r<w6.heap.size:=Nat.lt_of_lt_of_le hr5 (Nat.le_trans (by simp) hgrow.size)
      have HN:Hid (L'++[xn]).Nodup:=by
       have hnm:xn ∉ L':=fun hm=>by
        rcases (hLq.out xn).1 hm with h|h
        ·have h1:=(hLi.out xn).1 h
         rw [<- HXN.out] at h1
         have h2:=(hFi.out x).1 hSx
         omega
        ·rw [<- HXN.out] at h
         rw [hlx] at h
         exact absurd h.1.2 (by decide)
       unfold Hid List.Nodup
       rw [List.pairwise_append]
       exact ⟨hnd.out,List.pairwise_singleton _ _,fun p hp q hq e=>by
        rw [List.mem_singleton] at hq
        rw [e,hq] at hp
        exact hnm hp⟩
      clear hown' hgrow hown5 B5 hrg2 hB5
      go_wp2
      go_roundg cnt1
      case measure=>omega
      case rel =>
       refine ⟨_,cnt1,L'++[xn],rfl,hrg6,hB6,O6,HN,fun n=>?_,B6,hr6⟩
       rw [List.mem_append,List.mem_singleton,hLq.out n]
       by_cases e:n=xn
       ·subst e
        rw [<- HXN.out]
        simp [hSB,hSx]
       ·have e':¬ (n:Int)=x:=fun q=>e (by have:=HXN.out;omega)
        simp [e,e']
  ·have hno:∀ z,SF z=false:=fun z=>by
    cases hz:SF z with
    |false=>rfl
    |true=>exact absurd (hne.2 ⟨z,hz⟩) hpos
   have hc0:cntS SF 256=0:=by omega
   have hfin:∀ n:Nat,n ∈ L↔Dir W H bl a n:=fun n=>by
    rw [hLi.out n]
    refine ⟨fun h=>h.1,fun h=>⟨h,?_⟩⟩
    by_cases q:octN W a n<i
    ·exact q
    ·exfalso
     have h1:=((HDI.out n).1 h).1
     have h2:=octN_nonneg W a n
     obtain ⟨z',h3,h4⟩:=Nr.mid gw1 HBD.out (octN W a n).toNat n h1 (by omega) i (by omega)
     have:=(hFi.out z').2 ⟨h3,h4⟩
     rw [hno z'] at this
     cases this
   have HF:Hid (∀ n:Nat,n ∈ L↔Dir W H bl a n):=hfin
   have hLne:L≠[]:=fun e=>by
    have h1:=(hfin a.toNat).2 (by rw [Int.toNat_of_nonneg hia.1];exact Dir.self gw1)
    rw [e] at h1
    cases h1
   obtain ⟨l,l1,l2,l3,l4⟩:=srt_ex L HND.out
   have HL2:Hid (∀ n,n ∈ l↔n ∈ L):=l2
   have HL1:Hid (l.Pairwise (·<·)):=l1
   have hso:=sort_row wr hown hLne l3 l4 hLL
   have hbz:=hBw.size
   have hbase:=fun q hq=>(hown.lt q hq).1
   rw [hc0] at hlen
   clear hfin hno hne hpos hFi hBi l1 l2 l3 l4 hLne hown hB hF hLi
   go_wp2_with fail
   refine hso.mono ?_
   rintro e w5 ⟨rfl,hown5,hg5⟩
   have B5:Below w.heap.size w w5:=hBw.grown hg5 hbz hbase
   clear hso hg5 hbase
   go_wp2
   go_ret2
   exact ⟨_,l,rfl,hown5,⟨HL1.out,fun n=>(HL2.out n).trans (HF.out n)⟩,B5⟩
end
section
open Go.RowKit
def edgeV (W a:Int) (n:Nat):List Value:=[.int .i64 n,.int .i64 (octS W a n),.int .i64 (octD W a n),.int .i64 (-1)]
def edgesV (W a:Int) (l:List Nat):List Value:=l.flatMap (edgeV W a)
theorem edgesV_app (W a:Int)(l:List Nat)(n:Nat):edgesV W a (l++[n])=edgesV W a l++edgeV W a n:=by
 unfold edgesV
 rw [List.flatMap_append,List.flatMap_cons,List.flatMap_nil,List.append_nil]
theorem isc_any {b:Nat}{W H V:Int}{bl:Nat->Bool}(c:Int)(w:World)(g:GridAt w b W H V bl)(s:StepsAt w)(hr:inB W H c=true) :
  Calls Tryz.prog 112 #[.pointer (some ⟨b,0,none⟩),.int .i64 c] w fun e w'=>e=.returned (.bool (cornB W H bl c))/\∃ m,w'=w.drewN m:=by
 have h1:=is_v rfl w g s hr
 generalize cornB W H bl c=r at *
 go_enter Tryz.func112,Tryz.ntmps112
 go_wp2_with fail
 refine h1.mono ?_
 rintro e w1 ⟨rfl,m,rfl⟩
 clear h1
 go_wp2
 go_ret
 exact ⟨rfl,m,rfl⟩
set_option maxHeartbeats 400000 in
theorem dist' {b:Nat}{a t x y u v S D:Int}(w:World)
  (hP:∀ w',Below w.heap.size w w'->Calls Tryz.prog 76 #[.pointer (some ⟨b,0,none⟩),.int .i64 a] w' fun e w''=>e=.returned (.tuple #[.int .i64 x,.int .i64 y,.nilIface])/\∃ m,w''=w'.drewN m)
  (hQ:∀ w',Below w.heap.size w w'->Calls Tryz.prog 76 #[.pointer (some ⟨b,0,none⟩),.int .i64 t] w' fun e w''=>e=.returned (.tuple #[.int .i64 u,.int .i64 v,.nilIface])/\∃ m,w''=w'.drewN m)
  (ho:∀ w,Calls Tryz.prog 78 #[.int .i64 x,.int .i64 y,.int .i64 u,.int .i64 v] w fun e w'=>e=.returned (.agg #[.int .i64 S,.int .i64 D])/\Below w.heap.size w w') :
  Calls Tryz.prog 146 #[.pointer (some ⟨b,0,none⟩),.int .i64 a,.int .i64 t] w fun e w'=>e=.returned (.agg #[.int .i64 S,.int .i64 D])/\Below w.heap.size w w':=by
 have sl:=Slot.new w 0 0
 have B0:Below w.heap.size w (w.alloc (.cells #[.int .i64 0,.int .i64 0] 38)):=(Below.refl _ _).alloc (Nat.le_refl _) _
 go_enter Tryz.func146,Tryz.ntmps146
 go_wp2_with fail
 refine (hP _ B0).mono ?_
 rintro e w1 ⟨rfl,m1,hw1⟩
 have B1:Below w.heap.size w w1:=by rw [hw1];exact below_drewN B0 _
 have sl1:Slot w1 w.heap.size 0 0:=by rw [hw1];exact sl.below (below_drewN (Below.refl _ _) _)
 clear hw1 sl B0 hP
 go_wp2_with fail
 refine (hQ _ B1).mono ?_
 rintro e w2 ⟨rfl,m2,hw2⟩
 have B2:Below w.heap.size w w2:=by rw [hw2];exact below_drewN B1 _
 have sl2:Slot w2 w.heap.size 0 0:=by rw [hw2];exact sl1.below (below_drewN (Below.refl _ _) _)
 clear hw2 sl1 B1 hQ
 go_wp2_with fail
 refine (ho _).mono ?_
 rintro e w3 ⟨rfl,hb3⟩
 have B3:=B2.trans (hb3.mono B2.size)
 have sl3:=sl2.below hb3
 have c0:=sl3.c0
 have c1:=sl3.c1
 have z0:=sl3.z0
 have z1:=sl3.z1
 clear hb3 sl2 B2 ho
 go_wp2
 have q:=setTwo w3 w.heap.size S D c0 c1
 have hd:=q.1
 have ht:=q.2
 refine bodyPost_ret (v:=.agg #[.int .i64 S,.int .i64 D]) (by simp [results,Tryz.results146,go_sem,hd,ht]) rfl ⟨rfl,?_⟩
 exact (B3.setCell (p:=⟨w.heap.size,0,none⟩) (Nat.le_refl _) _).setCell (p:=⟨w.heap.size,1,none⟩) (Nat.le_refl _) _
theorem dist_any {b:Nat}{W H V a t:Int}{bl:Nat->Bool}(w:World)(g:GridAt w b W H V bl)(hb:b<w.heap.size)(ha:inB W H a=true)(ht:inB W H t=true) :
  Calls Tryz.prog 146 #[.pointer (some ⟨b,0,none⟩),.int .i64 a,.int .i64 t] w fun e w'=>e=.returned (.agg #[.int .i64 (octS W a t),.int .i64 (octD W a t)])/\Below w.heap.size w w':=by
 obtain ⟨x1,x2,y1,y2⟩:=place_bd g.w1 ha
 obtain ⟨u1,u2,v1,v2⟩:=place_bd g.w1 ht
 have gw:=g.w2
 have gh:=g.h2
 exact dist' w (fun w' hB=>place_in a w' (g.below hB hb) ha) (fun w' hB=>place_in t w' (g.below hB hb) ht) (fun w=>oct_any _ _ _ _ w (near_place (by omega) (by omega)) (near_place (by omega) (by omega)) (near_place (by omega) (by omega)) (near_place (by omega) (by omega)))
def pick (p:Int->Bool) (L:List Nat) (k:Nat):List Nat:=(L.take k).filter fun n:Nat=>p (n:Int)
theorem pick_no {p:Int->Bool}{L:List Nat}{k:Nat}(h:k<L.length)(hp:p ((L.getD k 0:Nat):Int)=false):pick p L (k+1)=pick p L k:=by
 unfold pick
 rw [List.take_succ_eq_append_getElem h,List.filter_append,<- getD_at _ _ h]
 generalize L.getD k 0=m at *
 simp [hp]
theorem pick_yes {p:Int->Bool}{L:List Nat}{k:Nat}(h:k<L.length)(hp:p ((L.getD k 0:Nat):Int)=true):pick p L (k+1)=pick p L k++[L.getD k 0]:=by
 unfold pick
 rw [List.take_succ_eq_append_getElem h,List.filter_append,<- getD_at _ _ h]
 generalize L.getD k 0=m at *
 simp [hp]
theorem pick_len {p:Int->Bool}{L:List Nat}{k:Nat}:(pick p L k).length<=L.length :=
 Nat.le_trans (List.length_filter_le _ _) (by rw [List.length_take];omega)
theorem pick_mem {p:Int->Bool}{L:List Nat}{n:Nat}:n ∈ pick p L L.length↔n ∈ L/\p n=true:=by
 unfold pick
 rw [List.take_length,List.mem_filter]
theorem pick_rise {p:Int->Bool}{L:List Nat}(h:L.Pairwise (·<·)):(pick p L L.length).Pairwise (·<·):=by
 unfold pick
 rw [List.take_length]
 exact h.filter _
theorem own_apart {w:World}{b1 b2 e1 e2 k1 k2 n1 n2:Nat}{v1 v2:Value}{x1 x2:List Value}(h1:w.ownsRow b1 e1 k1 v1 n1 x1)(h2:w.ownsRow b2 e2 k2 v2 n2 x2)(hne:e1≠e2):∀ g,v1.ownBlock=some g->some g≠v2.ownBlock:=by
 intro g hg e
 rcases h1.2 with ⟨rfl,_⟩|⟨g1,c1,cur1,rfl,_,q1,_⟩
 ·cases hg
 ·rcases h2.2 with ⟨rfl,_⟩|⟨g2,c2,cur2,rfl,_,q2,_⟩
  ·cases e
  ·simp only [Value.ownBlock,Option.some.injEq] at hg e
   rw [hg,e,q2] at q1
   simp only [Option.some.injEq,Obj.cells.injEq] at q1
   exact hne q1.2.1.symm
theorem Tryz.infoE:(Tryz.prog.info? 207).map (fun i=>(i.zero,i.size,i.bytes))=some (some (.agg #[.int .i64 0,.int .i64 0,.int .i64 0,.int .i64 0]),4,32):=by kernel_rfl
theorem Tryz.underE:Tryz.prog.underlying 141=some (.slice 207):=by kernel_rfl
theorem cell_four_new (w:World)(x y z u:Value)(t:TypeId):∀ j q,[x,y,z,u][j]? = some q->(w.alloc (.cells #[x,y,z,u] t)).cell? ((⟨w.heap.size,0,none⟩:Addr).add j)=some q:=by
 intro j q hj
 match j,hj with
 |0,hj=>simp at hj;subst hj;simp [Addr.add]
 |1,hj=>simp at hj;subst hj;simp [Addr.add]
 |2,hj=>simp at hj;subst hj;simp [Addr.add]
 |3,hj=>simp at hj;subst hj;simp [Addr.add]
set_option maxHeartbeats 2000000 in
set_option maxRecDepth 1000000 in
theorem find_look {b cb rb:Nat}{W H V a:Int}{bl:Nat->Bool}{p:Int->Bool}(w:World)(g:GridAt w b W H V bl)(s:StepsAt w)(hb:b<w.heap.size)(ha:inB W H a=true)(hfree:bl a.toNat=false)
  (hC:∀ (w':World) (n:Int),Below w.heap.size w w'->inB W H n=true->Calls Tryz.prog 161 #[.int .i64 n,.pointer (some ⟨cb,0,none⟩),.pointer (some ⟨rb,0,none⟩)] w' fun e w''=>e=.returned (.bool (p n))/\Below w'.heap.size w' w'') :
  Calls Tryz.prog 110 #[.pointer (some ⟨b,0,none⟩),.int .i64 a,.func (.func 161) #[] #[.pointer (some ⟨cb,0,none⟩),.pointer (some ⟨rb,0,none⟩)]] w fun e w'=>∃ v l,e=.returned v/\w'.ownsRow w.heap.size 207 4 v l.length (edgesV W a l)/\(l.Pairwise (·<·)/\∀ n:Nat,n ∈ l↔Dir W H bl a n/\p n=true)/\Below w.heap.size w w':=by
 obtain ⟨i0,hi,hz0,hz1,hz2⟩:=info_parts Tryz.infoE
 have gw1:=g.w1
 have hwh:=wh_bd g.w1 g.w2 g.h1 g.h2
 have h1:=alldir_ok w g s hb ha hfree
 go_enter Tryz.func110,Tryz.ntmps110
 go_wp2_with fail
 refine h1.mono ?_
 rintro e w1 ⟨v1,L,rfl,hown1,⟨hrise,hmem⟩,hb1⟩
 obtain ⟨A,cap,rfl,_⟩:=row_of hown1
 have HM:Hid (∀ n:Nat,n ∈ L↔Dir W H bl a n):=hmem
 have HR:Hid (L.Pairwise (·<·)):=hrise
 have hin:∀ n ∈ L,inB W H (n:Int)=true/\n<256:=fun n hn=>by
  have h:=((HM.out n).1 hn).in gw1 ha
  have:0<=(n:Int)/\(n:Int)<W*H:=of_decide_eq_true h
  exact ⟨h,by omega⟩
 have hLL:L.length<=256:=nodup_len 256 (hrise.imp (fun h e=>by omega)) (fun n hn=>(hin n hn).2)
 have HIN:Hid (∀ n ∈ L,inB W H (n:Int)=true/\n<256):=hin
 have hz1':=hb1.size
 clear h1 hmem hrise hin
 go_wp2
 go_loopw [7,20] (fun fv iv wr=>∃ k:Nat,k<=L.length/\iv=.int .i64 k/\wr.ownsRow w.heap.size 207 4 fv (pick p L k).length (edgesV W a (pick p L k))/\wr.ownsRow w.heap.size 3 1 (.slice A L.length cap) L.length (vals L)/\Below w.heap.size w wr)
  (fun _ i _=>L.length - (intOf i).toNat)
 case atStart=>exact ⟨0,Nat.zero_le _,rfl,World.ownsRow_nil _ _ _ _,hown1,hb1⟩
 case round =>
  obtain ⟨k,hk,rfl,hown,hrow',hB⟩:=hrel
  by_cases hlt:k<L.length
  ·obtain ⟨ba,hA⟩:∃ ba,A=some ⟨ba,0,none⟩:=by
    rcases hrow'.2 with ⟨_,h0⟩|⟨ba,_,_,hv,_⟩
    ·omega
    ·exact ⟨ba,by cases hv;rfl⟩
   subst hA
   have hcell':wr.cell? ⟨ba,k,none⟩=some (.int .i64 ((L.getD k 0:Nat):Int)):=own_int hrow' k hlt
   have hnm:L.getD k 0 ∈ L:=by rw [getD_at _ _ hlt];exact List.getElem_mem hlt
   obtain ⟨hni,hn2⟩:=HIN.out _ hnm
   have hno:=fun h=>pick_no (p:=p) hlt h
   have hys:=fun h=>pick_yes (p:=p) hlt h
   generalize hnn:L.getD k 0=n at *
   clear hnn hnm
   have i1:(0:Int)<=(k:Int):=by omega
   have i2:(k:Int)<(L.length:Int):=by omega
   have hbz:=hB.size
   have hcl:=hC wr n hB hni
   have hfl:(pick p L k).length<=256:=Nat.le_trans pick_len hLL
   cases hp:p n with
   |false =>
    have HS:Hid (pick p L (k+1)=pick p L k):=hno hp
    rw [hp] at hcl
    clear hno hys hp
    go_wp2_with fail
    refine hcl.mono ?_
    rintro e w2 ⟨rfl,hb2⟩
    have hrow2:=own_below hrow' hb2
    have hown2:=own_below hown hb2
    have B2:=hB.trans (hb2.mono hB.size)
    clear hcl hown hrow' hb2
    go_wp2
    go_roundw
    case rel=>exact ⟨k+1,by omega,by go_num,by rw [HS.out];exact hown2,hrow2,B2⟩
    case measure=>simp [intOf];omega
   |true =>
    have HS:Hid (pick p L (k+1)=pick p L k++[n]):=hys hp
    rw [hp] at hcl
    clear hno hys hp
    generalize pick p L k=F at *
    go_wp2_with fail
    refine hcl.mono ?_
    rintro e w2 ⟨rfl,hb2⟩
    have hown2:=own_below hown hb2
    have B2:=hB.trans (hb2.mono hB.size)
    have hds:=dist_any w2 (g.below B2 hb) (Nat.lt_of_lt_of_le hb B2.size) ha hni
    clear hcl
    go_wp2_with fail
    refine hds.mono ?_
    rintro e w3 ⟨rfl,hb3⟩
    have b3:=hb2.trans (hb3.mono hb2.size)
    have hrow3:=own_below hrow' b3
    have hown3:=own_below hown2 hb3
    have B3:=B2.trans (hb3.mono B2.size)
    have hz3:=B3.size
    have HEV:Hid (edgeV W a n=[.int .i64 n,.int .i64 (octS W a n),.int .i64 (octD W a n),.int .i64 (-1)]):=rfl
    clear hown hrow' hb2 hb3 b3 hds hown2 B2
    generalize octS W a n=es at *
    generalize octD W a n=ed at *
    go_wp2_with (at_builtin;refine wpList_append_own _ rfl _ _ 141 rfl w.heap.size 207 i0 (.agg #[.int .i64 0,.int .i64 0,.int .i64 0,.int .i64 0]) 4 32 Tryz.underE hi hz0 hz1 hz2 rfl (by decide) _ _ _ rfl (hown3.alloc _) ⟨w3.heap.size,0,none⟩ 1 1 [.int .i64 n,.int .i64 es,.int .i64 ed,.int .i64 (-1)] rfl rfl (cell_four_new _ _ _ _ _ _) (by intro u hu;simp at hu;rcases hu with rfl|rfl|rfl|rfl <;> rfl) ?c3 ?c4 ?c5 ?_)
    case c3=>unfold maxLen;omega
    case c4=>omega
    case c5=>simp;omega
    intro v' w4 hown' hgrow _
    have hbase:=fun q hq=>(hown3.lt q hq).1
    have B4:Below w.heap.size w w4:=(B3.alloc hz3 _).grown hgrow (by simp;omega) hbase
    have O4:w4.ownsRow w.heap.size 207 4 v' (F++[n]).length (edgesV W a (F++[n])):=by
     rw [edgesV_app,HEV.out]
     simpa using hown'
    have hrow4:=own_grown (hrow3.alloc (.cells #[.int .i64 n,.int .i64 es,.int .i64 ed,.int .i64 (-1)] 207)) hgrow (own_apart hrow3 hown3 (by decide))
    clear hown' hgrow hown3 B3
    go_wp2
    go_roundw
    case rel=>exact ⟨k+1,by omega,by go_num,by rw [HS.out];exact O4,hrow4,B4⟩
    case measure=>simp [intOf];omega
  ·have e:k=L.length:=by omega
   subst e
   have HMM:Hid (∀ n:Nat,n ∈ pick p L L.length↔Dir W H bl a n/\p n=true):=fun n=>by rw [pick_mem,HM.out n]
   have HRR:Hid ((pick p L L.length).Pairwise (·<·)):=pick_rise HR.out
   generalize pick p L L.length=F at *
   go_wp2
   go_ret
   exact ⟨_,F,rfl,hown,⟨HRR.out,HMM.out⟩,hB⟩
end
section
open Go.RowKit
theorem Tryz.underM:Tryz.prog.underlying 129=some (.map 3 141):=by kernel_rfl
theorem zeroM (w:World):(zeroValue 141).run Tryz.prog w=.ok (.slice none 0 0) w:=by kernel_rfl
def keyB (f:Int->Option Value):Int->Bool:=fun i=>(f i).isSome
theorem keyB_put (f:Int->Option Value)(a:Int)(v:Value):keyB (putF f a v)=insS (keyB f) a:=by
 funext i
 unfold keyB putF insS
 by_cases e:i=a
 ·rw [if_pos e,decide_eq_true e];rfl
 ·rw [if_neg e,decide_eq_false e];rfl
def rmS (S:Int->Bool) (a:Int):Int->Bool:=fun i=>S i&&!decide (i=a)
theorem keyB_del (f:Int->Option Value)(a:Int):keyB (delF f a)=rmS (keyB f) a:=by
 funext i
 unfold keyB delF rmS
 by_cases e:i=a
 ·rw [if_pos e,decide_eq_true e];simp
 ·rw [if_neg e,decide_eq_false e];simp
theorem rmS_ins {S:Int->Bool}{a:Int}(h:S a=true):insS (rmS S a) a=S:=by
 funext i
 unfold insS rmS
 by_cases e:i=a
 ·rw [decide_eq_true e,e,h];rfl
 ·rw [decide_eq_false e];simp
theorem rmS_same {S:Int->Bool}{a:Int}(h:S a=false):rmS S a=S:=by
 funext i
 unfold rmS
 by_cases e:i=a
 ·rw [e,h];rfl
 ·rw [decide_eq_false e];simp
theorem cntS_rm (S:Int->Bool)(a:Int)(N:Nat)(h0:0<=a)(h:a<N)(hs:S a=true):cntS (rmS S a) N=cntS S N - 1:=by
 have:=cntS_put (rmS S a) a N h0 h (by unfold rmS;rw [decide_eq_true rfl];simp)
 rw [rmS_ins hs] at this
 omega
structure GSt (w:World) (rb pb mb:Nat) (W H V:Int) (bl:Nat->Bool) (f:Int->Option Value):Prop where
 p0:w.cell? ⟨rb,0,none⟩=some (.pointer (some ⟨pb,0,none⟩))
 p1:w.cell? ⟨rb,1,none⟩=some (.map (some mb))
 ga:GridAt w pb W H V bl
 mp:MapF Tryz.prog 3 w mb f (cntS (keyB f) 256)
 bd:∀ i,keyB f i=true->0<=i/\i<256
 fr:Free w pb
 rp:rb≠pb
section
variable {w w' : World} {rb pb mb : Nat} {W H V : Int} {bl : Nat → Bool} {f : Int → Option Value}
theorem GSt.lts (G:GSt w rb pb mb W H V bl f):rb<w.heap.size/\pb<w.heap.size/\mb<w.heap.size:=⟨World.block_lt_of_cell? w _ G.p0,World.block_lt_of_cell? w _ G.ga.c0,G.mp.lt⟩
theorem GSt.ne (G:GSt w rb pb mb W H V bl f):rb≠mb/\pb≠mb:=by
 constructor
 ·intro e
  have h:=G.mp.cell 0
  rw [<- e,G.p0] at h;cases h
 ·intro e
  have h:=G.mp.cell 0
  rw [<- e,G.ga.c0] at h;cases h
theorem GSt.keep {F:Nat->Prop}(G:GSt w rb pb mb W H V bl f)(K:Keep F w w')(h1:¬ F rb)(h2:¬ F pb)(h3:¬ F mb):GSt w' rb pb mb W H V bl f :=
 ⟨K.cellOf G.p0 h1,K.cellOf G.p1 h1,G.ga.keep K h2,G.mp.keep K h3,G.bd,fun o=>(K.frozen (p:=⟨pb,o,none⟩) G.lts.2.1 h2).trans (G.fr o),G.rp⟩
theorem GSt.below (G:GSt w rb pb mb W H V bl f)(hb:Below w.heap.size w w'):GSt w' rb pb mb W H V bl f:=G.keep (F:=fun _=>False) (Keep.of_below hb) id id id
theorem GSt.room (_G:GSt w rb pb mb W H V bl f):cntS (keyB f) 256<maxLen:=by
 have:=cntS_le (keyB f) 256
 unfold maxLen
 omega
theorem GSt.put (G:GSt w rb pb mb W H V bl f){a:Int}{v:Value}(h0:0<=a)(h1:a<256)(hm:MapF Tryz.prog 3 w' mb (putF f a v) (if (f a).isSome then cntS (keyB f) 256 else cntS (keyB f) 256+1))(ht:w.mapTurned w' mb):GSt w' rb pb mb W H V bl (putF f a v):=by
 have K:=turned_keep ht
 refine ⟨K.cellOf G.p0 G.ne.1,K.cellOf G.p1 G.ne.1,G.ga.keep K G.ne.2,?_,fun i hi=>?_,fun o=>(K.frozen (p:=⟨pb,o,none⟩) G.lts.2.1 G.ne.2).trans (G.fr o),G.rp⟩
 ·rw [keyB_put]
  cases hs:keyB f a with
  |true=>rw [insS_same hs];have e:(f a).isSome=true:=hs;rw [e] at hm;exact hm
  |false=>rw [cntS_put (keyB f) a 256 h0 h1 hs];have e:(f a).isSome=false:=hs;rw [e] at hm;exact hm
 ·rw [keyB_put] at hi
  rcases (insS_iff _ _ _).1 hi with rfl|hi
  ·exact ⟨h0,h1⟩
  ·exact G.bd i hi
theorem GSt.del (G:GSt w rb pb mb W H V bl f){a:Int}(h0:0<=a)(h1:a<256)(hm:MapF Tryz.prog 3 w' mb (delF f a) (if (f a).isSome then cntS (keyB f) 256 - 1 else cntS (keyB f) 256))(ht:w.mapTurned w' mb):GSt w' rb pb mb W H V bl (delF f a):=by
 have K:=turned_keep ht
 refine ⟨K.cellOf G.p0 G.ne.1,K.cellOf G.p1 G.ne.1,G.ga.keep K G.ne.2,?_,fun i hi=>?_,fun o=>(K.frozen (p:=⟨pb,o,none⟩) G.lts.2.1 G.ne.2).trans (G.fr o),G.rp⟩
 ·rw [keyB_del]
  cases hs:keyB f a with
  |true=>rw [cntS_rm _ _ _ h0 h1 hs];have e:(f a).isSome=true:=hs;rw [e] at hm;exact hm
  |false=>rw [rmS_same hs];have e:(f a).isSome=false:=hs;rw [e] at hm;exact hm
 ·rw [keyB_del] at hi
  unfold rmS at hi
  rw [Bool.and_eq_true] at hi
  exact G.bd i hi.1
end
def EdgeL (W H:Int) (bl:Nat->Bool) (c:Int) (l:List Nat):Prop:=l.Pairwise (·<·)/\∀ n:Nat,n ∈ l↔Dir W H bl c n/\(decide ((n:Int)≠c)&&cornB W H bl n)=true
structure EOk (w:World) (pb:Nat) (W H:Int) (bl:Nat->Bool) (f:Int->Option Value) (c:Int):Prop where
 yes:cornB W H bl c=true->∃ v l,f c=some v/\w.ownsRow 0 207 4 v l.length (edgesV W c l)/\EdgeL W H bl c l/\∀ g,v.ownBlock=some g->pb<g
 no:cornB W H bl c=false->f c=none
set_option maxHeartbeats 400000 in
theorem clo_look {cb xb rb pb:Nat}{W H V c:Int}{bl:Nat->Bool}(w:World)(n:Int)(q1:w.cell? ⟨cb,0,none⟩=some (.int .i64 c))(q2:w.cell? ⟨xb,0,none⟩=some (.pointer (some ⟨rb,0,none⟩)))(p0:w.cell? ⟨rb,0,none⟩=some (.pointer (some ⟨pb,0,none⟩)))(g:GridAt w pb W H V bl)(s:StepsAt w)(hn:inB W H n=true) :
  Calls Tryz.prog 161 #[.int .i64 n,.pointer (some ⟨cb,0,none⟩),.pointer (some ⟨xb,0,none⟩)] w fun e w'=>e=.returned (.bool (decide (n≠c)&&cornB W H bl n))/\Below w.heap.size w w':=by
 have h1:=isc_any n w g s hn
 generalize cornB W H bl n=r at *
 by_cases e:n=c
 ·subst e
  have er:(decide (n≠n)&&r)=false:=by simp
  rw [er]
  go_enter Tryz.func161,Tryz.ntmps161
  go_wp2
  go_ret
  exact ⟨rfl,Below.refl _ _⟩
 ·have er:(decide (n≠c)&&r)=r:=by simp [e]
  rw [er]
  clear er
  go_enter Tryz.func161,Tryz.ntmps161
  go_wp2_with fail
  refine h1.mono ?_
  rintro e1 w1 ⟨rfl,m,rfl⟩
  clear h1
  go_wp2
  go_ret
  have en:(n != c)=true:=by simp [e]
  refine ⟨?_,below_drewN (Below.refl _ _) _⟩
  show Ending.returned (.bool (n != c&&r))=_
  rw [en,Bool.true_and]
theorem corn_free {W H c:Int}{bl:Nat->Bool}(h:cornB W H bl c=true):bl c.toNat=false:=by
 have h1:=(cornB_iff.1 h).1
 unfold openB at h1
 rw [Bool.and_eq_true] at h1
 have e:=cell_eq W c
 have h2:=h1.2
 rw [e] at h2
 simpa using h2
theorem own_base {w:World}{b1 b2 e k n:Nat}{v:Value}{xs:List Value}(h:w.ownsRow b1 e k v n xs)(hle:b2<=b1):w.ownsRow b2 e k v n xs:=by
 refine ⟨h.1,?_⟩
 rcases h.2 with h2|⟨g,cap,cur,hv,hbase,hg,h3⟩
 ·exact Or.inl h2
 ·exact Or.inr ⟨g,cap,cur,hv,Nat.le_trans hle hbase,hg,h3⟩
set_option maxHeartbeats 2000000 in
theorem look_any {rb pb mb:Nat}{W H V c:Int}{bl:Nat->Bool}{f:Int->Option Value}(w:World)(G:GSt w rb pb mb W H V bl f)(s:StepsAt w)(hc:inB W H c=true) :
  Calls Tryz.prog 122 #[.pointer (some ⟨rb,0,none⟩),.int .i64 c] w fun e w'=>e=.returned (.tuple #[])/\(∃ f',GSt w' rb pb mb W H V bl f'/\(∀ i,i≠c->f' i=f i)/\EOk w' pb W H bl f' c/\∀ v g,f' c=some v->v.ownBlock=some g->w.heap.size<=g)/\Keep (fun k=>k=mb) w w':=by
 have gw1:=G.ga.w1
 have hwh:=wh_bd G.ga.w1 G.ga.w2 G.ga.h1 G.ga.h2
 have hci:0<=c/\c<W*H:=of_decide_eq_true hc
 have hwc:=wf_small hci.1 (show c<256 by omega)
 obtain ⟨l1,l2,l3⟩:=G.lts
 have HB:Below w.heap.size w ((w.alloc (.cells #[.pointer (some ⟨rb,0,none⟩)] 91)).alloc (.cells #[.int .i64 c] 3)):=((Below.refl _ _).alloc (Nat.le_refl _) _).alloc (by simp) _
 have q1:((w.alloc (.cells #[.pointer (some ⟨rb,0,none⟩)] 91)).alloc (.cells #[.int .i64 c] 3)).cell? ⟨w.heap.size,0,none⟩=some (.pointer (some ⟨rb,0,none⟩)):=by
  rw [World.cell?_alloc_old _ _ _ (by simp),World.cell?_alloc_new];rfl
 have q2:((w.alloc (.cells #[.pointer (some ⟨rb,0,none⟩)] 91)).alloc (.cells #[.int .i64 c] 3)).cell? ⟨w.heap.size+1,0,none⟩=some (.int .i64 c) :=
  World.cell?_alloc_at #[.int .i64 c] 3 (w.heap.size+1) 0 (by simp)
 go_enter Tryz.func122,Tryz.ntmps122
 go_wp2_with fail
 generalize (w.alloc (.cells #[.pointer (some ⟨rb,0,none⟩)] 91)).alloc (.cells #[.int .i64 c] 3)=W0 at *
 have HB:Below w.heap.size w W0.drew:=⟨HB.os,HB.tape,HB.output,HB.size,HB.block⟩
 have q1:W0.drew.cell? ⟨w.heap.size,0,none⟩=some (.pointer (some ⟨rb,0,none⟩)):=q1
 have q2:W0.drew.cell? ⟨w.heap.size+1,0,none⟩=some (.int .i64 c):=q2
 have G0:=G.below HB
 have s0:=s.below HB (by omega)
 have p0:=G0.p0
 have his:=isc_any c W0.drew G0.ga s0 hc
 cases hcn:cornB W H bl c with
 |false =>
  rw [hcn] at his
  go_region_held3 (fun w'=>w'.cell? ⟨w.heap.size,0,none⟩=some (.pointer (some ⟨rb,0,none⟩))/\w'.cell? ⟨w.heap.size+1,0,none⟩=some (.int .i64 c)/\w'.cell? ⟨rb,0,none⟩=some (.pointer (some ⟨pb,0,none⟩))) (first|(exact ⟨q1,q2,p0⟩)) (first|(go_at_call 112;refine his.mono ?_;rintro e w5 ⟨rfl,m5,hw5⟩;have hb5:Below W0.drew.heap.size W0.drew w5:=(by rw [hw5];exact below_drewN (Below.refl _ _) _);clear hw5;have q1:=(hb5.cell (World.block_lt_of_cell? _ _ q1)).trans q1;have p0:=(hb5.cell (World.block_lt_of_cell? _ _ p0)).trans p0;have q2:=(hb5.cell (World.block_lt_of_cell? _ _ q2)).trans q2))
  go_wp2_with fail
  have G5:GSt w5.drew rb pb mb W H V bl f:=(G0.below hb5).below (Below.refl _ _).drew
  have K5:Keep (fun k=>k=mb) w w5.drew:=((Keep.of_below HB).below hb5).drew
  have q1:w5.drew.cell? ⟨w.heap.size,0,none⟩=some (.pointer (some ⟨rb,0,none⟩)):=q1
  have q2:w5.drew.cell? ⟨w.heap.size+1,0,none⟩=some (.int .i64 c):=q2
  have p1:=G5.p1
  obtain ⟨w6,hrun,hm6,ht6⟩:=G5.mp.drop law3 Tryz.underM hwc 0
  have G6:=G5.del hci.1 (by omega) hm6 ht6
  have K6:Keep (fun k=>k=mb) w w6:=K5.trans (turned_keep ht6) (fun _ _ h=>h)
  clear G5 G0 hb5 his hm6 ht6 K5 p0 HB
  go_region
  go_wp2
  refine bodyPost_ret (v:=.tuple #[]) (by simp [results,Tryz.results122,go_sem]) rfl ?_
  exact ⟨rfl,⟨_,G6,fun i hi=>delF_other f hi,⟨fun h=>(by rw [hcn] at h;cases h),fun _=>delF_same f c⟩,fun v g h=>by rw [delF_same] at h;cases h⟩,K6⟩
 |true =>
  rw [hcn] at his
  go_region_held3 (fun w'=>w'.cell? ⟨w.heap.size,0,none⟩=some (.pointer (some ⟨rb,0,none⟩))/\w'.cell? ⟨w.heap.size+1,0,none⟩=some (.int .i64 c)/\w'.cell? ⟨rb,0,none⟩=some (.pointer (some ⟨pb,0,none⟩))) (first|(exact ⟨q1,q2,p0⟩)) (first|(go_at_call 112;refine his.mono ?_;rintro e w5 ⟨rfl,m5,hw5⟩;have hb5:Below W0.drew.heap.size W0.drew w5:=(by rw [hw5];exact below_drewN (Below.refl _ _) _);clear hw5;have q1:=(hb5.cell (World.block_lt_of_cell? _ _ q1)).trans q1;have p0:=(hb5.cell (World.block_lt_of_cell? _ _ p0)).trans p0;have q2:=(hb5.cell (World.block_lt_of_cell? _ _ q2)).trans q2))
  go_wp2_with fail
  have hb5:Below W0.drew.heap.size W0.drew w5.drew:=⟨hb5.os,hb5.tape,hb5.output,hb5.size,hb5.block⟩
  have G5:GSt w5.drew rb pb mb W H V bl f:=G0.below hb5
  have s5:=s0.below hb5 (by have:=HB.size;omega)
  have B5:Below w.heap.size w w5.drew:=HB.trans (hb5.mono HB.size)
  have q1:w5.drew.cell? ⟨w.heap.size,0,none⟩=some (.pointer (some ⟨rb,0,none⟩)):=q1
  have q2:w5.drew.cell? ⟨w.heap.size+1,0,none⟩=some (.int .i64 c):=q2
  have p0:=G5.p0
  have p1:=G5.p1
  have hz5:=B5.size
  have hfr:bl c.toNat=false:=corn_free hcn
  have hfind:=find_look (cb:=w.heap.size+1) (rb:=w.heap.size) (p:=fun n=>decide (n≠c)&&cornB W H bl n) w5.drew G5.ga s5 (by omega) hc hfr (fun w' n hB' hn=>by
   have kk:∀ {a:Addr}{v:Value},w5.drew.cell? a=some v->w'.cell? a=some v:=fun {a v} h=>(hB'.cell (World.block_lt_of_cell? w5.drew a h)).trans h
   exact clo_look w' n (kk q2) (kk q1) (kk p0) (G5.ga.below hB' (by omega)) (s5.below hB' (by omega)) hn)
  have hn1:w.heap.size≠mb:=by omega
  have hn2:w.heap.size+1≠mb:=by omega
  clear his G0 hb5 s0
  go_region_held3 (fun w'=>w'.cell? ⟨w.heap.size,0,none⟩=some (.pointer (some ⟨rb,0,none⟩))/\w'.cell? ⟨w.heap.size+1,0,none⟩=some (.int .i64 c)/\w'.cell? ⟨rb,0,none⟩=some (.pointer (some ⟨pb,0,none⟩))/\w'.cell? ⟨rb,1,none⟩=some (.map (some mb))) (first|(exact ⟨q1,q2,p0,p1⟩)|(exact ⟨r1,r2,r3,r4⟩)) (first|(go_at_call 110;refine hfind.mono ?_;rintro e w6 ⟨v,l,rfl,hown6,hl6,hb6⟩;have q1:=(hb6.cell (World.block_lt_of_cell? _ _ q1)).trans q1;have p0:=(hb6.cell (World.block_lt_of_cell? _ _ p0)).trans p0;have q2:=(hb6.cell (World.block_lt_of_cell? _ _ q2)).trans q2;have p1:=(hb6.cell (World.block_lt_of_cell? _ _ p1)).trans p1;have G6:=G5.below hb6;obtain ⟨w7,hrun7,hm7,ht7⟩:=G6.mp.store law3 Tryz.underM G6.room hwc v;have r1:=(turned_keep ht7).cellOf q1 hn1;have r2:=(turned_keep ht7).cellOf q2 hn2;have r3:=(turned_keep ht7).cellOf p0 G6.ne.1;have r4:=(turned_keep ht7).cellOf p1 G6.ne.1))
  all_goals
   have G7:=G6.put hci.1 (by omega) hm7 ht7
   have K7:Keep (fun k=>k=mb) w w7:=((Keep.of_below B5).below hb6).trans (turned_keep ht7) (fun _ _ h=>h)
   have O7:w7.ownsRow 0 207 4 v l.length (edgesV W c l):=own_keep (own_base hown6 (Nat.zero_le _)) (turned_keep ht7) (own_map hown6 G6.mp)
   have HO:Hid (∀ g,v.ownBlock=some g->pb<g):=fun g hg=>by have:=(hown6.lt g hg).1;omega
   have HO2:Hid (∀ g,v.ownBlock=some g->w.heap.size<=g):=fun g hg=>by have:=(hown6.lt g hg).1;omega
   have HL:Hid (EdgeL W H bl c l):=hl6
   clear hl6 hm7 ht7 hb6 G6 hown6 hfind
   go_wp2
   go_end0
   exact ⟨rfl,⟨_,G7,fun i hi=>putF_other f v hi,⟨fun _=>⟨v,l,putF_same f c v,O7,HL.out,HO.out⟩,fun h=>(by rw [hcn] at h;cases h)⟩,fun v' g h hg=>by rw [putF_same] at h;cases h;exact HO2.out g hg⟩,K7⟩
end
end Go.Proofs.YtipbhlofbpnpjaaGreatDoor
