/- -/
import Derived.Test.YtipbhlofbpnpjaaGreatDoorNe1
import Derived.Test.YtipbhlofbpnpjaaGreatDoorP24
namespace Go.Proofs.YtipbhlofbpnpjaaGreatDoor
open Go.RowKit Go.Lib
def edF (bl:Nat->Bool) (cs:Nat->Int) (bs:Nat->Bool):Nat->Nat->Bool
 |0=>bl
 |k+1=>upd (edF bl cs bs k) (cs k).toNat (bs k)
def edC (bl:Nat->Bool) (cs:Nat->Int) (bs:Nat->Bool):Nat->Nat
 |0=>0
 |k+1=>edC bl cs bs k+if edF bl cs bs k (cs k).toNat=bs k then 0 else 1
theorem edC_le (bl:Nat->Bool)(cs:Nat->Int)(bs:Nat->Bool):∀ k,edC bl cs bs k<=k
 |0=>Nat.le_refl _
 |k+1=>by
  have:=edC_le bl cs bs k
  unfold edC
  split <;> omega
theorem edC_zero {bl:Nat->Bool}{cs:Nat->Int}{bs:Nat->Bool}:∀ {k},edC bl cs bs k=0->edF bl cs bs k=bl
 |0,_=>rfl
 |k+1,h=>by
  unfold edC at h
  split at h
  ·next e =>
   have:=edC_zero (k:=k) (by omega)
   unfold edF
   rw [upd_same e,this]
  ·omega
def edE (W H:Int) (cs:Nat->Int) (n:Nat):Int:=if 60<n then 2 else if (List.range n).all (fun i=>inB W H (cs i)) then 0 else 1
theorem edE_cases (W H:Int)(cs:Nat->Int)(n:Nat):(60<n/\edE W H cs n=2)\/(n<=60/\edE W H cs n=0/\∀ i,i<n->inB W H (cs i)=true)\/(n<=60/\edE W H cs n=1/\∃ i,i<n/\inB W H (cs i)=false/\∀ j,j<i->inB W H (cs j)=true):=by
 unfold edE
 by_cases h:60<n
 ·exact Or.inl ⟨h,if_pos h⟩
 ·rw [if_neg h]
  cases ha:(List.range n).all (fun i=>inB W H (cs i)) with
  |true=>exact Or.inr (Or.inl ⟨by omega,rfl,fun i hi=>List.all_eq_true.1 ha i (List.mem_range.2 hi)⟩)
  |false =>
   refine Or.inr (Or.inr ⟨by omega,rfl,?_⟩)
   have hx:∃ i,i<n/\inB W H (cs i)=false:=by
    obtain ⟨i,h1,h2⟩:=List.all_eq_false.1 ha
    exact ⟨i,List.mem_range.1 h1,by simpa using h2⟩
   have key:∀ m,(∃ i,i<m/\i<n/\inB W H (cs i)=false)->∃ i,i<n/\inB W H (cs i)=false/\∀ j,j<i->inB W H (cs j)=true:=by
    intro m
    induction m with
    |zero=>rintro ⟨i,h,_⟩;omega
    |succ m ih =>
     rintro ⟨i,h1,h2,h3⟩
     by_cases hm:∃ i,i<m/\i<n/\inB W H (cs i)=false
     ·exact ih hm
     ·have e:i=m:=by
       by_cases e:i=m
       ·exact e
       ·exact absurd ⟨i,by omega,h2,h3⟩ hm
      subst e
      exact ⟨i,h2,h3,fun j hj=>by
       cases hb:inB W H (cs j) with
       |true=>rfl
       |false=>exact absurd ⟨j,hj,by omega,hb⟩ hm⟩
   obtain ⟨i,h1,h2⟩:=hx
   exact key n ⟨i,h1,h1,h2⟩
def edV (e:Int):Value:=if e=0 then .nilIface else .iface 39 (.int .i64 e)
set_option maxHeartbeats 2000000 in
theorem ncheck_any {rb pb mb sb n cap:Nat}{W H V:Int}{bl:Nat->Bool}{A:Option Addr}{cs:Nat->Int}{bs:Nat->Bool}(w:World)(c1:w.cell? ⟨sb,1,none⟩=some (.pointer (some ⟨rb,0,none⟩)))(G:GraphAt w rb pb mb W H V bl)(hq:OldEd w A n cs bs) :
  Calls Tryz.prog 46 #[.pointer (some ⟨sb,0,none⟩),.slice A n cap] w fun e w'=>e=.returned (edV (edE W H cs n))/\Below w.heap.size w w':=by
 rcases edE_cases W H cs n with ⟨h60,he⟩|hh
 ·rw [he]
  have h60':(60:Int)<(n:Int):=by omega
  unfold edV
  go_enter Tryz.func46,Tryz.ntmps46
  go_wp2
  go_ret
  exact ⟨rfl,Below.refl _ _⟩
 ·have h60:¬ (60:Int)<(n:Int):=by
   rcases hh with h|h
   ·have:=h.1;omega
   ·have:=h.1;omega
  have HH:Hid ((edE W H cs n=0/\∀ i,i<n->inB W H (cs i)=true)\/(edE W H cs n=1/\∃ i,i<n/\inB W H (cs i)=false/\∀ j,j<i->inB W H (cs j)=true)):=hh.elim (fun h=>Or.inl h.2) (fun h=>Or.inr h.2)
  have hgg:=ggrid_any w G
  have HQ:Hid (OldEd w A n cs bs):=hq
  obtain ⟨EV,hEV⟩:∃ EV,edV (edE W H cs n)=EV:=⟨_,rfl⟩
  rw [hEV]
  have HEV:Hid (edV (edE W H cs n)=EV):=hEV
  clear hh G hq hEV
  go_enter Tryz.func46,Tryz.ntmps46
  go_wp2_with fail
  refine hgg.mono ?_
  rintro e wb ⟨rfl,hb1,hz1,g1,_⟩
  have HQ1:Hid (OldEd wb A n cs bs):=HQ.out.below hb1
  clear hgg c1
  go_wp2
  go_loopw [21] (fun iv wr=>∃ i:Nat,i<=n/\iv=.int .i64 i/\(∀ j,j<i->inB W H (cs j)=true)/\Below wb.heap.size wb wr)
   (fun i _=>n - (intOf i).toNat)
  case atStart=>exact ⟨0,Nat.zero_le _,rfl,fun j hj=>absurd hj (Nat.not_lt_zero j),Below.refl _ _⟩
  case round =>
   obtain ⟨i,hi,rfl,hall,hB⟩:=hrel
   have HAL:Hid (∀ j,j<i->inB W H (cs j)=true):=hall
   have BW:=hb1.trans (hB.mono hb1.size)
   clear hall
   by_cases hlt:i<n
   ·obtain ⟨bA,oA,rfl,hbA,f0,t0⟩:=(HQ1.out.below hB) i hlt
    have i1:(i:Int)<(n:Int):=by omega
    have HCI:Hid (∀ b,inB W H (cs i)=b->b=true->∀ j,j<i+1->inB W H (cs j)=true):=fun b h1 h2 j hj=>by
     by_cases e:j=i
     ·rw [e,h1,h2]
     ·exact HAL.out j (by omega)
    have HNO:Hid (inB W H (cs i)=false->edE W H cs n=1):=fun h=>by
     rcases HH.out with ⟨_,h2⟩|⟨h2,_⟩
     ·rw [h2 i hlt] at h;cases h
     ·exact h2
    generalize cs i=ci at *
    generalize bs i=bi at *
    have b3:Below wr.heap.size wr (wr.alloc (.cells #[.int .i64 ci,.bool bi] 62)):=(Below.refl _ _).alloc (Nat.le_refl _) _
    have D3:=hB.trans (b3.mono hB.size)
    have g3:=g1.below D3 hz1
    have q0:(wr.alloc (.cells #[.int .i64 ci,.bool bi] 62)).cell? ⟨wr.heap.size,0,none⟩=some (.int .i64 ci):=World.cell?_alloc_at #[.int .i64 ci,.bool bi] 62 wr.heap.size 0 rfl
    cases hin:inB W H ci with
    |true =>
     obtain ⟨c,rfl⟩:∃ c:Nat,ci=(c:Int):=⟨ci.toNat,by have h:0<=ci/\ci<W*H:=of_decide_eq_true hin;omega⟩
     have hfr:=free_in c _ g3 hin
     have HCJ:Hid (∀ j,j<i+1->inB W H (cs j)=true):=HCI.out _ hin rfl
     clear HNO HCI
     go_wp2_with fail
     refine hfr.mono ?_
     rintro e w5 ⟨rfl,m5,hw5⟩
     have D5:Below wb.heap.size wb w5:=by rw [hw5];exact below_drewN D3 _
     clear hw5 hfr g3 q0
     go_wp2
     go_roundw
     case rel=>exact ⟨i+1,by omega,by go_num,HCJ.out,D5⟩
     case measure=>simp [intOf];omega
    |false =>
     have hfr:=free_out ci _ g3 hin
     have he:=HNO.out hin
     clear HNO HCI
     go_wp2_with fail
     refine hfr.mono ?_
     rintro e w5 ⟨rfl,m5,hw5⟩
     have D5:Below wb.heap.size wb w5:=by rw [hw5];exact below_drewN D3 _
     clear hw5 hfr g3 q0
     have HE:Hid (.iface 39 (.int .i64 1)=EV):=by rw [<- HEV.out,he];rfl
     clear he
     go_wp2
     go_ret
     exact ⟨by rw [<- HE.out];rfl,hb1.trans (D5.mono hb1.size)⟩
   ·have e:i=n:=by omega
    subst e
    have he:edE W H cs i=0:=by
     rcases HH.out with ⟨h,_⟩|⟨_,j,h1,h2,_⟩
     ·exact h
     ·rw [HAL.out j h1] at h2;cases h2
    have HE:Hid (.nilIface=EV):=by rw [<- HEV.out,he];rfl
    clear he
    go_wp2
    go_ret
    exact ⟨by rw [<- HE.out];rfl,BW⟩
theorem Lvd.keep {F:Nat->Prop}{w w':World}{N lb most:Nat}{W H:Int}{bl:Nat->Bool}{es:Nat->List LE}(h:Lvd w N lb most W H bl es)(K:Keep F w w')(hF:∀ g,N<=g->¬ F g):Lvd w' N lb most W H bl es:=by
 obtain ⟨vb,eb,k,st,f,hR,hO,V⟩:=h
 refine ⟨vb,eb,k,st,f,hR,hO,V.keep K (fun g hg=>hF g ?_)⟩
 rcases hg with h|h|h|⟨i,v,h1,h2⟩
 ·rw [h];exact V.nb.1
 ·rw [h];exact V.nb.2.1
 ·rw [h];exact V.nb.2.2
 ·obtain ⟨i0,hi⟩:=V.no i v h1
  obtain ⟨v',e,ho⟩:=V.row _ hi
  rw [Int.toNat_of_nonneg i0,h1] at e
  cases e
  exact (ho.lt g h2).1
def EdP (w w':World) (e:Ending) (lo hi sb:Nat) (W H V:Int) (bl:Nat->Bool) (most n:Nat) (cs:Nat->Int) (bs:Nat->Bool):Prop :=
 (edE W H cs n≠0/\e=.returned (.tuple #[.int .i64 0,.iface 39 (.int .i64 (edE W H cs n))])/\Below w.heap.size w w') \/
 (edE W H cs n=0/\n<=60/\(∀ i,i<n->inB W H (cs i)=true)/\e=.returned (.tuple #[.int .i64 (edC bl cs bs n:Nat),.nilIface])/\Sv w' lo hi sb W H (V+(edC bl cs bs n:Nat)) (edF bl cs bs n) most/\Keep (fun k=>lo<=k/\k<hi) w w')
end Go.Proofs.YtipbhlofbpnpjaaGreatDoor
