/-
  Texts laid together: Parsed.
-/
import Derived.Test.YtmaefimaeelkbaaGreatDoorP25
namespace Go.Proofs.YtmaefimaeelkbaaGreatDoor
open Go.RowKit
theorem head_some {s a b c d r:List UInt8}(h:cut4 s=some (a,b,c,d,r))(hs:s.length<=1000)(w:World)(E:Env w) :
  Calls Tryz.prog 66 #[.string (str s)] w fun e w'=>e=.returned (.tuple #[.agg #[.string (str a),.string (str b),.string (str c),.string (str d)],.string (str r),.bool true])/\Below w.heap.size w w' :=
 (cutHead_any s hs w E).mono fun e w' ⟨he,hb⟩=>⟨by unfold HeadPost at he;rw [h] at he;exact he,hb⟩
theorem cut4_len {s a b c d r:List UInt8}(h:cut4 s=some (a,b,c,d,r)):b.length<=s.length/\c.length<=s.length/\r.length<=s.length:=by
 unfold cut4 at h
 split at h
 ·cases h
 ·rename_i h1
  split at h
  ·cases h
  ·rename_i h2
   split at h
   ·cases h
   ·rename_i h3
    split at h
    ·cases h
    ·rename_i h4
     simp at h
     obtain ⟨rfl,rfl,rfl,rfl,rfl⟩:=h
     have e1:=cutL_len h1
     have e2:=cutL_len h2
     have e3:=cutL_len h3
     have e4:=cutL_len h4
     omega
theorem cells_new {W H:Nat}(h:sideB W=true)(k:sideB H=true)(w:World):CellsAt (w.alloc (.cells (gridC W H) 136)) w.heap.size W H [] :=
 ⟨gridAt_new W H w h k,free_alloc w _ _ _ (Nat.le_refl _)⟩
set_option maxHeartbeats 1000000 in
set_option maxRecDepth 100000 in
theorem parse_rows {s a b c d r:List UInt8}{W H:Nat}{o:Option (List Bool)}(h:¬ 1000<s.length)(h4:cut4 s=some (a,b,c,d,r))(hz:sizeOf4 a b c d=some ((W:Int),(H:Int)))(hs:sideB W=true)(hs2:sideB H=true)(ho:rowsB W H r=o)(w:World)(E:Env w) :
  Calls Tryz.prog 33 #[.string (str s)] w fun e w'=>((o=none/\e=.returned (.tuple #[.pointer none,.iface 54 (.int .i64 3)]))\/(∃ cs,o=some cs/\∃ B,w.heap.size<=B/\B<w'.heap.size/\e=.returned (.tuple #[.pointer (some ⟨B,0,none⟩),.nilIface])/\CellsAt w' B W H cs))/\Below w.heap.size w w':=by
 have hsz:=str_size s
 have h1:¬ (1000:Int)<(s.length:Int):=by omega
 obtain ⟨l1,l2,l3⟩:=cut4_len h4
 have H4:Hid (cut4 s=some (a,b,c,d,r)):=h4
 have HZ:Hid (sizeOf4 a b c d=some ((W:Int),(H:Int))):=hz
 have HO:Hid (rowsB W H r=o):=ho
 clear h4 hz ho
 go_enter Tryz.func33,Tryz.ntmps33
 go_wp2_with (go_at_call 66;refine (head_some H4.out (by omega) _ E).mono ?_;rintro e w1 ⟨rfl,hb1⟩)
 have z1:=hb1.size
 have hb2:Below w.heap.size w (w1.alloc (four a b c d)):=hb1.alloc (by omega) _
 have E2:=E.grown hb2
 unfold four at hb2 E2
 go_wp2_with (first|(go_at_call 67;refine (size_ok HZ.out (by omega) (by omega) _ E2).mono ?_;rintro e w3 ⟨rfl,hb3⟩))
 have z3:=hb3.size
 simp only [World.size_alloc] at z3
 have hb03:Below w.heap.size w w3:=hb2.trans (hb3.mono (by simp;omega))
 have hb4:Below w.heap.size w (w3.alloc (.cells (gridC W H) 136)):=hb03.alloc (by omega) _
 have E4:=E.grown hb4
 have C4:=cells_new hs hs2 w3
 have z7:=E.z
 go_wp2_with (first|(go_at_call 31;refine (new_ok _ _ _ hs hs2).mono ?_;rintro e w' ⟨rfl,rfl⟩)|(go_at_call 68;refine (fill_any r _ E4 (by omega) C4 (by omega)).mono ?_))
 rintro e w5 ⟨he5,T5,C5⟩
 subst he5
 rw [HO.out] at C5 ⊢
 have hb5:Below w.heap.size w w5:=hb4.trans (T5.under.mono (by omega))
 have z5:w5.heap.size=w3.heap.size+1:=by rw [T5.size];simp
 cases o with
 |none =>
  go_wp2
  go_ret2
  first|exact ⟨.inl ⟨rfl,rfl⟩,hb5⟩|exact ⟨rfl,hb5⟩
 |some cs =>
  have C6:=C5 cs rfl
  clear C5
  go_wp2
  go_ret2
  exact ⟨.inr ⟨cs,rfl,w3.heap.size,by omega,by omega,rfl,C6⟩,hb5⟩
theorem side_nat {W:Int}(h:sideN W=true):((W.toNat:Nat):Int)=W:=by
 have:1<=W/\W<=16:=of_decide_eq_true h
 omega
theorem parse_good {s:List UInt8}{W H:Nat}{cs:List Bool}(h:readOf s=.good W H cs)(w:World)(E:Env w) :
  Calls Tryz.prog 33 #[.string (str s)] w fun e w'=>∃ B,w.heap.size<=B/\B<w'.heap.size/\e=.returned (.tuple #[.pointer (some ⟨B,0,none⟩),.nilIface])/\CellsAt w' B W H cs/\Below w.heap.size w w':=by
 unfold readOf at h
 split at h
 ·cases h
 ·rename_i h1
  split at h
  ·cases h
  ·rename_i a b c d r h4
   split at h
   ·cases h
   ·rename_i w0 h0 hz
    split at h
    ·rename_i hs
     split at h
     ·cases h
     ·rename_i cs' hr
      injection h with q1 q2 q3
      subst q1 q2 q3
      have e1:=side_nat hs.1
      have e2:=side_nat hs.2
      rw [<- e1,<- e2] at hz
      exact (parse_rows h1 h4 hz (by rw [e1];exact hs.1) (by rw [e2];exact hs.2) hr w E).mono fun e w' ⟨hp,hb⟩=>by
       rcases hp with ⟨hn,_⟩|⟨cs,hn,B,b1,b2,he,hC⟩
       ·cases hn
       ·cases hn
        exact ⟨B,b1,b2,he,hC,hb⟩
    ·cases h
end Go.Proofs.YtmaefimaeelkbaaGreatDoor
