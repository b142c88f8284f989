import Derived.Test.YthfcanpkhjgomaaGreatCApp
set_option maxRecDepth 100000
set_option maxHeartbeats 4000000
namespace Go.Proofs.YthfcanpkhjgomaaGreat.Ch
open Go.RowKit
def lessI (l n:Int):Int:=if 0≤l then l-n else l
theorem add_any (K:Nat) (l n:Int) (w:World) (h:Boxed w K 117 (.int .i64 l)) (h1:-9223372036854775808≤l) (h2:l≤1000000) (h3:0≤n) (h4:n≤9223372036854775807):
  Calls Tryz.prog 103 #[.pointer (some ⟨K,0,none⟩),.int .i64 n] w fun e w'=>(∃ b,e=.returned (.bool b))∧Boxed w' K 117 (.int .i64 (lessI l n))∧Below K w w':=by
 have c:=h.cell
 have f:=h.frozen
 have hs:=h.set (.int .i64 (l-n))
 have cs:=hs.cell
 by_cases hl:0≤l
 ·have e:lessI l n=l-n:=if_pos hl
  rw [e]
  have HB:=hid hs
  go_enter Tryz.func103,Tryz.ntmps103
  go_wp2
  all_goals go_ret
  all_goals exact ⟨⟨_,rfl⟩,HB.out,(Below.refl K w).setCell (p:=⟨K,0,none⟩) (Nat.le_refl _) _⟩
 ·have e:lessI l n=l:=if_neg hl
  rw [e]
  have HB:=hid h
  clear hs cs h
  go_enter Tryz.func103,Tryz.ntmps103
  go_wp2
  go_ret
  exact ⟨.inl rfl,HB.out,Below.refl _ _⟩
theorem ok_any (K:Nat) (l:Int) (w:World) (h:Boxed w K 117 (.int .i64 l)):Calls Tryz.prog 26 #[.pointer (some ⟨K,0,none⟩)] w fun e w'=>e=.returned (.bool (decide (0≤l)))∧w'=w:=by
 have c:=h.cell
 by_cases hl:0≤l
 ·rw [show decide (0≤l)=true by simpa using hl]
  go_enter Tryz.func26,Tryz.ntmps26
  go_wp2
  go_ret
  exact ⟨rfl,rfl⟩
 ·rw [show decide (0≤l)=false by simpa using hl]
  go_enter Tryz.func26,Tryz.ntmps26
  go_wp2
  go_ret
  exact ⟨rfl,rfl⟩
theorem text_any (K:Nat) (l:Int) (s:ByteArray) (w:World) (h:Boxed w K 117 (.int .i64 l)) (h1:-9223372036854775808≤l) (h2:l≤1000000) (hs:s.size≤9223372036854775807):
  Calls Tryz.prog 66 #[.pointer (some ⟨K,0,none⟩),.string s] w fun e w'=>e=.returned (.tuple #[])∧Boxed w' K 117 (.int .i64 (lessI (lessI l 1) s.size))∧Below K w w':=by
 have hl1:lessI l 1≤1000000∧-9223372036854775808≤lessI l 1:=by unfold lessI;split<;>omega
 have A1:=hid (add_any K l 1 w h (by omega) h2 (by omega) (by omega))
 have A2:Hid (∀ W,Boxed W K 117 (.int .i64 (lessI l 1))→Calls Tryz.prog 103 #[.pointer (some ⟨K,0,none⟩),.int .i64 (s.size:Int)] W fun e w'=>(∃ b,e=.returned (.bool b))∧Boxed w' K 117 (.int .i64 (lessI (lessI l 1) s.size))∧Below K W w'):=fun W hW=>add_any K (lessI l 1) s.size W hW hl1.2 hl1.1 (by omega) (by omega)
 clear h
 go_enter Tryz.func66,Tryz.ntmps66
 go_wp2_with (first
  | (go_at_call 103;refine (A2.out _ hx1).mono ?_;rintro e w2 ⟨⟨b2,rfl⟩,hx2,hb2⟩)
  | (go_at_call 103;refine A1.out.mono ?_;rintro e w1 ⟨⟨b1,rfl⟩,hx1,hb1⟩))
 refine bodyPost_end (results_none rfl _ _ _) rfl ?_
 exact ⟨rfl,hx2,hb1.trans hb2⟩
def parts:List Cd→Nat
 | []=>0
 | c::L=>c.path.size+1+parts L
theorem parts_snoc:∀ (L:List Cd) (c:Cd),parts (L++[c])=parts L+(c.path.size+1)
 | [],c=>by simp [parts]
 | x::L,c=>by show x.path.size+1+parts (L++[c])=_;rw [parts_snoc L c];simp only [parts];omega
theorem parts_len:∀ L:List Cd,L.length≤parts L
 | []=>Nat.le_refl _
 | c::L=>by have:=parts_len L;simp only [parts,List.length_cons];omega
theorem parts_mem:∀ (L:List Cd) (c:Cd),c∈L→c.path.size≤parts L
 | x::L,c,h=>by
  rcases List.mem_cons.1 h with rfl | h
  ·simp only [parts];omega
  ·have:=parts_mem L c h;simp only [parts];omega
theorem count_changes (K:Nat) (ao:Option Addr) (cp:Nat) (L:List Cd) (w:World) (hv:HasA w (.slice ao L.length cp) L) (h:Boxed w K 117 (.int .i64 6000)) (hn:L.length≤9223372036854775807) (hs:∀ c∈L,c.path.size≤9223372036854775807) (hK:∀ (i:Nat) (x:Cd),L[i]?=some x→∀ g o:Nat,ao=some ⟨g,o,none⟩→g<K):
  Calls Tryz.prog 28 #[.pointer (some ⟨K,0,none⟩),.slice ao L.length cp] w fun e w'=>e=.returned (.tuple #[])∧Below K w w'∧∃ l:Int,Boxed w' K 117 (.int .i64 l)∧(0≤l→parts L≤6000):=by
 obtain ⟨n,hn'⟩:∃ n,L.length=n:=⟨_,rfl⟩
 have HA:=hid hv
 have HN:=hid hn'
 have HS:=hid hs
 have HK:=hid hK
 rw [hn'] at hn HA ⊢
 clear hv hn' hs hK
 go_enter Tryz.func28,Tryz.ntmps28
 go_wp2
 go_loopg [4] n (fun gh i wr=>∃ k:Nat,k≤n∧gh=n-k∧i=.int .i64 (k:Int)∧Hid (Below K w wr∧∃ l:Int,Boxed wr K 117 (.int .i64 l)∧-9223372036854775808≤l∧l≤6000∧(0≤l→l+parts (L.take k)=6000)))
 case atStart=>exact ⟨0,Nat.zero_le _,rfl,rfl,Below.refl _ _,6000,h,by omega,by omega,fun _=>by simp [parts]⟩
 case round=>
  obtain ⟨k,hk,rfl,rfl,HR⟩:=hrel
  obtain ⟨gK,l,bx,l1,l2,hl⟩:=HR.out
  have OK:=hid (ok_any K l wr bx)
  by_cases hlt:k<n
  ·have i1:(k:Int)<(n:Int):=by omega
   have i0:(0:Int)≤(k:Int):=by omega
   by_cases hl0:0≤l
   ·rw [show decide (0≤l)=true by simpa using hl0] at OK
    obtain ⟨r,hx⟩:∃ r,L[k]?=some r:=⟨L[k]'(by rw [HN.out];exact hlt),by simp⟩
    obtain ⟨ga,oa,rfl,la⟩:=HA.out.at hx
    have hga:=HK.out k r hx ga oa rfl
    have c0:wr.cell? ⟨ga,oa+k*71,none⟩=some (.string r.path):=(World.cell?_of_block (gK.block ga hga)).trans la.path
    have hsz:=HS.out r (List.mem_of_getElem? hx)
    have TX:=hid (text_any K l r.path wr bx l1 (by omega) hsz)
    have HE:Hid (-9223372036854775808≤lessI (lessI l 1) r.path.size∧lessI (lessI l 1) r.path.size≤6000∧(0≤lessI (lessI l 1) r.path.size→lessI (lessI l 1) r.path.size+parts (L.take (k+1))=6000)):=by
     have h1:lessI l 1=l-1:=if_pos hl0
     have h3:=hl hl0
     have h4:parts (L.take (k+1))=parts (L.take k)+(r.path.size+1):=by rw [List.take_add_one,hx];exact parts_snoc _ _
     rw [h1,h4]
     unfold lessI
     refine ⟨?_,?_,?_⟩<;>split<;>omega
    have HGK:=hid gK
    obtain ⟨l3,hl3⟩:∃ l3,lessI (lessI l 1) r.path.size=l3:=⟨_,rfl⟩
    rw [hl3] at TX HE
    clear hl3 la hga hl bx HR hx gK
    go_wp2_with (first
     | (go_at_call 26;refine OK.out.mono ?_;rintro e w1 ⟨rfl,rfl⟩)
     | (go_at_call 66;refine TX.out.mono ?_;rintro e w2 ⟨rfl,hx2,hb2⟩))
    go_roundg (n-(k+1))
    case measure=>omega
    case rel=>exact ⟨k+1,by omega,rfl,by go_num,HGK.out.trans hb2,l3,hx2,HE.out⟩
   ·rw [show decide (0≤l)=false by simpa using hl0] at OK
    have HF:Hid (Below K w wr∧∃ l:Int,Boxed wr K 117 (.int .i64 l)∧(0≤l→parts L≤6000)):=⟨gK,l,bx,fun q=>absurd q hl0⟩
    clear HR hl bx gK
    go_wp2_with (go_at_call 26;refine OK.out.mono ?_;rintro e w1 ⟨rfl,rfl⟩)
    refine bodyPost_end (results_none rfl _ _ _) rfl ?_
    exact ⟨rfl,HF.out⟩
  ·obtain rfl:k=n:=by omega
   have i1:¬ ((k:Int)<(k:Int)):=by omega
   have HF:Hid (Below K w wr∧∃ l:Int,Boxed wr K 117 (.int .i64 l)∧(0≤l→parts L≤6000)):=⟨gK,l,bx,fun q=>by have:=hl q;rw [List.take_of_length_le (by rw [HN.out];omega)] at this;omega⟩
   clear HR hl bx gK OK
   go_wp2
   refine bodyPost_end (results_none rfl _ _ _) rfl ?_
   exact ⟨rfl,HF.out⟩
theorem few_any (ao:Option Addr) (cp:Nat) (L:List Cd) (w:World) (hv:HasA w (.slice ao L.length cp) L) (hn:L.length≤9223372036854775807) (hs:∀ c∈L,c.path.size≤9223372036854775807):
  Calls Tryz.prog 7 #[.slice ao L.length cp] w fun e w'=>∃ b,e=.returned (.bool b)∧(b=true→parts L≤6000)∧Below w.heap.size w w':=by
 obtain ⟨K,hK⟩:∃ K,w.heap.size=K:=⟨_,rfl⟩
 have b1:Boxed (w.alloc (.cells #[.int .i64 6000] 117)) K 117 (.int .i64 6000):=by rw [← hK];exact Boxed.new w 117 _
 have g1:Below w.heap.size w (w.alloc (.cells #[.int .i64 6000] 117)):=(Below.refl _ w).alloc (Nat.le_refl _) _
 obtain ⟨w1,hw1⟩:∃ w1,w.alloc (.cells #[.int .i64 6000] 117)=w1:=⟨_,rfl⟩
 rw [hw1] at b1 g1
 have M:Hid (Calls Tryz.prog 24 #[.int .i64 6000] w fun e w'=>e=.returned (.pointer (some ⟨K,0,none⟩))∧w'=w1):=by
  show Calls Tryz.prog 24 _ _ _
  go_enter Tryz.func24,Tryz.ntmps24
  go_wp2
  go_ret
  exact ⟨rfl,rfl⟩
 have C:=hid (count_changes K ao cp L w1 (hv.below g1) b1 hn hs (fun i x hx g o e=>by
  obtain ⟨g',o',e',hl⟩:=hv.at hx
  rw [e'] at e
  injection e with e
  injection e with e1 _ _
  subst e1
  have:=World.block_lt_of_cell? w ⟨g',o'+i*71,none⟩ hl.path
  rw [hK] at this
  exact this))
 have HG:=hid g1
 obtain ⟨n,hn'⟩:∃ n,L.length=n:=⟨_,rfl⟩
 rw [hn'] at C ⊢
 clear hv hs hn g1 b1 hw1 hn'
 go_enter Tryz.func7,Tryz.ntmps7
 go_wp2_with (first
  | (go_at_call 26;refine (ok_any K l w2 hbx).mono ?_;rintro e w3 ⟨rfl,rfl⟩)
  | (go_at_call 28;refine C.out.mono ?_;rintro e w2 ⟨rfl,hb2,l,hbx,hl⟩)
  | (go_at_call 24;refine M.out.mono ?_;rintro e wq ⟨rfl,rfl⟩))
 go_ret
 refine ⟨_,rfl,fun q=>hl (by simpa using q),?_⟩
 have:=HG.out
 rw [hK] at this ⊢
 exact this.trans hb2
end Go.Proofs.YthfcanpkhjgomaaGreat.Ch
