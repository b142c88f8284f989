import Derived.Test.YthfcanpkhjgomaaGreatRefC
import Derived.Test.YthfcanpkhjgomaaGreatVa
set_option maxRecDepth 100000
set_option maxHeartbeats 400000
namespace Go.Proofs.YthfcanpkhjgomaaGreat
open Go.RowKit
theorem many6_any (w:World):Calls Tryz.prog 24 #[.int .i64 6000] w fun e w'=>e=.returned (.pointer (some ⟨w.heap.size,0,none⟩))∧CountAt w' w.heap.size 6000∧Below w.heap.size w w':=by
 go_enter Tryz.func24,Tryz.ntmps24
 go_wp2
 go_ret
 refine ⟨rfl,⟨by simp,by simp,by omega,by omega⟩,(Below.refl _ w).alloc (Nat.le_refl _) _⟩
theorem num_any (e:Int) (w:World):Calls Tryz.prog 12 #[.int .i64 e] w fun r w'=>r=.returned (.int .i64 e)∧w'=w:=by
 go_enter Tryz.func12,Tryz.ntmps12
 go_wp2
 go_ret
 exact ⟨rfl,rfl⟩
theorem fits_any (c:Array Value) (nm:ByteArray) (v:Vd) (m:Md) (ks:F) (w:World) (hN:HasN w c nm v m ks) (hnm:nm.size≤9223372036854775807) (hok:ks.ok) (hlen:ks.len≤9223372036854775807):
  Calls Tryz.prog 6 #[.agg c] w fun e w'=>∃ b:Bool,e=.returned (.bool b)∧(b=true→ks.weight≤6000∧checkE v m ks=0)∧G w w':=by
 have hcs:c.size=41:=by obtain ⟨_,rfl,_⟩:=hN;exact jZ ..
 have hG0:G w (w.alloc (.cells c 30)):=G.alloc _ _
 have HN:=hid (⟨hN.below hG0,Var.new w c,hG0⟩:HasN (w.alloc (.cells c 30)) c nm v m ks∧Var (w.alloc (.cells c 30)) w.heap.size c∧G w (w.alloc (.cells c 30)))
 have HO:=hid (⟨hnm,hlen,hok⟩:_∧_∧_)
 clear hN hG0 hnm hok hlen
 go_enter Tryz.func6,Tryz.ntmps6
 go_upto_region 1 with fail
 generalize w.alloc (.cells c 30)=w1 at *
 generalize hB0:w.heap.size=B0 at *
 go_wp2_with fail
 refine (many6_any w1).mono ?_
 rintro e w2 ⟨rfl,hC,bl⟩
 have HC:=hid (⟨hC,bl⟩:CountAt w2 w1.heap.size 6000∧Below w1.heap.size w1 w2)
 have hl:Lies w2 B0 0 c:=(HN.out.2.1.grow bl).lies
 have HL:=hid hl
 clear hC bl hl
 have C2:=node_any w1 c nm v m ks HN.out.1 ⟨HO.out.1,HO.out.2.1,HO.out.2.2⟩ (nodes_any w1 (ks.size+1) ks (Nat.lt_succ_self _)) w2 w1.heap.size 6000 HC.out.2 (Nat.le_refl _) HC.out.1
 have HGG:=hid (⟨HN.out.2.2,HC.out.2⟩:G w w1∧G w1 w2)
 obtain ⟨C,hCC⟩:∃ C,w1.heap.size=C:=⟨_,rfl⟩
 rw [hCC] at C2 ⊢
 have HCC:=hid hCC
 clear hCC
 go_wp2_with ((with_reducible refine jA (.agg c) ?_ ?_ ?_);exact jH _ rfl B0 0 rfl c hcs HL.out;kernel_rfl)
 refine C2.mono ?_
 rintro e w3 ⟨⟨b2,rfl⟩,n2,hC2,l2,bl2⟩
 have C3:=ok_any C n2 w3 hC2
 have HB3:Hid (G w w3):=by
  have h1:=HGG.out.1.size
  have h2:=HGG.out.2.size
  have h3:=HCC.out
  exact Below.trans (B:=w.heap.size) HGG.out.1 (Below.trans (B:=w.heap.size) (Below.mono HGG.out.2 h1) (But.below bl2 (by omega) (by omega)))
 have HB13:Hid (G w1 w3):=by
  have h2:=HGG.out.2.size
  have h3:=HCC.out
  exact Below.trans (B:=w1.heap.size) HGG.out.2 (But.below bl2 (by omega) (by omega))
 have HF:=hid l2
 have hl3:Lies w3 B0 0 c:=(HN.out.2.1.grow HB13.out).lies
 have HL3:=hid hl3
 clear C2 hC2 l2 bl2 hl3
 by_cases hn:0≤n2
 ·rw [decide_eq_true hn] at C3
  have hw:ks.weight≤6000:=by have:=HF.out hn;omega
  have C4:=hid (refCheckT_any c nm v m ks w3 (HN.out.1.below HB13.out) (by omega))
  obtain ⟨ce,hce⟩:∃ ce,checkE v m ks=ce:=⟨_,rfl⟩
  obtain ⟨cp,hcp⟩:∃ cp,checkP v m ks=cp:=⟨_,rfl⟩
  rw [hce,hcp] at C4
  have HH:=hid (And.intro hw hce)
  clear hw hce hcp hn
  go_wp2_with (first
   | (go_at_call 26;refine C3.mono ?_;rintro e w4 ⟨rfl,e3⟩;subst e3)
   | ((with_reducible refine jA (.agg c) ?_ ?_ ?_);exact jH _ rfl B0 0 rfl c hcs HL3.out;kernel_rfl)
   | (go_at_call 27;refine C4.out.mono ?_;rintro e w5 ⟨rfl,b5⟩;have H5:=hid b5;clear b5))
  go_ret
  refine ⟨_,rfl,fun h=>⟨HH.out.1,by rw [HH.out.2];simpa using h⟩,?_⟩
  have:=Below.up HB3.out H5.out
  first | exact this | (rw [hB0] at this;exact this)
 ·rw [decide_eq_false hn] at C3
  go_wp2_with (go_at_call 26;refine C3.mono ?_;rintro e w4 ⟨rfl,e3⟩;subst e3)
  go_ret
  refine ⟨_,rfl,fun h=>(by cases h),?_⟩
  have:=HB3.out
  first | exact this | (rw [hB0] at this;exact this)
theorem grown5_any (c:Array Value) (nm:ByteArray) (v:Vd) (m:Md) (ks:F) (w:World) (hN:HasN w c nm v m ks) (hw:ks.weight≤6000) (he:checkE v m ks=0):
  Calls Tryz.prog 8 #[.agg c] w fun e w'=>∃ p k,e=.returned (.tuple #[.pointer (some ⟨p,0,none⟩),.bool true])∧AtT w' p v m k∧k.flat=ks∧k.plain w'∧Tr w' p∧G w w':=by
 have hcs:c.size=41:=by obtain ⟨_,rfl,_⟩:=hN;exact jZ ..
 obtain ⟨w1,hw1⟩:∃ w1,w.alloc (.cells c 30)=w1:=⟨_,rfl⟩
 have hG0:G w w1:=by rw [← hw1];exact G.alloc _ _
 obtain ⟨B,hB⟩:∃ B,w.heap.size=B:=⟨_,rfl⟩
 have HL:Hid (Lies w1 B 0 c):=by rw [← hw1,← hB];exact jh _ _ _
 have C:=hid (of_anyP c nm v m ks w1 (hN.below hG0) (by omega))
 rw [he] at C
 have HG:=hid hG0
 clear hN hG0
 go_enter Tryz.func8,Tryz.ntmps8
 go_wp2_with (first
  | ((with_reducible refine jA (.agg c) ?_ ?_ ?_);exact jH _ rfl B 0 rfl c hcs HL.out;kernel_rfl)
  | (go_at_call 29;refine C.out.mono ?_;rintro e w2 ⟨u,rfl,b2,hr⟩;rcases hr with ⟨q,_⟩ | ⟨_,p,k,rfl,hT,hf,hp,htr⟩;exact absurd rfl q;have H2:=hid (And.intro b2 (And.intro hT (And.intro hf (And.intro hp htr))));clear b2 hT hf hp htr)
  | (go_at_call 12;refine (num_any 0 _).mono ?_;rintro e w3 ⟨rfl,rfl⟩))
 obtain ⟨b2,hT,hf,hp,htr⟩:=H2.out
 refine bodyPost_ret (v:=.tuple #[.pointer (some ⟨p,0,none⟩),.bool true]) (by simp [results,Tryz.f8,go_sem]) rfl ?_
 refine ⟨p,k,rfl,hT,hf,hp,htr,?_⟩
 have:=Below.up HG.out b2
 exact this
end Go.Proofs.YthfcanpkhjgomaaGreat
