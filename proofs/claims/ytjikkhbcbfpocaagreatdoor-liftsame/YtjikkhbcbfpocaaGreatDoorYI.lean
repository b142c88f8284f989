import Derived.Test.YtjikkhbcbfpocaaGreatDoorYC
import Derived.Test.YtjikkhbcbfpocaaGreatDoorYK
set_option maxRecDepth 100000
set_option maxHeartbeats 8000000
namespace Go.Proofs.YtjikkhbcbfpocaaGreatDoor
open Go.RowKit Go.Shelf
attribute [local go_sem] Oper.semAt_some
def mdOk (nm:ByteArray) (v:Vd) (m:Md) (ks:F) (ver most:Int):Prop:=1+nm.size+ks.weight≤20000∧v.kind=1∧qT v m ks=0∧encE ver 1 (1+ks.size:Nat) most=0
def wK (nm:ByteArray) (v:Vd) (m:Md) (ks:F) (ver most:Int) (w:World) (e:Ending) (w':World):Prop:=G w w'∧
  ((¬ mdOk nm v m ks ver most∧e=.returned (.slice none 0 0))∨
   (mdOk nm v m ks ver most∧∃ (a:Addr) (len cap:Nat),e=.returned (.slice (some a) len cap)∧Su.Has w' (.slice (some a) len cap) (arcW ver.toNat (wrV ver v) m (wrF ver ks))))
theorem pq (c:Array Value) (nm:ByteArray) (v:Vd) (m:Md) (ks:F) (w:World) (ver most:Int) (hN:HasN w c nm v m ks) (hnm:nm.size≤9223372036854775807) (hok:ks.ok) (hlen:ks.len≤9223372036854775807) (hB:Su.Bytes v.sum) (hb:bytF ks)
    (hTb:Su.Tabs w) (hTh:Su.Half w):Calls Tryz.prog 23 #[.agg c,.int .i64 ver,.int .i64 most] w (wK nm v m ks ver most w):=by
  have hsz:c.size=41:=by obtain ⟨_,rfl,_⟩:=hN;exact jO ..
  have hV:=Var.new w c
  have hG0:G w (w.alloc (.cells c 30)):=G.alloc _ _
  have q1:=jB hV.lies 1 (.int .i64 v.kind) (by obtain ⟨_,rfl,_⟩:=hN;exact aO ..)
  have HH:=hid (⟨hV,hG0,hN.below hG0,q1⟩:Var (w.alloc (.cells c 30)) w.heap.size c∧G w (w.alloc (.cells c 30))∧HasN (w.alloc (.cells c 30)) c nm v m ks∧_)
  have HX:=hid (⟨⟨hnm,hok,hlen⟩,⟨hB,hb⟩,hTb,hTh⟩:(_∧_∧_)∧(_∧_)∧_∧_)
  clear hV hG0 hN q1 hnm hok hlen hB hb hTb hTh
  go_enter Tryz.func23,Tryz.ntmps23
  go_upto_region 1 with fail
  generalize w.alloc (.cells c 30)=w1 at *
  obtain ⟨B,hBB⟩:∃ B,w.heap.size=B:=⟨_,rfl⟩
  rw [hBB] at HH ⊢
  have HB:=hid hBB
  clear hBB
  have CF:=pp c nm v m ks w1 HH.o.2.2.1 HX.o.1.1 HX.o.1.2.1 HX.o.1.2.2
  by_cases hf:1+nm.size+ks.weight≤20000
  case neg=>
    rw [decide_eq_false hf] at CF
    have HR:Hid (¬ mdOk nm v m ks ver most):=fun h=>hf h.1
    go_wp2_with (first
      | ((with_reducible refine jA (.agg c) ?_ ?_ ?_);exact jH _ rfl B 0 rfl c hsz HH.o.1.lies;kernel_rfl)
      | (go_at_call 28;refine CF.mono ?_;rintro e w2 ⟨rfl,hg2⟩;have HG:=hid hg2;clear hg2))
    go_ret
    exact ⟨HH.o.2.1.trans HG.o,.inl ⟨HR.o,rfl⟩⟩
  rw [decide_eq_true hf] at CF
  have HF:=hid hf
  clear hf
  by_cases hk:v.kind=1
  case neg=>
    have HR:Hid (¬ mdOk nm v m ks ver most):=fun h=>hk h.2.1
    have hkb:(v.kind !=1)=true:=by simpa using hk
    go_wp2_with (first
      | ((with_reducible refine jA (.agg c) ?_ ?_ ?_);exact jH _ rfl B 0 rfl c hsz HH.o.1.lies;kernel_rfl)
      | (go_at_call 28;refine CF.mono ?_;rintro e w2 ⟨rfl,hg2⟩;have hq:=hg2.cell HH.o.2.2.2;have HG:=hid hg2;clear hg2))
    go_ret
    exact ⟨HH.o.2.1.trans HG.o,.inl ⟨HR.o,rfl⟩⟩
  have HC:Hid (∀ W,G w1 W→Calls Tryz.prog 29 #[.agg c] W fun e w'=>∃ u,e=.returned (.tuple #[u,.int .i64 (qT v m ks)])∧G W w'∧te w' u (qT v m ks) v m ks):=
    fun W hg=>eL c nm v m ks W (HH.o.2.2.1.below hg) (by have:=HF.o;omega)
  by_cases hc:qT v m ks=0
  case neg=>
    have HR:Hid (¬ mdOk nm v m ks ver most):=fun h=>hc h.2.2.1
    have hcb:(qT v m ks !=0)=true:=by simpa using hc
    generalize qT v m ks=ce at *
    go_wp2_with (first
      | ((with_reducible refine jA (.agg c) ?_ ?_ ?_);exact jH _ rfl B 0 rfl c hsz HH.o.1.lies;kernel_rfl)
      | ((with_reducible refine jA (.agg c) ?_ ?_ ?_);exact jH _ rfl B 0 rfl c hsz (HH.o.1.grow HG.o).lies;kernel_rfl)
      | (go_at_call 28;refine CF.mono ?_;rintro e w2 ⟨rfl,hg2⟩;have hq:=hg2.cell HH.o.2.2.2;rw [hk] at hq;have HG:=hid hg2;clear hg2)
      | (go_at_call 29;refine (HC.o _ HG.o).mono ?_;rintro e w3 ⟨u,rfl,hg3,ho⟩;have HG3:=hid (HG.o.trans hg3);obtain rfl:u=.pointer none:=(by rcases ho with ⟨_,q⟩ | ⟨q,_⟩;exact q;exact absurd q hc);clear hg3 ho))
    go_ret
    exact ⟨HH.o.2.1.trans HG3.o,.inl ⟨HR.o,rfl⟩⟩
  have HK:=hid (⟨hk,hc⟩:_∧_)
  rw [hc] at HC
  go_wp2_with (first
    | ((with_reducible refine jA (.agg c) ?_ ?_ ?_);exact jH _ rfl B 0 rfl c hsz HH.o.1.lies;kernel_rfl)
    | ((with_reducible refine jA (.agg c) ?_ ?_ ?_);exact jH _ rfl B 0 rfl c hsz (HH.o.1.grow HG.o).lies;kernel_rfl)
    | (go_at_call 28;refine CF.mono ?_;rintro e w2 ⟨rfl,hg2⟩;have hq:=hg2.cell HH.o.2.2.2;rw [hk] at hq;have HG:=hid hg2;clear hg2)
    | (go_at_call 29;refine (HC.o _ HG.o).mono ?_;rintro e w3 ⟨u,rfl,hg3,ho⟩;rcases ho with ⟨q,_⟩ | ⟨_,p,k,rfl,hA,hfl,_⟩;exact absurd rfl q;have H3:=hid (⟨HH.o.2.1.trans (HG.o.trans hg3),hA,hfl⟩:G w w3∧AtT w3 p v m k∧k.flat=ks);clear hg3 hA hfl hc hk hq))
  have hcc:=bW (jl HK.o.2).1 HX.o.2.1.1
  have hgg:=yW (jl HK.o.2).2 HX.o.2.1.2
  have hw2:ks.weight≤20000:=by have:=HF.o;omega
  have hz2:ks.size≤20000:=Nat.le_trans (F.size_le_weight _) hw2
  have CE:=zK p v m k w3 ver most H3.o.2.1 hcc (by rw [H3.o.2.2];exact hgg.1) (by rw [H3.o.2.2];exact hgg.2) (by rw [H3.o.2.2];omega) (by rw [H3.o.2.2];omega) (by rw [H3.o.2.2];exact xM HK.o.2) (HX.o.2.2.1.up H3.o.1) (HX.o.2.2.2.below H3.o.1 (by have:=HX.o.2.2.1.size;omega))
  rw [H3.o.2.2,HK.o.1] at CE
  clear hcc hgg hw2 hz2
  refine CE.mono ?_
  clear CE
  rintro e w5 (⟨hne,rfl,hg5⟩ | ⟨h0,u,rfl,hu,hg5⟩)
  · have HR:Hid (¬ mdOk nm v m ks ver most):=fun h=>hne h.2.2.2
    have hcb:(encE ver 1 (1+ks.size:Nat) most !=0)=true:=by simpa using hne
    have HG5:=hid hg5
    clear hg5
    generalize encE ver 1 (1+ks.size:Nat) most=ce at *
    go_wp2_with fail
    go_ret
    exact ⟨H3.o.1.trans HG5.o,.inl ⟨HR.o,rfl⟩⟩
  · have HR:Hid (mdOk nm v m ks ver most):=⟨HF.o,HK.o.1,HK.o.2,h0⟩
    have hh:Su.Has w5 u (arcW ver.toNat (wrV ver v) m (wrF ver ks)):=hu.has
    have HG5:=hid (⟨hg5,hh⟩:_∧_)
    have hv:1≤ver∧ver≤3:=by unfold encE at h0;split at h0;cases h0;omega
    have hpos:(arcW ver.toNat (wrV ver v) m (wrF ver ks))≠[]:=fun q=>by
      unfold arcW at q
      rw [List.append_eq_nil_iff] at q
      have h4:=congrArg List.length q.2
      rw [show (le4 (Su.Crc.crc (arcB ver.toNat (wrV ver v) m (wrF ver ks)))).length=4 from rfl] at h4
      cases h4
    obtain ⟨a,len,cap,rfl⟩:∃ a len cap,u=.slice (some a) len cap:=by
      rcases hh with ⟨_,q⟩ | ⟨a,cap,q,_,_⟩
      · exact absurd q hpos
      · exact ⟨a,_,cap,q⟩
    clear hg5 hu hh h0 hpos hv
    go_wp2_with fail
    go_ret
    exact ⟨H3.o.1.trans HG5.o.1,.inr ⟨HR.o,a,len,cap,rfl,HG5.o.2⟩⟩
def Sl (w:World) (u:Value) (l:List Nat):Prop:=∃ (a:Addr) (len cap:Nat),u=.slice (some a) len cap∧Su.Has w u l
theorem Sl.below {w w':World} {u:Value} {l:List Nat} (h:Sl w u l) (hg:G w w'):Sl w' u l:=by
 obtain ⟨a,len,cap,h1,h2⟩:=h
 exact ⟨a,len,cap,h1,h2.below hg⟩
theorem tA {o:Oper} {a:Act} (x:Operand) (ho:o.op=.binOp .eql 35 x (.const (.slice none 0 0)) 35) (hx:a.eval x=.slice none 0 0) (w:World):(execOp a.eval o).run Tryz.prog w=.ok (.value (.bool true)) w:=by
 unfold execOp
 simp only [ho,hx]
 kernel_rfl
theorem ek {o:Oper} {a:Act} (x:Operand) (ho:o.op=.binOp .eql 35 x (.const (.slice none 0 0)) 35) (q:Addr) (l c:Nat) (hx:a.eval x=.slice (some q) l c) (w:World):(execOp a.eval o).run Tryz.prog w=.ok (.value (.bool false)) w:=by
 unfold execOp
 simp only [ho,hx]
 kernel_rfl
theorem tB (c:Array Value) (hs:c.size=41) (w:World) (ver tv most:Int)
  (CK:Hid (∀ W,G w W→Calls Tryz.prog 22 #[] W fun e w'=>e=.returned (.bool true)∧G W w'))
  (CM:Hid (∀ W,G w W→Calls Tryz.prog 23 #[.agg c,.int .i64 ver,.int .i64 most] W fun e w'=>e=.returned (.slice none 0 0)∧G W w')):
  Calls Tryz.prog 7 #[.agg c,.int .i64 ver,.int .i64 tv,.int .i64 most] w fun e w'=>e=.returned (.bool true)∧G w w':=by
 have HV:=hid (⟨Var.new w c,G.alloc w (.cells c 30)⟩:Var (w.alloc (.cells c 30)) w.heap.size c∧G w (w.alloc (.cells c 30)))
 go_enter Tryz.func7,Tryz.ntmps7
 go_upto_region 1 with fail
 generalize w.alloc (.cells c 30)=w1 at *
 generalize w.heap.size=B at *
 go_wp2_with (first
  | (go_at_call 22;refine (CK.o _ HV.o.2).mono ?_;rintro e w2 ⟨rfl,hg2⟩;have H2:=hid (⟨HV.o.1.grow hg2,HV.o.2.trans hg2⟩:Var w2 B c∧G w w2);clear hg2)
  | ((with_reducible refine jA (.agg c) ?_ ?_ ?_);exact jH _ rfl B 0 rfl c hs H2.o.1.lies;kernel_rfl)
  | (go_at_call 23;refine (CM.o _ H2.o.2).mono ?_;rintro e w3 ⟨rfl,hg3⟩;have H3:=hid (H2.o.2.trans hg3);clear hg3)
  | ((with_reducible refine jA (.bool true) ?_ ?_ ?_);exact tA _ rfl rfl _;kernel_rfl))
 go_ret
 exact ⟨rfl,H3.o⟩
theorem tC (c:Array Value) (hs:c.size=41) (w:World) (ver tv most:Int) (A:List Nat) (hbad:tv<ver∨3<tv)
  (CK:Hid (∀ W,G w W→Calls Tryz.prog 22 #[] W fun e w'=>e=.returned (.bool true)∧G W w'))
  (CM:Hid (∀ W,G w W→Calls Tryz.prog 23 #[.agg c,.int .i64 ver,.int .i64 most] W fun e w'=>∃ u,e=.returned u∧Sl w' u A∧G W w'))
  (CG:Hid (∀ u W,G w W→Sl W u A→Calls Tryz.prog 24 #[u,.int .i64 tv,.int .i64 most] W fun e w'=>∃ fb,e=.returned (.tuple #[.slice none 0 0,.iface 72 (.pointer (some ⟨fb,0,none⟩))])∧w'.heap[fb]?=some (.cells (fc 4 ⟨#[]⟩ 70) 93 (0,0))∧G W w')):
  Calls Tryz.prog 7 #[.agg c,.int .i64 ver,.int .i64 tv,.int .i64 most] w fun e w'=>e=.returned (.bool true)∧G w w':=by
 have HV:=hid (⟨Var.new w c,G.alloc w (.cells c 30)⟩:Var (w.alloc (.cells c 30)) w.heap.size c∧G w (w.alloc (.cells c 30)))
 have HTo:Hid (∀ (fb:Nat) (W:World),W.heap[fb]?=some (.cells (fc 4 ⟨#[]⟩ 70) 93 (0,0))→Calls Tryz.prog 25 #[.iface 72 (.pointer (some ⟨fb,0,none⟩))] W fun x w'=>x=.returned (.tuple #[.agg #[.int .i64 4,.string ⟨#[]⟩,.int .i64 70],.bool true])∧G W w'):=
  fun fb W h=>dZ fb 4 70 ⟨#[]⟩ W h (by decide)
 by_cases hv:tv<ver
 ·go_enter Tryz.func7,Tryz.ntmps7
  go_upto_region 1 with fail
  generalize w.alloc (.cells c 30)=w1 at *
  generalize w.heap.size=B at *
  go_wp2_with (first
   | (go_at_call 22;refine (CK.o _ HV.o.2).mono ?_;rintro e w2 ⟨rfl,hg2⟩;have H2:=hid (⟨HV.o.1.grow hg2,HV.o.2.trans hg2⟩:Var w2 B c∧G w w2);clear hg2)
   | ((with_reducible refine jA (.agg c) ?_ ?_ ?_);exact jH _ rfl B 0 rfl c hs H2.o.1.lies;kernel_rfl)
   | (go_at_call 23;refine (CM.o _ H2.o.2).mono ?_;rintro e w3 ⟨u,rfl,⟨a,len,cap,rfl,hh⟩,hg3⟩;have H3:=hid (⟨H2.o.2.trans hg3,⟨a,len,cap,rfl,hh⟩⟩:G w w3∧Sl w3 (.slice (some a) len cap) A);clear hg3 hh)
   | ((with_reducible refine jA (.bool false) ?_ ?_ ?_);exact ek _ rfl _ _ _ rfl _;kernel_rfl)
   | (go_at_call 24;refine (CG.o _ _ H3.o.1 H3.o.2).mono ?_;rintro e w4 ⟨fb,rfl,hf,hg4⟩;have H4:=hid (⟨H3.o.1.trans hg4,hf⟩:G w w4∧_);clear hg4 hf)
   | (go_at_call 25;refine (HTo.o fb _ H4.o.2).mono ?_;rintro e w5 ⟨rfl,hg5⟩;have H5:=hid (H4.o.1.trans hg5);clear hg5))
  go_ret
  exact ⟨rfl,H5.o.trans (G.alloc _ _)⟩
 ·have h3:3<tv:=by omega
  clear hbad
  go_enter Tryz.func7,Tryz.ntmps7
  go_upto_region 1 with fail
  generalize w.alloc (.cells c 30)=w1 at *
  generalize w.heap.size=B at *
  go_wp2_with (first
   | (go_at_call 22;refine (CK.o _ HV.o.2).mono ?_;rintro e w2 ⟨rfl,hg2⟩;have H2:=hid (⟨HV.o.1.grow hg2,HV.o.2.trans hg2⟩:Var w2 B c∧G w w2);clear hg2)
   | ((with_reducible refine jA (.agg c) ?_ ?_ ?_);exact jH _ rfl B 0 rfl c hs H2.o.1.lies;kernel_rfl)
   | (go_at_call 23;refine (CM.o _ H2.o.2).mono ?_;rintro e w3 ⟨u,rfl,⟨a,len,cap,rfl,hh⟩,hg3⟩;have H3:=hid (⟨H2.o.2.trans hg3,⟨a,len,cap,rfl,hh⟩⟩:G w w3∧Sl w3 (.slice (some a) len cap) A);clear hg3 hh)
   | ((with_reducible refine jA (.bool false) ?_ ?_ ?_);exact ek _ rfl _ _ _ rfl _;kernel_rfl)
   | (go_at_call 24;refine (CG.o _ _ H3.o.1 H3.o.2).mono ?_;rintro e w4 ⟨fb,rfl,hf,hg4⟩;have H4:=hid (⟨H3.o.1.trans hg4,hf⟩:G w w4∧_);clear hg4 hf)
   | (go_at_call 25;refine (HTo.o fb _ H4.o.2).mono ?_;rintro e w5 ⟨rfl,hg5⟩;have H5:=hid (H4.o.1.trans hg5);clear hg5))
  go_ret
  exact ⟨rfl,H5.o.trans (G.alloc _ _)⟩
theorem pr (c:Array Value) (hs:c.size=41) (w:World) (ver tv most:Int) (A1 A2 B1 B2 B3:List Nat) (V:Vd) (M:Md) (F0:F) (h1:ver≤tv) (h3:tv≤3)
  (CK:Hid (∀ W,G w W→Calls Tryz.prog 22 #[] W fun e w'=>e=.returned (.bool true)∧G W w'))
  (CM:Hid (∀ W,G w W→Calls Tryz.prog 23 #[.agg c,.int .i64 ver,.int .i64 most] W fun e w'=>∃ u,e=.returned u∧Sl w' u A1∧G W w'))
  (CG:Hid (∀ u W,G w W→Sl W u A1→Calls Tryz.prog 24 #[u,.int .i64 tv,.int .i64 most] W fun e w'=>∃ x,e=.returned (.tuple #[x,.nilIface])∧Sl w' x A2∧G W w'))
  (CD1:Hid (∀ u W,G w W→Sl W u A1→Calls Tryz.prog 13 #[u,.int .i64 most] W fun e w'=>∃ p,e=.returned (.tuple #[.pointer (some ⟨p,0,none⟩),.int .i64 ver,.nilIface])∧AtTF w' p V M F0∧G W w'))
  (CD2:Hid (∀ u W,G w W→Sl W u A2→Calls Tryz.prog 13 #[u,.int .i64 most] W fun e w'=>∃ p,e=.returned (.tuple #[.pointer (some ⟨p,0,none⟩),.int .i64 tv,.nilIface])∧AtTF w' p V M F0∧G W w'))
  (CN:Hid (∀ p W,G w W→AtTF W p V M F0→Calls Tryz.prog 15 #[.pointer (some ⟨p,0,none⟩)] W fun e w'=>∃ c',e=.returned (.agg c')∧HasN w' c' ⟨#[]⟩ V M F0∧G W w'))
  (CS:Hid (∀ c d W,HasN W c ⟨#[]⟩ V M F0→HasN W d ⟨#[]⟩ V M F0→Calls Tryz.prog 26 #[.agg c,.agg d] W fun e w'=>e=.returned (.bool true)∧G W w'))
  (CE:tv=ver→Hid (∀ u x W,Sl W u A2→Sl W x A1→Calls Tryz.prog 27 #[u,x] W fun e w'=>e=.returned (.bool true)∧G W w'))
  (CO:Hid (∀ W,G w W→Calls Tryz.prog 23 #[.agg c,.int .i64 1,.int .i64 most] W fun e w'=>∃ u,e=.returned u∧Sl w' u B1∧G W w'))
  (CP:Hid (∀ u W,G w W→Sl W u B1→Calls Tryz.prog 24 #[u,.int .i64 2,.int .i64 most] W fun e w'=>∃ x,e=.returned (.tuple #[x,.nilIface])∧Sl w' x B2∧G W w'))
  (CQ:Hid (∀ u W,G w W→Sl W u B2→Calls Tryz.prog 24 #[u,.int .i64 3,.int .i64 most] W fun e w'=>∃ x,e=.returned (.tuple #[x,.nilIface])∧Sl w' x B3∧G W w'))
  (CR:Hid (∀ u W,G w W→Sl W u B1→Calls Tryz.prog 24 #[u,.int .i64 3,.int .i64 most] W fun e w'=>∃ x,e=.returned (.tuple #[x,.nilIface])∧Sl w' x B3∧G W w'))
  (CT:Hid (∀ u x W,Sl W u B3→Sl W x B3→Calls Tryz.prog 27 #[u,x] W fun e w'=>e=.returned (.bool true)∧G W w')):
  Calls Tryz.prog 7 #[.agg c,.int .i64 ver,.int .i64 tv,.int .i64 most] w fun e w'=>e=.returned (.bool true)∧G w w':=by
 have HV:=hid (⟨Var.new w c,G.alloc w (.cells c 30)⟩:Var (w.alloc (.cells c 30)) w.heap.size c∧G w (w.alloc (.cells c 30)))
 have i1:¬ tv<ver:=by omega
 have i3:¬ (3:Int)<tv:=by omega
 go_enter Tryz.func7,Tryz.ntmps7
 go_upto_region 1 with fail
 generalize w.alloc (.cells c 30)=w1 at *
 generalize w.heap.size=B at *
 go_upto_region 10 with (first
  | (go_at_call 22;refine (CK.o _ HV.o.2).mono ?_;rintro e w2 ⟨rfl,hg2⟩;have H2:=hid (⟨HV.o.1.grow hg2,HV.o.2.trans hg2⟩:Var w2 B c∧G w w2);clear hg2)
  | ((with_reducible refine jA (.agg c) ?_ ?_ ?_);exact jH _ rfl B 0 rfl c hs H2.o.1.lies;kernel_rfl)
  | (go_at_call 23;refine (CM.o _ H2.o.2).mono ?_;rintro e w3 ⟨u,rfl,⟨a1,l1,c1,rfl,hh⟩,hg3⟩;have H3:=hid (⟨H2.o.2.trans hg3,⟨a1,l1,c1,rfl,hh⟩,H2.o.1.grow hg3⟩:G w w3∧Sl w3 (.slice (some a1) l1 c1) A1∧Var w3 B c);clear hg3 hh)
  | ((with_reducible refine jA (.bool false) ?_ ?_ ?_);exact ek _ rfl _ _ _ rfl _;kernel_rfl)
  | (go_at_call 24;refine (CG.o _ _ H3.o.1 H3.o.2.1).mono ?_;rintro e w4 ⟨x,rfl,⟨a2,l2,c2,rfl,hh⟩,hg4⟩;have H4:=hid (⟨H3.o.1.trans hg4,H3.o.2.1.below hg4,⟨a2,l2,c2,rfl,hh⟩,H3.o.2.2.grow hg4⟩:G w w4∧Sl w4 (.slice (some a1) l1 c1) A1∧Sl w4 (.slice (some a2) l2 c2) A2∧Var w4 B c);clear hg4 hh))
 go_upto_region 11 with (first
  | (go_at_call 13;refine (CD1.o _ w4 H4.o.1 H4.o.2.1).mono ?_;rintro e w5 ⟨p1,rfl,hh,hg5⟩;have H5:=hid (⟨H4.o.1.trans hg5,H4.o.2.1.below hg5,H4.o.2.2.1.below hg5,H4.o.2.2.2.grow hg5,hh⟩:G w w5∧Sl w5 (.slice (some a1) l1 c1) A1∧Sl w5 (.slice (some a2) l2 c2) A2∧Var w5 B c∧AtTF w5 p1 V M F0);clear hg5 hh))
 go_upto_region 12 with (first
  | (go_at_call 13;refine (CD2.o _ w5 H5.o.1 H5.o.2.2.1).mono ?_;rintro e w6 ⟨p2,rfl,hh,hg6⟩;have H6:=hid (⟨H5.o.1.trans hg6,H5.o.2.1.below hg6,H5.o.2.2.1.below hg6,H5.o.2.2.2.1.grow hg6,H5.o.2.2.2.2.grow hg6,hh⟩:G w w6∧Sl w6 (.slice (some a1) l1 c1) A1∧Sl w6 (.slice (some a2) l2 c2) A2∧Var w6 B c∧AtTF w6 p1 V M F0∧AtTF w6 p2 V M F0);clear hg6 hh))
 clear H2 H3 H4 H5 HV CK CM CG CD1 CD2
 have hc1:tv≠ver→(tv==ver)=false:=fun q=>by simpa using q
 by_cases he:tv=ver
 ·have CX:=CE he
  clear CE
  subst he
  go_upto_region 14 with (first
   | (go_at_call_of 15 (Value.pointer (some (⟨p1,0,none⟩:Addr)));refine (CN.o p1 w6 H6.o.1 H6.o.2.2.2.2.1).mono ?_;rintro e w7 ⟨n1,rfl,hn,hg7⟩;have H7:=hid (⟨H6.o.1.trans hg7,hg7,hn⟩:G w w7∧G w6 w7∧HasN w7 n1 ⟨#[]⟩ V M F0);clear hn hg7)
   | (go_at_call 15;refine (CN.o p2 w7 H7.o.1 (H6.o.2.2.2.2.2.grow H7.o.2.1)).mono ?_;rintro e w8 ⟨n2,rfl,hn,hg8⟩;have H8:=hid (⟨H7.o.1.trans hg8,H7.o.2.1.trans hg8,H7.o.2.2.below hg8,hn⟩:G w w8∧G w6 w8∧HasN w8 n1 ⟨#[]⟩ V M F0∧HasN w8 n2 ⟨#[]⟩ V M F0);clear hn hg8)
   | (go_at_call 26;refine (CS.o n1 n2 w8 H8.o.2.2.1 H8.o.2.2.2).mono ?_;rintro e w9 ⟨rfl,hg9⟩;have H9:=hid (⟨H8.o.1.trans hg9,H8.o.2.1.trans hg9⟩:G w w9∧G w6 w9);clear hg9)
   | (go_at_call 27;refine (CX.o _ _ w9 (H6.o.2.2.1.below H9.o.2) (H6.o.2.1.below H9.o.2)).mono ?_;rintro e wa ⟨rfl,hga⟩;have Ha:=hid (⟨H9.o.1.trans hga,H6.o.2.2.2.1.grow (H9.o.2.trans hga)⟩:G w wa∧Var wa B c);clear hga))
  go_upto_region 18 with (first
   | ((with_reducible refine jA (.agg c) ?_ ?_ ?_);exact jH _ rfl B 0 rfl c hs Ha.o.2.lies;kernel_rfl)
   | (go_at_call 23;refine (CO.o _ Ha.o.1).mono ?_;rintro e wb ⟨u,rfl,⟨b1,m1,d1,rfl,hh⟩,hgb⟩;have Hb:=hid (⟨Ha.o.1.trans hgb,⟨b1,m1,d1,rfl,hh⟩⟩:G w wb∧Sl wb (.slice (some b1) m1 d1) B1);clear hgb hh)
   | (go_at_call_of 24 (Value.int .i64 2);refine (CP.o _ wb Hb.o.1 Hb.o.2).mono ?_;rintro e wc ⟨u,rfl,⟨b2,m2,d2,rfl,hh⟩,hgc⟩;have Hc:=hid (⟨Hb.o.1.trans hgc,Hb.o.2.below hgc,⟨b2,m2,d2,rfl,hh⟩⟩:G w wc∧Sl wc (.slice (some b1) m1 d1) B1∧Sl wc (.slice (some b2) m2 d2) B2);clear hgc hh)
   | (go_at_call_of 24 (Value.slice (some b2) m2 d2);refine (CQ.o _ wc Hc.o.1 Hc.o.2.2).mono ?_;rintro e wd ⟨u,rfl,⟨b3,m3,d3,rfl,hh⟩,hgd⟩;have Hd:=hid (⟨Hc.o.1.trans hgd,Hc.o.2.1.below hgd,⟨b3,m3,d3,rfl,hh⟩⟩:G w wd∧Sl wd (.slice (some b1) m1 d1) B1∧Sl wd (.slice (some b3) m3 d3) B3);clear hgd hh)
   | (go_at_call_of 24 (Value.slice (some b1) m1 d1);refine (CR.o _ wd Hd.o.1 Hd.o.2.1).mono ?_;rintro e we ⟨u,rfl,⟨b4,m4,d4,rfl,hh⟩,hge⟩;have He:=hid (⟨Hd.o.1.trans hge,Hd.o.2.2.below hge,⟨b4,m4,d4,rfl,hh⟩⟩:G w we∧Sl we (.slice (some b3) m3 d3) B3∧Sl we (.slice (some b4) m4 d4) B3);clear hge hh))
  go_wp2_with (go_at_call 27;refine (CT.o _ _ we He.o.2.1 He.o.2.2).mono ?_;rintro e wf ⟨rfl,hgf⟩;have Hf:=hid (He.o.1.trans hgf);clear hgf)
  go_ret
  exact ⟨rfl,Hf.o⟩
 ·clear CE
  have hcf:(tv==ver)=false:=by simpa using he
  go_upto_region 14 with (first
   | (go_at_call_of 15 (Value.pointer (some (⟨p1,0,none⟩:Addr)));refine (CN.o p1 w6 H6.o.1 H6.o.2.2.2.2.1).mono ?_;rintro e w7 ⟨n1,rfl,hn,hg7⟩;have H7:=hid (⟨H6.o.1.trans hg7,hg7,hn⟩:G w w7∧G w6 w7∧HasN w7 n1 ⟨#[]⟩ V M F0);clear hn hg7)
   | (go_at_call 15;refine (CN.o p2 w7 H7.o.1 (H6.o.2.2.2.2.2.grow H7.o.2.1)).mono ?_;rintro e w8 ⟨n2,rfl,hn,hg8⟩;have H8:=hid (⟨H7.o.1.trans hg8,H7.o.2.1.trans hg8,H7.o.2.2.below hg8,hn⟩:G w w8∧G w6 w8∧HasN w8 n1 ⟨#[]⟩ V M F0∧HasN w8 n2 ⟨#[]⟩ V M F0);clear hn hg8)
   | (go_at_call 26;refine (CS.o n1 n2 w8 H8.o.2.2.1 H8.o.2.2.2).mono ?_;rintro e w9 ⟨rfl,hg9⟩;have Ha:=hid (⟨H8.o.1.trans hg9,H6.o.2.2.2.1.grow (H8.o.2.1.trans hg9)⟩:G w w9∧Var w9 B c);clear hg9))
  go_upto_region 18 with (first
   | ((with_reducible refine jA (.agg c) ?_ ?_ ?_);exact jH _ rfl B 0 rfl c hs Ha.o.2.lies;kernel_rfl)
   | (go_at_call 23;refine (CO.o _ Ha.o.1).mono ?_;rintro e wb ⟨u,rfl,⟨b1,m1,d1,rfl,hh⟩,hgb⟩;have Hb:=hid (⟨Ha.o.1.trans hgb,⟨b1,m1,d1,rfl,hh⟩⟩:G w wb∧Sl wb (.slice (some b1) m1 d1) B1);clear hgb hh)
   | (go_at_call_of 24 (Value.int .i64 2);refine (CP.o _ wb Hb.o.1 Hb.o.2).mono ?_;rintro e wc ⟨u,rfl,⟨b2,m2,d2,rfl,hh⟩,hgc⟩;have Hc:=hid (⟨Hb.o.1.trans hgc,Hb.o.2.below hgc,⟨b2,m2,d2,rfl,hh⟩⟩:G w wc∧Sl wc (.slice (some b1) m1 d1) B1∧Sl wc (.slice (some b2) m2 d2) B2);clear hgc hh)
   | (go_at_call_of 24 (Value.slice (some b2) m2 d2);refine (CQ.o _ wc Hc.o.1 Hc.o.2.2).mono ?_;rintro e wd ⟨u,rfl,⟨b3,m3,d3,rfl,hh⟩,hgd⟩;have Hd:=hid (⟨Hc.o.1.trans hgd,Hc.o.2.1.below hgd,⟨b3,m3,d3,rfl,hh⟩⟩:G w wd∧Sl wd (.slice (some b1) m1 d1) B1∧Sl wd (.slice (some b3) m3 d3) B3);clear hgd hh)
   | (go_at_call_of 24 (Value.slice (some b1) m1 d1);refine (CR.o _ wd Hd.o.1 Hd.o.2.1).mono ?_;rintro e we ⟨u,rfl,⟨b4,m4,d4,rfl,hh⟩,hge⟩;have He:=hid (⟨Hd.o.1.trans hge,Hd.o.2.2.below hge,⟨b4,m4,d4,rfl,hh⟩⟩:G w we∧Sl we (.slice (some b3) m3 d3) B3∧Sl we (.slice (some b4) m4 d4) B3);clear hge hh))
  go_wp2_with (go_at_call 27;refine (CT.o _ _ we He.o.2.1 He.o.2.2).mono ?_;rintro e wf ⟨rfl,hgf⟩;have Hf:=hid (He.o.1.trans hgf);clear hgf)
  go_ret
  exact ⟨rfl,Hf.o⟩
end Go.Proofs.YtjikkhbcbfpocaaGreatDoor
namespace Go.Proofs.YtjikkhbcbfpocaaGreatDoor
open Go.RowKit Go.Shelf
theorem wrAr {n:Nat} (h1:1≤n) (h3:n≤3) {v:Vd} {m:Md} {ks:F} (hk:v.kind=1) (hc:qT v m ks=0) (hB:Su.Bytes v.sum) (hb:bytF ks) (hw:ks.weight≤20000):Ar n (wrV n v) m (wrF n ks):=by
 refine ⟨h1,h3,?_,?_,⟨fun q=>?_,vM _ _⟩,?_,?_,?_⟩
 ·unfold wrV;split
  ·rw [rI];exact hk
  ·exact hk
 ·unfold wrV wrF;split
  ·exact xM hc
  ·exact hc
 ·unfold wrV unkV
  rw [if_pos q,if_neg (by rw [hk];decide)]
 ·unfold wrV;split
  ·rw [nl];exact hB
  ·exact hB
 ·unfold wrF;split
  ·exact fI nl hb
  ·exact hb
 ·unfold wrF;split
  ·rw [F.mp_weight];exact hw
  ·exact hw
theorem wrFz (ver:Int) (f:F):(wrF ver f).size=f.size:=by
 unfold wrF;split
 ·exact F.mp_size ..
 ·rfl
theorem vB (n:Nat) (v:Vd) (m:Md) (ks:F):arcW n v m ks≠[]:=fun q=>by
 unfold arcW at q
 rw [List.append_eq_nil_iff] at q
 have h4:=congrArg List.length q.2
 rw [show (le4 (Su.Crc.crc (arcB n v m ks))).length=4 from rfl] at h4
 cases h4
theorem Sl.of {w:World} {u:Value} {l:List Nat} (h:Su.Has w u l) (hl:l≠[]):Sl w u l:=by
 have h0:=h
 rcases h with ⟨_,q⟩ | ⟨a,cap,q,_,_⟩
 ·exact absurd q hl
 ·exact ⟨a,_,cap,q,h0⟩
theorem Sl.has {w:World} {u:Value} {l:List Nat} (h:Sl w u l):Su.Has w u l:=by obtain ⟨_,_,_,_,h⟩:=h;exact h
theorem tD {ver most:Int} {cn:Nat} (h:encE ver 1 (cn:Nat) most=0):1≤ver∧ver≤3∧cn≤bnd most:=by
 have hb:=dr most
 unfold encE at h
 split at h
 ·cases h
 split at h
 ·cases h
 split at h
 ·cases h
 ·refine ⟨by omega,by omega,by omega⟩
theorem tE {most:Int} {cn:Nat} (h:cn≤bnd most):encE 1 1 (cn:Nat) most=0:=by
 have hb:=dr most
 unfold encE
 rw [if_neg (by decide),if_neg (by decide),if_neg (by omega)]
structure Wd (w:World):Prop where
 t:Su.Tabs w
 h:Su.Half w
 e:ErrT w
 z:1<w.heap.size
theorem Wd.up {w w':World} (h:Wd w) (hg:G w w'):Wd w':=⟨h.t.up hg,h.h.below hg (by have:=h.z;omega),h.e.up hg,by have:=hg.size;have:=h.z;omega⟩
theorem lq {u:Value} {ver tv:Nat} {v:Vd} {m:Md} {ks:F} {most:Int} {W:World} (hW:Wd W) (h:Ar ver v m ks) (hb:1+ks.size≤bnd most) (h1:ver≤tv) (h3:tv≤3) (hu:Sl W u (arcW ver v m ks)):
  Calls Tryz.prog 24 #[u,.int .i64 tv,.int .i64 most] W fun e w'=>∃ x,e=.returned (.tuple #[x,.nilIface])∧Sl w' x (arcW tv v (mz ver m) (ks.mp id (mz ver)))∧G W w':=
 (yy u tv most W h hb hu.has hW.t hW.h hW.e hW.z).mono fun e w' ⟨q0,q⟩=>by
  rcases q with ⟨q,_⟩ | ⟨_,x,q1,q2⟩
  ·omega
  ·exact ⟨x,q1,Sl.of q2 (vB _ _ _ _),q0⟩
theorem Ar.few {ver:Nat} {v:Vd} {m:Md} {ks:F} (h:Ar ver v m ks):(arcW ver v m ks).length≤16777216:=by
 have:=h.len
 have:=h.sz
 omega
theorem Ar.arc {ver:Nat} {v:Vd} {m:Md} {ks:F} (h:Ar ver v m ks) {most:Int} {u:Value} {W:World} (hW:Wd W) (hb:1+ks.size≤bnd most) (hu:Sl W u (arcW ver v m ks)):
  Calls Tryz.prog 13 #[u,.int .i64 most] W fun e w'=>∃ p,e=.returned (.tuple #[.pointer (some ⟨p,0,none⟩),.int .i64 ver,.nilIface])∧AtTF w' p v (mz ver m) (ks.mp id (mz ver))∧G W w':=
 (dw u W h hb hu.has hW.t hW.h hW.e hW.z).mono fun _ _ ⟨p,k,q1,q2,q3,q4⟩=>⟨p,q1,⟨k,q3,q4⟩,q2⟩
theorem pv {u x:Value} {l:List Nat} {W:World} (hu:Sl W u l) (hx:Sl W x l) (hl:l.length≤16777216):Calls Tryz.prog 27 #[u,x] W fun e w'=>e=.returned (.bool true)∧G W w':=
 (ia u x l l W hu.has hx.has hl hl).mono fun e w' ⟨q1,n,q2⟩=>by
  rw [decide_eq_true rfl] at q1
  subst q2
  exact ⟨q1,below_drewN (G.refl _) n⟩
theorem gQ (c:Array Value) (nm:ByteArray) (v:Vd) (m:Md) (ks:F) (w:World) (ver to' most:Int) (hN:HasN w c nm v m ks) (hnm:nm.size≤9223372036854775807) (hok:ks.ok) (hlen:ks.len≤9223372036854775807) (hB:Su.Bytes v.sum) (hb:bytF ks) (hW:Wd w):
  Calls Tryz.prog 7 #[.agg c,.int .i64 ver,.int .i64 to',.int .i64 most] w fun e w'=>e=.returned (.bool true)∧G w w':=by
 have hs:c.size=41:=by obtain ⟨_,rfl,_⟩:=hN;exact jO ..
 have CK:Hid (∀ W,G w W→Calls Tryz.prog 22 #[] W fun e w'=>e=.returned (.bool true)∧G W w'):=fun W hg=>by
  have:=hW.up hg
  exact nH W this.t this.h this.e this.z
 have CM:∀ (x:Int) W,G w W→Calls Tryz.prog 23 #[.agg c,.int .i64 x,.int .i64 most] W (wK nm v m ks x most W):=fun x W hg=>by
  have:=hW.up hg
  exact pq c nm v m ks W x most (hN.below hg) hnm hok hlen hB hb this.t this.h
 by_cases hm:mdOk nm v m ks ver most
 case neg=>
  exact tB c hs w ver to' most CK fun W hg=>(CM ver W hg).mono fun e w' ⟨q0,q⟩=>by
   rcases q with ⟨_,q⟩ | ⟨q,_⟩
   ·exact ⟨q,q0⟩
   ·exact absurd q hm
 obtain ⟨hw0,hk,hc0,he0⟩:=hm
 have hm:mdOk nm v m ks ver most:=⟨hw0,hk,hc0,he0⟩
 obtain ⟨z1,z3,hbd0⟩:=tD he0
 have hw:ks.weight≤20000:=by omega
 obtain ⟨n,rfl⟩:∃ n:Nat,ver=n:=⟨ver.toNat,by omega⟩
 have hA:Ar n (wrV n v) m (wrF n ks):=wrAr (by omega) (by omega) hk hc0 hB hb hw
 have hbd:1+(wrF n ks).size≤bnd most:=by rw [wrFz];exact hbd0
 have CM1:Hid (∀ W,G w W→Calls Tryz.prog 23 #[.agg c,.int .i64 n,.int .i64 most] W fun e w'=>∃ u,e=.returned u∧Sl w' u (arcW n (wrV n v) m (wrF n ks))∧G W w'):=fun W hg=>(CM n W hg).mono fun e w' ⟨q0,q⟩=>by
  rcases q with ⟨q,_⟩ | ⟨_,a,len,cap,q1,q2⟩
  ·exact absurd hm q
  ·exact ⟨_,q1,⟨a,len,cap,rfl,q2⟩,q0⟩
 by_cases hbad:to'<n∨3<to'
 ·exact tC c hs w n to' most _ hbad CK CM1 fun u W hg hu=>(yy u to' most W hA hbd hu.has (hW.up hg).t (hW.up hg).h (hW.up hg).e (hW.up hg).z).mono fun e w' ⟨q0,q⟩=>by
   rcases q with ⟨_,fb,q1,q2⟩ | ⟨q,_⟩
   ·exact ⟨fb,q1,q2,q0⟩
   ·exact absurd hbad q
 obtain ⟨t,rfl⟩:∃ t:Nat,to'=t:=⟨to'.toNat,by omega⟩
 have ht:n≤t:=by omega
 have ht3:t≤3:=by omega
 have hA2:=hA.later ht ht3
 have hbd2:1+((wrF n ks).mp id (mz n)).size≤bnd most:=by rw [F.mp_size];exact hbd
 have hm1:mdOk nm v m ks 1 most:=⟨hw0,hk,hc0,tE hbd0⟩
 have hO:Ar 1 (wrV (1:Nat) v) m (wrF (1:Nat) ks):=wrAr (by decide) (by decide) hk hc0 hB hb hw
 have hbo:1+(wrF (1:Nat) ks).size≤bnd most:=by rw [wrFz];exact hbd0
 have hO2:=hO.later (tv:=2) (by decide) (by decide)
 have hbo2:1+((wrF (1:Nat) ks).mp id (mz (1:Nat))).size≤bnd most:=by rw [F.mp_size];exact hbo
 have hO3:=hO.later (tv:=3) (by decide) (by decide)
 have hbk:=hO.back (tv:=2) (by decide)
 have hbk2:=hA.back ht
 refine pr c hs w n t most (arcW n (wrV n v) m (wrF n ks)) (arcW t (wrV n v) (mz n m) ((wrF n ks).mp id (mz n))) (arcW 1 (wrV (1:Nat) v) m (wrF (1:Nat) ks)) (arcW 2 (wrV (1:Nat) v) (mz (1:Nat) m) ((wrF (1:Nat) ks).mp id (mz (1:Nat)))) (arcW 3 (wrV (1:Nat) v) (mz (1:Nat) m) ((wrF (1:Nat) ks).mp id (mz (1:Nat)))) (wrV n v) (mz n m) ((wrF n ks).mp id (mz n)) (by omega) (by omega) CK CM1 ?_ ?_ ?_ ?_ ?_ ?_ ?_ ?_ ?_ ?_ ?_
 ·exact fun u W hg hu=>lq (hW.up hg) hA hbd ht ht3 hu
 ·exact fun u W hg hu=>hA.arc (hW.up hg) hbd hu
 ·intro u W hg hu
  have h:=hA2.arc (hW.up hg) hbd2 hu
  rw [hbk2.1,hbk2.2] at h
  exact h
 ·intro p W hg ⟨k,h1,h2⟩
  have hz:=hA2.sz
  have h5:=zO _ k (Nat.lt_succ_self _) p _ _ W h1 (by rw [h2];omega)
  rw [h2] at h5
  exact h5.mono fun e w' ⟨c',h6,h7,h8⟩=>⟨c',h6,h7.has,h8⟩
 ·exact fun c1 c2 W h1 h2=>ei c1 c2 _ _ _ _ W h1 h2 (F.okL_of_weight _ (by have:=hA2.hw;omega))
 ·intro hq u x W hu hx
  obtain rfl:t=n:=by omega
  rw [vA] at hu
  exact pv hu hx hA.few
 ·exact fun W hg=>(CM 1 W hg).mono fun e w' ⟨q0,q⟩=>by
   rcases q with ⟨q,_⟩ | ⟨_,a,len,cap,q1,q2⟩
   ·exact absurd hm1 q
   ·exact ⟨_,q1,⟨a,len,cap,rfl,q2⟩,q0⟩
 ·exact fun u W hg hu=>lq (tv:=2) (hW.up hg) hO hbo (by decide) (by decide) hu
 ·intro u W hg hu
  have h:=lq (tv:=3) (hW.up hg) hO2 hbo2 (by decide) (by decide) hu
  rw [hbk.1,hbk.2] at h
  exact h
 ·exact fun u W hg hu=>lq (tv:=3) (hW.up hg) hO hbo (by decide) (by decide) hu
 ·exact fun u x W hu hx=>pv hu hx hO3.few
end Go.Proofs.YtjikkhbcbfpocaaGreatDoor
namespace Go.Proofs.YtjikkhbcbfpocaaGreatDoor.SameR
open Go.ChangeShapes Go.WideShapes Go.ChangeAt Go.RowKit Fr6
theorem contract (H:Type) (enc:TypeId × Value→H) (W:World) (base:Nat) (args:Array Value) (ds gs:List (DataW H)) (before:List MemPlace)
  (hval:∀ (j:Nat) t v,Tryz.f7.params[j]?=some t→args[j]?=some v→Value.okWide Tryz.prog W .any base t v)
  (hW:DataW.Whole enc Tryz.prog Tryz.f7.params.toList Rows.liftSameSpec.vars false W args.toList ds gs before) (hL:laidMetH Tryz.prog Rows.liftSameRow.laid W):
  Calls Tryz.prog 7 args W fun e W'=>∃ v,e=.returned v∧Rows.liftSameSpec.post enc Tryz.prog Tryz.f7 false true false false W args v W':=by
 have hW':=hW
 obtain ⟨p,q,hA0,hV,rfl,hfz,hnd⟩:=hW
 have hA:DataW.TrodAll enc Tryz.prog W 0 (fun _=>true) true Tryz.f7.params.toList args.toList ds p:=hA0
 rw [Tryz.params7] at hA hval
 obtain ⟨v0,vs0,d0,ds0,p0,q0,hargs,rfl,rfl,h0,r0⟩:=trodAll_cons hA
 obtain ⟨v1,vs1,d1,ds1,p1,q1,rfl,rfl,rfl,h1,r1⟩:=trodAll_cons r0
 obtain ⟨v2,vs2,d2,ds2,p2,q2,rfl,rfl,rfl,h2,r2⟩:=trodAll_cons r1
 obtain ⟨v3,vs3,d3,ds3,p3,q3,rfl,rfl,rfl,h3,r3⟩:=trodAll_cons r2
 obtain ⟨rfl,rfl,rfl⟩:=trodAll_nil r3
 obtain rfl:args=#[v0,v1,v2,v3]:=by cases args;simp_all
 obtain ⟨rfl,rfl⟩:=trodVars_none hV
 obtain ⟨c0,rfl,hc0⟩:=okWide_struct kQ (hval 0 30 v0 rfl rfl)
 obtain ⟨a1,rfl,rfl,rfl,w1⟩:=open_int Tryz.underlying3 (hval 1 3 v1 rfl rfl) h1
 obtain ⟨a2,rfl,rfl,rfl,w2⟩:=open_int Tryz.underlying3 (hval 2 3 v2 rfl rfl) h2
 obtain ⟨a3,rfl,rfl,rfl,w3⟩:=open_int Tryz.underlying3 (hval 3 3 v3 rfl rfl) h3
 have k0:=h0
 have lt0:∀ x∈p0,x.block<W.heap.size:=by obtain ⟨m,hm⟩:=k0;exact DataW.trod_lt m _ _ _ hm
 obtain ⟨fuel,hf⟩:=h0
 obtain ⟨⟨nm,v,m,ks⟩,kv,hcs,hS,hnm,hok,hlen,hb1,hb2⟩:=uU fuel _ _ hf
 have hcc:c0=nc nm v m kv:=by
  have h1:c0.toList=(nc nm v m kv).toList:=hcs
  exact Array.toList_inj.1 h1
 clear hA0
 obtain ⟨hTb,hTh,hE⟩:=uM hL
 refine (gQ c0 nm v m ks W a1 a2 a3 ⟨kv,hcc,hS⟩ hnm hok hlen hb1 hb2 ⟨hTb,hTh,hE,by have:=hTb.size;omega⟩).mono fun e W' ⟨he,bel⟩=>?_
 subst he
 exact ⟨_,rfl,_,_,_,[],_,[],hW',trodAll_mk1 (shut_bool Tryz.underlying4 _),(trodAll_cons_mk (Below.trod laidOut (by kernel_rfl) (of_decide_eq_true (by kernel_rfl)) k0 bel lt0) (trodAll_cons_mk (shut_int Tryz.underlying3 w1) (trodAll_cons_mk (shut_int Tryz.underlying3 w2) (trodAll_cons_mk (shut_int Tryz.underlying3 w3) trodAll_mk0)))),rfl,bel.frame _,fun h=>by cases h⟩
theorem sj (os:Os):laidMetH Tryz.prog Rows.liftSameRow.laid ((xe os).forCall (fun _ _=>0) ⟨#[],#[.agg z30,.int .i64 0,.int .i64 0,.int .i64 0],[]⟩).memory:=laid4 os _
theorem reads (os:Os) {H:Type} (enc:TypeId × Value→H):∃ x,DataW.whole enc Tryz.prog ((xe os).forCall (fun _ _=>0) ⟨#[],#[.agg z30,.int .i64 0,.int .i64 0,.int .i64 0],[]⟩).memory Tryz.f7.params.toList Rows.liftSameSpec.vars false #[Value.agg z30,.int .i64 0,.int .i64 0,.int .i64 0].toList 8=some x:=
 Option.isSome_iff_exists.1 (by kernel_rfl)
theorem lifted (os:Os) (started:os.Started) (H:Type) (enc:TypeId × Value→H) (F:Stop.Interp):
  ReturnsInHanded {} Tryz.checked os 7 .any ((OpenSpec.ofChange Rows.liftSameSpec).preRow enc Tryz.prog Tryz.f7 Rows.liftSameRow.domain false Rows.liftSameRow.laid) (((OpenSpec.ofChange Rows.liftSameSpec).at F).post enc Tryz.prog Tryz.f7 false true false false):=by
 obtain ⟨x,hx⟩:=reads os enc
 refine returnsInHanded_of_row (C:=Tryz.checked) (s:=OpenSpec.ofChange Rows.liftSameSpec) own started (by kernel_rfl) Tryz.func7
  (witness_row_at (enc:=enc) (C:=Tryz.checked) false (xe os) #[.agg z30,.int .i64 0,.int .i64 0,.int .i64 0] rfl (by kernel_rfl) (by kernel_rfl) (by kernel_rfl)
   (OpenSpec.preRow_of_cond 8 hx (by kernel_rfl) (fun k hk=>by cases hk) (by kernel_rfl) (sj os))) ?_
 intro W base args ds gs before hval hW _ _ _ hL _ _
 exact contract H enc W base args ds gs before hval hW hL
theorem said:Rows.LiftSameSaid:=
 OpenClaim.holds_of_cond 7 Tryz.f7 rfl rfl rfl rfl rfl rfl rfl ⟨rfl,rfl,rfl,rfl,rfl⟩ rfl rfl rfl rfl rfl (by kernel_rfl) Tryz.func7 (by kernel_rfl)
  (of_decide_eq_true (by kernel_rfl)) (by unfold Func.isWrapper;first | (rw [if_pos (by decide +kernel)];kernel_rfl) | (rw [if_neg (by decide +kernel)];exact ⟨rfl,rfl⟩))
  (fun os started H enc _ F=>by rw [OpenClaim.pre_eq_preRow];exact lifted os started H enc F)
theorem plain (f : FuncId) (fn : Func) (hf : Tryz.pinned.checked.prog.funcNamed "twine/twinelaw7.LiftSame" = some f) (hfn : Tryz.pinned.checked.prog.funcs[f]? = some fn) :
  true=Tryz.pinned.checked.prog.looks []∧∀ (j:Nat) t,fn.params[j]?=some t→Tryz.pinned.checked.prog.wantsStandIn t=false:=by
 obtain rfl : f = 7 := Option.some.inj ((show Tryz.prog.funcNamed "twine/twinelaw7.LiftSame" = some 7 by kernel_rfl).symm.trans hf) |>.symm
 obtain rfl:fn=Tryz.f7:=(Option.some.inj (Tryz.func7.symm.trans hfn)).symm
 refine ⟨by kernel_rfl,fun j t ht=>?_⟩
 rw [Tryz.params7] at ht
 have h:t=30∨t=3∨t=3∨t=3:=by simpa using Array.mem_of_getElem? ht
 rcases h with rfl | rfl | rfl | rfl
 ·exact (show Tryz.prog.wantsStandIn 30=false by kernel_rfl)
 ·exact (show Tryz.prog.wantsStandIn 3=false by kernel_rfl)
 ·exact (show Tryz.prog.wantsStandIn 3=false by kernel_rfl)
 ·exact (show Tryz.prog.wantsStandIn 3=false by kernel_rfl)
end Go.Proofs.YtjikkhbcbfpocaaGreatDoor.SameR
namespace Go.Proofs.YtjikkhbcbfpocaaGreatDoor
theorem liftSame_card:Rows.LiftSameCardSaid:=
 Claim7.holds_tied_plain_at .later [] _ _ _ _ SameR.said (fun _ h=>by cases h) (by kernel_rfl) (fun _ h=>by cases h) liftSame_row_tie rfl ⟨rfl,rfl⟩ (by kernel_rfl) rfl SameR.plain (by kernel_rfl)
#print axioms liftSame_card
end Go.Proofs.YtjikkhbcbfpocaaGreatDoor
