import Derived.Test.YtjikkhbcbfpocaaGreatDoorYV
set_option maxRecDepth 100000
set_option maxHeartbeats 800000
namespace Go.Proofs.YtjikkhbcbfpocaaGreatDoor
open Go.RowKit Go.Shelf
attribute [local go_sem] Oper.semAt_some
def more (n:Int) (k:Nat) (n':Int):Prop:=(0≤n'→n'=n-(k:Int)∧0≤n)∧((k:Int)≤n→n'=n-(k:Int))
theorem more.trans {a b c:Int} {k l:Nat} (h:more a k b) (h':more b l c):more a (k+l) c:=⟨fun h0=>by
 have h1:=h'.1 h0
 have h2:=h.1 h1.2
 omega,fun h0=>by
 have h1:=h.2 (by omega)
 have h2:=h'.2 (by omega)
 omega⟩
theorem addx (C:Nat) (n:Int) (k:Nat) (w:World) (hC:qA w C n) (hk:(k:Int)≤9223372036854775807):
  Calls Tryz.prog 111 #[.pointer (some ⟨C,0,none⟩),.int .i64 k] w fun e w'=>(∃ v,e=.returned v)∧∃ n',qA w' C n'∧more n k n'∧But C w w':=by
 obtain ⟨hc,hf,hn,hn'⟩:=hC
 by_cases h0:0≤n
 ·have HN:∀ r:Int,w.cell? ⟨C,0,none⟩=some (.int .i64 n)→Hid ((w.setCell ⟨C,0,none⟩ (.int .i64 r)).cell? ⟨C,0,none⟩=some (.int .i64 r)):=fun r h=>World.cell?_setCell_same _ _ _ h
  have HF:∀ r:Int,Hid ((w.setCell ⟨C,0,none⟩ (.int .i64 r)).frozen? ⟨C,0,none⟩=false):=fun r=>by show _=_;rw [World.frozen?_setCell];exact hf
  obtain ⟨r,hr⟩:∃ r,n-(k:Int)=r:=⟨_,rfl⟩
  have hw:IntKind.i64.wrap (n-(k:Int))=r:=by rw [IntKind.wrap_i64,hr];omega
  have HR:Hid (r=n-(k:Int)∧r≤9223372036854775807∧-9223372036854775808≤r):=⟨hr.symm,by omega,by omega⟩
  have hc2:=(HN r hc).o
  clear hr
  go_enter Tryz.func111,Tryz.ntmps111
  go_wp2
  go_ret
  exact ⟨⟨_,rfl⟩,r,⟨(HN r hc).o,(HF r).o,HR.o.2⟩,⟨fun _=>⟨HR.o.1,h0⟩,fun _=>HR.o.1⟩,(But.refl C w).setCell 0 _⟩
 ·go_enter Tryz.func111,Tryz.ntmps111
  go_wp2
  go_ret
  exact ⟨⟨_,rfl⟩,n,⟨hc,hf,hn,hn'⟩,⟨fun h=>by omega,fun h=>by omega⟩,But.refl C w⟩
theorem textx (C:Nat) (n:Int) (s:ByteArray) (w:World) (hC:qA w C n) (hs:s.size≤9223372036854775807):
  Calls Tryz.prog 75 #[.pointer (some ⟨C,0,none⟩),.string s] w fun e w'=>(∃ v,e=.returned v)∧∃ n',qA w' C n'∧more n (1+s.size) n'∧But C w w':=by
 have C1:=addx C n 1 w hC (by omega)
 have C2:=fun w n hC=>addx C n s.size w hC (by omega)
 clear hC
 go_enter Tryz.func75,Tryz.ntmps75
 go_wp2_with (first
  | (go_at_call_of 111 (Value.int .i64 1);refine C1.mono ?_;rintro e w1 ⟨⟨b1,rfl⟩,n1,hC1,l1,bl1⟩;have D2:=C2 w1 n1 hC1;clear C1 C2 hC1)
  | (go_at_call 111;refine D2.mono ?_;rintro e w2 ⟨⟨b2,rfl⟩,n2,hC2,l2,bl2⟩))
 go_end0
 exact ⟨⟨_,rfl⟩,n2,hC2,l1.trans l2,bl1.trans bl2⟩
def sL (w0:World) (f:F):Prop:=∀ (v:Value),HasS w0 v f→f.ok→f.len≤9223372036854775807→∀ (w:World) (C:Nat) (n:Int),Below w0.heap.size w0 w→w0.heap.size≤C→qA w C n→
  Calls Tryz.prog 76 #[.pointer (some ⟨C,0,none⟩),v] w fun e w'=>(∃ v,e=.returned v)∧∃ n',qA w' C n'∧more n f.weight n'∧But C w w'
theorem a0S (w0:World) (c:Array Value) (nm:ByteArray) (vv:Vd) (m:Md) (ks:F) (hN:HasN w0 c nm vv m ks) (hok:nm.size≤9223372036854775807∧ks.len≤9223372036854775807∧ks.ok) (ih:sL w0 ks)
  (w:World) (C:Nat) (n:Int) (hb:Below w0.heap.size w0 w) (hw:w0.heap.size≤C) (hC:qA w C n):
  Calls Tryz.prog 48 #[.pointer (some ⟨C,0,none⟩),.agg c] w fun e w'=>(∃ v,e=.returned v)∧∃ n',qA w' C n'∧more n (1+nm.size+ks.weight) n'∧But C w w':=by
 obtain ⟨kv,hc,hS⟩:=hN
 have hN:=a0b nm vv m kv
 rw [← hc] at hN
 have k1:=hN.name
 have k2:=hN.kids
 have hlt:=hC.lt
 have C1:=textx C n nm (w.alloc (.cells c 30)) (hC.alloc _) hok.1
 have C2:=fun (w1:World) (n1:Int) (b1:But C (w.alloc (.cells c 30)) w1) (h1:qA w1 C n1)=>ih kv hS hok.2.2 hok.2.1 w1 C n1 (hb.trans (((Below.refl _ w).alloc (by omega) _).trans (b1.below hw (by simp;omega)))) hw h1
 have C3:∀ w1,But C (w.alloc (.cells c 30)) w1→w1.cell? ⟨w.heap.size,40,none⟩=some kv:=fun w1 b1=>b1.cell (by simpa using jW w c 30 40 kv k2) (by show w.heap.size≠C;omega)
 clear hN hc hC ih
 go_enter Tryz.func48,Tryz.ntmps48
 go_wp2_with (first
  | (go_at_call 75;refine C1.mono ?_;rintro e w1 ⟨⟨b1,rfl⟩,n1,hC1,l1,bl1⟩;have D2:=C2 w1 n1 bl1 hC1;have D3:=C3 w1 bl1;clear C1 C2 C3 hC1)
  | (go_at_call 76;refine D2.mono ?_;rintro e w2 ⟨⟨b2,rfl⟩,n2,hC2,l2,bl2⟩))
 go_end0
 exact ⟨⟨_,rfl⟩,n2,hC2,l1.trans l2,((But.refl C w).alloc _).trans (bl1.trans bl2)⟩
theorem nodesx (w0:World):∀ (N:Nat) (f:F),f.size<N→sL w0 f:=by
 intro N
 induction N with
 | zero=>intro f h;omega
 | succ N ih=>
  intro f hN v hS hok hlen w C n hb hw hC
  obtain ⟨a,cap,rfl,_⟩:=hS.form
  have C1:=fun w n h=>uR C n w h
  obtain ⟨L,hL⟩:∃ L,f.len=L:=⟨_,rfl⟩
  rw [hL] at hlen
  have HC:Hid (qA w C n):=hC
  have HL:Hid (f.len=L):=hL
  have HS:Hid (HasS w0 (.slice a f.len cap) f):=hS
  rw [hL]
  clear hC hS hL
  go_enter Tryz.func76,Tryz.ntmps76
  go_wp2_with fail
  go_loopw [4] (fun i wr=>∃ k:Nat,i=.int .i64 k∧k≤L∧Hid (∃ q n',q+(f.drop k).weight=f.weight∧qA wr C n'∧more n q n'∧But C w wr)) (fun i _=>L-iOf i)
  case atStart=>exact ⟨0,rfl,Nat.zero_le _,0,n,by rw [F.drop_zero];omega,HC.o,⟨fun h=>by omega,fun h=>by omega⟩,But.refl _ _⟩
  case round=>
   obtain ⟨k,rfl,hk,q,n',hq,hC',hl',hb'⟩:=hrel
   have D1:=C1 wr n' hC'
   by_cases hlt:k<L
   ·have hltI:(k:Int)<(L:Int):=by omega
    by_cases h0:0≤n'
    ·obtain ⟨g,o,cap',nm,vv,m,ks,c,hv,hd,hN',hc⟩:=HS.o.at (k:=k) (by rw [HL.o];exact hlt)
     cases hv
     have hod:(f.drop k).ok:=F.ok_drop hok
     rw [hd] at hod
     have hks:=F.kids_size hd
     have hbw:=Below.of_but hb hb' hw
     have HLd:Hid (c.size=41∧Lies wr g (o+k*41) c):=⟨by obtain ⟨kv,rfl,_⟩:=hN';exact jO ..,Lies.below (w':=wr) hc hbw⟩
     have D2:=a0S w0 c nm vv m ks hN' ⟨hod.1,hod.2.1,hod.2.2.1⟩ (ih ks (by omega)) wr C n' hbw hw hC'
     have HW:Hid (q+(1+nm.size+ks.weight)+(f.drop (k+1)).weight=f.weight):=by show _=_;rw [← hq,hd,F.weight];omega
     have HB:Hid (more n q n'∧But C w wr):=⟨hl',hb'⟩
     clear hq hd hN' hc hod hks hbw hC' hl' hb'
     go_wp2_with (first
      | (go_at_call 49;refine D1.mono ?_;rintro e w1 ⟨rfl,e1⟩;subst e1)
      | refine eh rfl _ rfl _ _ rfl c HLd.o.1 HLd.o.2 ?_
      | (go_at_call 48;refine D2.mono ?_;rintro e w2 ⟨⟨b2,rfl⟩,n2,hC2,l2,bl2⟩))
     go_roundw
     case rel=>exact ⟨k+1,by go_num,by omega,_,n2,HW.o,hC2,HB.o.1.trans l2,HB.o.2.trans bl2⟩
     case measure=>simp;omega
    ·have HX:Hid (∃ n',qA wr C n'∧more n f.weight n'∧But C w wr):=⟨n',hC',⟨fun h=>absurd h h0,fun h=>by have:=hl'.2 (by omega);omega⟩,hb'⟩
     clear hq hC' hl' hb'
     go_wp2_with (go_at_call 49;refine D1.mono ?_;rintro e w1 ⟨rfl,e1⟩;subst e1)
     go_end0
     exact ⟨⟨_,rfl⟩,HX.o⟩
   ·have hltI:¬ (k:Int)<(L:Int):=by omega
    obtain rfl:k=L:=by omega
    have HX:Hid (∃ n',qA wr C n'∧more n f.weight n'∧But C w wr):=by
     refine ⟨n',hC',?_,hb'⟩
     rw [F.zn f k (by rw [HL.o];omega),F.weight] at hq
     rw [← hq];exact hl'
    clear hq hC' hl' hb'
    go_wp2_with fail
    go_end0
    exact ⟨⟨_,rfl⟩,HX.o⟩
theorem sM (c:Array Value) (nm:ByteArray) (v:Vd) (m:Md) (ks:F) (w:World) (hN:HasN w c nm v m ks) (hnm:nm.size≤9223372036854775807) (hok:ks.ok) (hlen:ks.len≤9223372036854775807):
  Calls Tryz.prog 28 #[.agg c] w fun e w'=>e=.returned (.bool (decide (1+nm.size+ks.weight≤20000)))∧G w w':=by
 have hcs:c.size=41:=by obtain ⟨_,rfl,_⟩:=hN;exact jO ..
 have hG0:G w (w.alloc (.cells c 30)):=G.alloc _ _
 have HN:=hid (⟨hN.below hG0,Var.new w c,hG0⟩:HasN (w.alloc (.cells c 30)) c nm v m ks∧Var (w.alloc (.cells c 30)) w.heap.size c∧G w (w.alloc (.cells c 30)))
 have HO:=hid (⟨hnm,hlen,hok⟩:_∧_∧_)
 clear hN hG0 hnm hok hlen
 go_enter Tryz.func28,Tryz.ntmps28
 go_upto_region 1 with fail
 generalize w.alloc (.cells c 30)=w1 at *
 generalize w.heap.size=B0 at *
 go_wp2_with fail
 refine (sT w1).mono ?_
 rintro e w2 ⟨rfl,hC,bl⟩
 have HC:=hid (⟨hC,bl⟩:qA w2 w1.heap.size 20000∧Below w1.heap.size w1 w2)
 have hl:Lies w2 B0 0 c:=(HN.o.2.1.grow bl).lies
 have HL:=hid hl
 clear hC bl hl
 have C2:=a0S w1 c nm v m ks HN.o.1 ⟨HO.o.1,HO.o.2.1,HO.o.2.2⟩ (nodesx w1 (ks.size+1) ks (Nat.lt_succ_self _)) w2 w1.heap.size 20000 HC.o.2 (Nat.le_refl _) HC.o.1
 have HGG:=hid (⟨HN.o.2.2,HC.o.2⟩:G w w1∧G w1 w2)
 obtain ⟨C,hCC⟩:∃ C,w1.heap.size=C:=⟨_,rfl⟩
 rw [hCC] at C2 ⊢
 have HCC:=hid hCC
 clear hCC
 go_wp2_with ((with_reducible refine jA (.agg c) ?_ ?_);exact jK _ rfl B0 0 rfl c hcs HL.o)
 refine C2.mono ?_
 rintro e w3 ⟨⟨b2,rfl⟩,n2,hC2,l2,bl2⟩
 have C3:=uR C n2 w3 hC2
 have HF:=hid (⟨l2,bl2⟩:_∧_)
 clear C2 hC2 l2 bl2
 go_wp2_with fail
 refine C3.mono ?_
 rintro e w4 ⟨rfl,e3⟩
 subst e3
 clear C3
 go_wp2_with fail
 go_ret
 have hD:decide (0≤n2)=decide (1+nm.size+ks.weight≤20000):=decide_eq_decide.2 ⟨fun h=>by have:=HF.o.1.1 h;omega,fun h=>by have:=HF.o.1.2 (by omega);omega⟩
 rw [hD]
 refine ⟨rfl,?_⟩
 ·have h1:=HGG.o.1.size
  have h2:=HGG.o.2.size
  have h3:=HCC.o
  exact Below.trans (B:=w.heap.size) HGG.o.1 (Below.trans (B:=w.heap.size) (Below.mono HGG.o.2 h1) (But.below HF.o.2 (by omega) (by omega)))
end Go.Proofs.YtjikkhbcbfpocaaGreatDoor
