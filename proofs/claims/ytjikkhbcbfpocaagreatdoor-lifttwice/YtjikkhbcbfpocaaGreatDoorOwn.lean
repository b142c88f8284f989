import Derived.Test.YtjikkhbcbfpocaaGreatDoorGrows
set_option maxRecDepth 100000
set_option maxHeartbeats 1000000
namespace Go.Proofs.YtjikkhbcbfpocaaGreatDoor
open Go.RowKit
def F.weight:F→Nat
 | .nil=>0
 | .cons nm _ _ k r=>1+nm.size+k.weight+r.weight
def F.ok:F→Prop
 | .nil=>True
 | .cons nm _ _ k r=>nm.size≤9223372036854775807∧k.len≤9223372036854775807∧k.ok∧r.ok
theorem F.ok_drop:∀ {f:F} {k:Nat},f.ok→(f.drop k).ok
 | f,0,h=>by rw [F.drop_zero];exact h
 | .nil,_+1,_=>trivial
 | .cons _ _ _ _ r,k+1,h=>F.ok_drop (f:=r) h.2.2.2
def qA (w:World) (C:Nat) (n:Int):Prop:=w.cell? ⟨C,0,none⟩=some (.int .i64 n)∧w.frozen? ⟨C,0,none⟩=false∧n≤9223372036854775807∧-9223372036854775808≤n
def less (n:Int) (k:Nat) (n':Int):Prop:=0≤n'→n'=n-(k:Int)∧0≤n
theorem less.trans {a b c:Int} {k l:Nat} (h:less a k b) (h':less b l c):less a (k+l) c:=fun h0=>by
 have h1:=h' h0
 have h2:=h h1.2
 omega
theorem eG (C:Nat) (n:Int) (k:Nat) (w:World) (hC:qA w C n) (hk:(k:Int)≤9223372036854775807):
  Calls Tryz.prog 111 #[.pointer (some ⟨C,0,none⟩),.int .i64 k] w fun e w'=>(∃ v,e=.returned v)∧∃ n',qA w' C n'∧less n k n'∧But C w w':=by
 obtain ⟨hc,hf,hn,hn'⟩:=hC
 by_cases h0:0≤n
 ·have HN:∀ r:Int,w.cell? ⟨C,0,none⟩=some (.int .i64 n)→Hid ((w.setCell ⟨C,0,none⟩ (.int .i64 r)).cell? ⟨C,0,none⟩=some (.int .i64 r)):=fun r h=>World.cell?_setCell_same _ _ _ h
  have HF:∀ r:Int,Hid ((w.setCell ⟨C,0,none⟩ (.int .i64 r)).frozen? ⟨C,0,none⟩=false):=fun r=>by show _=_;rw [World.frozen?_setCell];exact hf
  obtain ⟨r,hr⟩:∃ r,n-(k:Int)=r:=⟨_,rfl⟩
  have hw:IntKind.i64.wrap (n-(k:Int))=r:=by rw [IntKind.wrap_i64,hr];omega
  have HR:Hid (r=n-(k:Int)∧r≤9223372036854775807∧-9223372036854775808≤r):=⟨hr.symm,by omega,by omega⟩
  have hc2:=(HN r hc).o
  clear hr
  go_enter Tryz.func111,Tryz.ntmps111
  go_wp2
  go_ret
  exact ⟨⟨_,rfl⟩,r,⟨(HN r hc).o,(HF r).o,HR.o.2⟩,fun _=>⟨HR.o.1,h0⟩,(But.refl C w).setCell 0 _⟩
 ·go_enter Tryz.func111,Tryz.ntmps111
  go_wp2
  go_ret
  exact ⟨⟨_,rfl⟩,n,⟨hc,hf,hn,hn'⟩,fun h=>by omega,But.refl C w⟩
theorem uR (C:Nat) (n:Int) (w:World) (hC:qA w C n):Calls Tryz.prog 49 #[.pointer (some ⟨C,0,none⟩)] w fun e w'=>e=.returned (.bool (decide (0≤n)))∧w=w':=by
 obtain ⟨hc,hf,hn,hn'⟩:=hC
 go_enter Tryz.func49,Tryz.ntmps49
 go_wp2
 go_ret
 exact ⟨rfl,rfl⟩
theorem lW (C:Nat) (n:Int) (s:ByteArray) (w:World) (hC:qA w C n) (hs:s.size≤9223372036854775807):
  Calls Tryz.prog 75 #[.pointer (some ⟨C,0,none⟩),.string s] w fun e w'=>(∃ v,e=.returned v)∧∃ n',qA w' C n'∧less n (1+s.size) n'∧But C w w':=by
 have C1:=eG C n 1 w hC (by omega)
 have C2:=fun w n hC=>eG C n s.size w hC (by omega)
 clear hC
 go_enter Tryz.func75,Tryz.ntmps75
 go_wp2_with (first
  | (go_at_call_of 111 (Value.int .i64 1);refine C1.mono ?_;rintro e w1 ⟨⟨b1,rfl⟩,n1,hC1,l1,bl1⟩;have D2:=C2 w1 n1 hC1;clear C1 C2 hC1)
  | (go_at_call 111;refine D2.mono ?_;rintro e w2 ⟨⟨b2,rfl⟩,n2,hC2,l2,bl2⟩))
 go_end0
 exact ⟨⟨_,rfl⟩,n2,hC2,l1.trans l2,bl1.trans bl2⟩
theorem qA.alloc {w:World} {C:Nat} {n:Int} (h:qA w C n) (o:Obj):qA (w.alloc o) C n:=
 have hlt:=World.block_lt_of_cell? w _ h.1
 ⟨(World.cell?_of_block (w:=w) (Below.heap_alloc w o C hlt)).trans h.1,(World.frozen?_of_block (w:=w) (Below.heap_alloc w o C hlt)).trans h.2.1,h.2.2⟩
theorem qA.lt {w:World} {C:Nat} {n:Int} (h:qA w C n):C<w.heap.size:=World.block_lt_of_cell? w _ h.1
theorem jW (w:World) (c:Array Value) (t:TypeId):Lies (w.alloc (.cells c t)) w.heap.size 0 c:=fun j u hj=>by
 have h:(w.alloc (.cells c t)).heap[w.heap.size]?=some (.cells c t):=World.alloc_heap_new w _
 simp only [World.cell?,h,Nat.zero_add]
 exact hj
theorem F.kids_size {f:F} {k:Nat} {nm:ByteArray} {v:Vd} {m:Md} {ks r:F} (h:f.drop k=.cons nm v m ks r):ks.size+1+r.size≤f.size:=by
 have:=F.br f k
 rw [h,F.size] at this
 omega
theorem Below.of_but {C:Nat} {w0 w w':World} (hb:Below w0.heap.size w0 w) (h:But C w w') (hC:w0.heap.size≤C):Below w0.heap.size w0 w':=
 hb.trans (h.below hC hb.size)
theorem sT (w:World):Calls Tryz.prog 47 #[.int .i64 20000] w fun e w'=>e=.returned (.pointer (some ⟨w.heap.size,0,none⟩))∧qA w' w.heap.size 20000∧Below w.heap.size w w':=by
 go_enter Tryz.func47,Tryz.ntmps47
 go_wp2
 go_ret
 exact ⟨rfl,⟨by simp,by simp,by omega,by omega⟩,(Below.refl _ w).alloc (Nat.le_refl _) _⟩
theorem qt {w w':World} {a:Addr} {v:Value} (h:Below w.heap.size w w') (hc:w.cell? a=some v):w'.cell? a=some v:=(h.cell (World.block_lt_of_cell? w _ hc)).trans hc
theorem fo (w:World) (c d:Array Value):Lies ((w.alloc (.cells c 30)).alloc (.cells d 30)) w.heap.size 0 c∧Lies ((w.alloc (.cells c 30)).alloc (.cells d 30)) (w.heap.size+1) 0 d:=by
 constructor
 ·exact (jW w c 30).below ((Below.refl _ _).alloc (Nat.le_refl _) _)
 ·have:=jW (w.alloc (.cells c 30)) d 30
  rw [World.size_alloc] at this
  exact this
def F.okL (f:F):Prop:=f.size≤9223372036854775807
def pB (ks:F):Prop:=∀ (nm nm':ByteArray) (v v':Vd) (m m':Md) (ks':F) (c d:Array Value) (w:World),HasN w c nm v m ks→HasN w d nm' v' m' ks'→ks.okL→ks'.okL→
  Calls Tryz.prog 38 #[.agg c,.agg d] w fun e w'=>e=.returned (.bool (decide (v=v'∧m=m'∧ks=ks')))∧Below w.heap.size w w'
theorem pC:∀ (N:Nat) (ks:F),ks.size<N→pB ks:=by
 intro N
 induction N with
 | zero=>intro f h;omega
 | succ N ih=>
  intro ks hN nm nm' v v' m m' ks' c d w ⟨kv,hc,hS⟩ ⟨kv',hd,hS'⟩ hl hl'
  obtain ⟨L,hL⟩:∃ L,ks.len=L:=⟨_,rfl⟩
  obtain ⟨L',hL'⟩:∃ L',ks'.len=L':=⟨_,rfl⟩
  obtain ⟨a,cap,rfl,_⟩:=hS.form
  obtain ⟨a',cap',rfl,_⟩:=hS'.form
  have HOK:Hid (ks.okL∧ks'.okL):=⟨hl,hl'⟩
  replace hl:L≤9223372036854775807:=by have:=ks.len_le_size;unfold F.okL at hl;omega
  replace hl':L'≤9223372036854775807:=by have:=ks'.len_le_size;unfold F.okL at hl';omega
  obtain ⟨R,hR⟩:∃ R,decide (v=v'∧m=m'∧ks=ks')=R:=⟨_,rfl⟩
  rw [hR]
  have HRR:Hid (decide (v=v'∧m=m'∧ks=ks')=R):=hR
  clear hR
  have TB:=fo w c d
  have B1:Below w.heap.size w ((w.alloc (.cells c 30)).alloc (.cells d 30)):=((Below.refl _ w).alloc (Nat.le_refl _) _).alloc (by simp) _
  obtain ⟨H,hH⟩:∃ H,w.heap.size=H:=⟨_,rfl⟩
  have HH:Hid (w.heap.size=H):=hH
  have HL:Hid (ks.len=L):=hL
  have HL':Hid (ks'.len=L'):=hL'
  have HS:Hid (HasS w (.slice a L cap) ks):=by rw [hL] at hS;exact hS
  have HS':Hid (HasS w (.slice a' L' cap') ks'):=by rw [hL'] at hS';exact hS'
  have HC:Hid (c=nc nm v m (.slice a L cap)):=by rw [hL] at hc;exact hc
  have HD:Hid (d=nc nm' v' m' (.slice a' L' cap')):=by rw [hL'] at hd;exact hd
  clear hL hL' hS hS' hc hd hH
  go_enter Tryz.func38,Tryz.ntmps38
  go_upto_region 1 with fail
  generalize (w.alloc (.cells c 30)).alloc (.cells d 30)=w1 at *
  rw [HH.o] at TB ⊢
  have LC:Lies w1 H 0 (nc nm v m (.slice a L cap)):=by rw [← HC.o];exact TB.1
  have LD:Lies w1 (H+1) 0 (nc nm' v' m' (.slice a' L' cap')):=by rw [← HD.o];exact TB.2
  have HB:Hid (Below w.heap.size w w1):=B1
  obtain ⟨X,hX⟩:∃ X,(vx v).toArray=X:=⟨_,rfl⟩
  obtain ⟨X',hX'⟩:∃ X,(vx v').toArray=X:=⟨_,rfl⟩
  obtain ⟨M,hM⟩:∃ X,(mx m).toArray=X:=⟨_,rfl⟩
  obtain ⟨M',hM'⟩:∃ X,(mx m').toArray=X:=⟨_,rfl⟩
  have h40:=yl LC
  have h40':=yl LD
  rw [Nat.zero_add] at h40 h40'
  have E:Hid ((Lies w1 H 1 X∧X.size=35)∧(Lies w1 (H+1) 1 X'∧X'.size=35)∧(Lies w1 H 36 M∧M.size=4)∧(Lies w1 (H+1) 36 M'∧M'.size=4)):=by
   subst hX hX' hM hM'
   exact ⟨⟨bQ LC,by simp [je]⟩,⟨bQ LD,by simp [je]⟩,⟨zo LC,by simp [qh]⟩,⟨zo LD,by simp [qh]⟩⟩
  have HX:Hid (X=(vx v).toArray∧X'=(vx v').toArray∧M=(mx m).toArray∧M'=(mx m').toArray):=⟨hX.symm,hX'.symm,hM.symm,hM'.symm⟩
  clear hX hX' hM hM' LC LD TB B1
  by_cases hv:v=v'
  ·have B1:Hid ((!decide (v=v'))=false):=by show _=_;simp [hv]
   by_cases hm:m=m'
   ·have B2:Hid ((!decide (m=m'))=false):=by show _=_;simp [hm]
    by_cases hLL:L=L'
    ·have HR:Hid (R=decide (ks=ks')):=by show _=_;rw [← HRR.o];simp [hv,hm]
     clear hv hm
     subst hLL
     go_wp2_with (first
      | (with_reducible refine jA (.agg X) ?_ ?_;exact jJ _ rfl H 1 rfl X E.o.1.2 E.o.1.1)
      | (with_reducible refine jA (.agg X') ?_ ?_;exact jJ _ rfl (H+1) 1 rfl X' E.o.2.1.2 E.o.2.1.1)
      | (with_reducible refine jA (.bool false) ?_ ?_;exact yx _ _ rfl X X' rfl rfl v v' HX.o.1 HX.o.2.1 false B1.o _)
      | (with_reducible refine jA (.agg M) ?_ ?_;exact jZ _ rfl H 36 rfl M E.o.2.2.1.2 E.o.2.2.1.1)
      | (with_reducible refine jA (.agg M') ?_ ?_;exact jZ _ rfl (H+1) 36 rfl M' E.o.2.2.2.2 E.o.2.2.2.1)
      | (with_reducible refine jA (.bool false) ?_ ?_;exact qW _ _ rfl M M' rfl rfl m m' HX.o.2.2.1 HX.o.2.2.2 false B2.o _))
     clear E HX B1 B2
     have HIH:Hid (∀ ks:F,ks.size<N→pB ks):=ih
     clear ih
     go_loopw [5] (fun i wr=>∃ k:Nat,i=.int .i64 k∧k≤L∧wr.cell? ⟨H,40,none⟩=some (.slice a L cap)∧wr.cell? ⟨H+1,40,none⟩=some (.slice a' L cap')∧Hid ((ks=ks'↔ks.drop k=ks'.drop k)∧Below w.heap.size w wr)) (fun i _=>L-iOf i)
     case atStart=>exact ⟨0,rfl,Nat.zero_le _,h40,h40',by rw [F.drop_zero,F.drop_zero],HB.o⟩
     case round=>
      obtain ⟨k,rfl,hk,q1,q2,HI⟩:=hrel
      clear h40 h40'
      by_cases hlt:k<L
      ·have hltI:(k:Int)<(L:Int):=by omega
       obtain ⟨g,o,cp,nm1,v1,m1,ks1,c1,hv1,hd1,hN1,hc1⟩:=HS.o.at (k:=k) (by rw [HL.o];exact hlt)
       obtain ⟨g',o',cp',nm2,v2,m2,ks2,c2,hv2,hd2,hN2,hc2⟩:=HS'.o.at (k:=k) (by rw [HL'.o];exact hlt)
       obtain rfl:a=some ⟨g,o,none⟩:=by injection hv1
       obtain rfl:a'=some ⟨g',o',none⟩:=by injection hv2
       clear hv1 hv2
       have bw:=HI.o.2
       have n1:wr.cell? ⟨g,o+k*41,none⟩=some (.string nm1):=by
        obtain ⟨kv1,rfl,_⟩:=hN1
        have:=Lies.below hc1 bw 0 _ (kY ..)
        exact this
       have n2:wr.cell? ⟨g',o'+k*41,none⟩=some (.string nm2):=by
        obtain ⟨kv1,rfl,_⟩:=hN2
        have:=Lies.below hc2 bw 0 _ (kY ..)
        exact this
       by_cases hnn:nm1=nm2
       ·subst hnn
        have hks:=F.kids_size hd1
        have CE:=HIH.o ks1 (by omega) nm1 nm1 v1 v2 m1 m2 ks2 c1 c2
        have s1:c1.size=41:=by obtain ⟨kv1,rfl,_⟩:=hN1;exact jO ..
        have s2:c2.size=41:=by obtain ⟨kv1,rfl,_⟩:=hN2;exact jO ..
        have hl1:ks1.okL:=by have:=HOK.o.1;unfold F.okL at this ⊢;omega
        have hl2:ks2.okL:=by have:=HOK.o.2;have:=F.kids_size hd2;unfold F.okL at *;omega
        have HN1:Hid (∀ W,Below w.heap.size w W→HasN W c1 nm1 v1 m1 ks1):=fun W b=>hN1.below b
        have HN2:Hid (∀ W,Below w.heap.size w W→HasN W c2 nm1 v2 m2 ks2):=fun W b=>hN2.below b
        have HC1:Hid (∀ W,Below w.heap.size w W→Lies W g (o+k*41) c1):=fun W b=>Lies.below hc1 b
        have HC2:Hid (∀ W,Below w.heap.size w W→Lies W g' (o'+k*41) c2):=fun W b=>Lies.below hc2 b
        have HB2:Hid (Below w.heap.size w wr):=bw
        have HI1:Hid (ks=ks'↔ks.drop k=ks'.drop k):=HI.o.1
        have HD1:Hid (ks.drop k=F.cons nm1 v1 m1 ks1 (ks.drop (k+1))∧ks'.drop k=F.cons nm1 v2 m2 ks2 (ks'.drop (k+1))):=⟨hd1,hd2⟩
        have HCE:Hid (∀ W,Below w.heap.size w W→Calls Tryz.prog 38 #[.agg c1,.agg c2] W fun e w'=>e=.returned (.bool (decide (v1=v2∧m1=m2∧ks1=ks2)))∧Below W.heap.size W w'):=fun W b=>CE W (HN1.o W b) (HN2.o W b) hl1 hl2
        clear hd1 hd2 hN1 hN2 hc1 hc2 bw HI CE hks
        obtain ⟨b,hb⟩:∃ b,decide (v1=v2∧m1=m2∧ks1=ks2)=b:=⟨_,rfl⟩
        have HBB:Hid (decide (v1=v2∧m1=m2∧ks1=ks2)=b):=hb
        rw [hb] at HCE
        clear hb
        go_wp2_with fail
        have HST:Hid (∀ W W':World,(fun w'=>w'.cell? ⟨H,40,none⟩=some (.slice (some ⟨g,o,none⟩) L cap)∧w'.cell? ⟨H+1,40,none⟩=some (.slice (some ⟨g',o',none⟩) L cap')∧w'.cell? ⟨g,o+k*41,none⟩=some (.string nm1)∧w'.cell? ⟨g',o'+k*41,none⟩=some (.string nm1)∧Below w.heap.size w w') W→Below W.heap.size W W'→(fun w'=>w'.cell? ⟨H,40,none⟩=some (.slice (some ⟨g,o,none⟩) L cap)∧w'.cell? ⟨H+1,40,none⟩=some (.slice (some ⟨g',o',none⟩) L cap')∧w'.cell? ⟨g,o+k*41,none⟩=some (.string nm1)∧w'.cell? ⟨g',o'+k*41,none⟩=some (.string nm1)∧Below w.heap.size w w') W'):=fun W W' h b=>⟨qt b h.1,qt b h.2.1,qt b h.2.2.1,qt b h.2.2.2.1,h.2.2.2.2.trans (b.mono h.2.2.2.2.size)⟩
        refine wp_region_held_drew (S:=fun w'=>w'.cell? ⟨H,40,none⟩=some (.slice (some ⟨g,o,none⟩) L cap)∧w'.cell? ⟨H+1,40,none⟩=some (.slice (some ⟨g',o',none⟩) L cap')∧w'.cell? ⟨g,o+k*41,none⟩=some (.string nm1)∧w'.cell? ⟨g',o'+k*41,none⟩=some (.string nm1)∧Below w.heap.size w w') (by kernel_rfl) ⟨q1,q2,n1,n2,HB2.o.drew⟩ (fun hS=>?_)
        refine kn 0 34 (.pointer (some ⟨H,40,none⟩)) hS (fun wz hz=>?_) ?_
        ·(try obtain ⟨z1,z2,z3,z4,z5⟩:=hz);go_simp
        refine kn 1 35 (.slice (some ⟨g,o,none⟩) L cap) hS (fun wz hz=>?_) ?_
        ·(try obtain ⟨z1,z2,z3,z4,z5⟩:=hz);go_simp
        refine kn 2 36 (.int .i64 k) hS (fun wz hz=>?_) ?_
        ·(try obtain ⟨z1,z2,z3,z4,z5⟩:=hz);go_simp
        refine kn 3 37 (.pointer (some ⟨g,o+k*41,none⟩)) hS (fun wz hz=>?_) ?_
        ·(try obtain ⟨z1,z2,z3,z4,z5⟩:=hz);go_simp
        refine kn 4 38 (.pointer (some ⟨g,o+k*41,none⟩)) hS (fun wz hz=>?_) ?_
        ·(try obtain ⟨z1,z2,z3,z4,z5⟩:=hz);go_simp
        refine kn 5 39 (.string nm1) hS (fun wz hz=>?_) ?_
        ·(try obtain ⟨z1,z2,z3,z4,z5⟩:=hz);go_simp
        refine kn 6 40 (.pointer (some ⟨H+1,40,none⟩)) hS (fun wz hz=>?_) ?_
        ·(try obtain ⟨z1,z2,z3,z4,z5⟩:=hz);go_simp
        refine kn 7 41 (.slice (some ⟨g',o',none⟩) L cap') hS (fun wz hz=>?_) ?_
        ·(try obtain ⟨z1,z2,z3,z4,z5⟩:=hz);go_simp
        refine kn 8 42 (.int .i64 k) hS (fun wz hz=>?_) ?_
        ·(try obtain ⟨z1,z2,z3,z4,z5⟩:=hz);go_simp
        refine kn 9 43 (.pointer (some ⟨g',o'+k*41,none⟩)) hS (fun wz hz=>?_) ?_
        ·(try obtain ⟨z1,z2,z3,z4,z5⟩:=hz);go_simp
        refine kn 10 44 (.pointer (some ⟨g',o'+k*41,none⟩)) hS (fun wz hz=>?_) ?_
        ·(try obtain ⟨z1,z2,z3,z4,z5⟩:=hz);go_simp
        refine kn 11 45 (.string nm1) hS (fun wz hz=>?_) ?_
        ·(try obtain ⟨z1,z2,z3,z4,z5⟩:=hz);go_simp
        refine kn 12 46 (.bool false) hS (fun wz hz=>?_) ?_
        ·(try obtain ⟨z1,z2,z3,z4,z5⟩:=hz);go_simp
        refine kn 13 47 (.bool false) hS (fun wz hz=>?_) ?_
        ·(try obtain ⟨z1,z2,z3,z4,z5⟩:=hz);go_simp
        refine kn 14 48 (.pointer (some ⟨H,40,none⟩)) hS (fun wz hz=>?_) ?_
        ·(try obtain ⟨z1,z2,z3,z4,z5⟩:=hz);go_simp
        refine kn 15 49 (.slice (some ⟨g,o,none⟩) L cap) hS (fun wz hz=>?_) ?_
        ·(try obtain ⟨z1,z2,z3,z4,z5⟩:=hz);go_simp
        refine kn 16 50 (.int .i64 k) hS (fun wz hz=>?_) ?_
        ·(try obtain ⟨z1,z2,z3,z4,z5⟩:=hz);go_simp
        refine kn 17 51 (.pointer (some ⟨g,o+k*41,none⟩)) hS (fun wz hz=>?_) ?_
        ·(try obtain ⟨z1,z2,z3,z4,z5⟩:=hz);go_simp
        refine kn 18 52 (.agg c1) hS (fun wz hz=>?_) ?_
        ·exact jK _ rfl g (o+k*41) rfl c1 s1 (HC1.o wz hz.2.2.2.2)
        refine kn 19 53 (.pointer (some ⟨H+1,40,none⟩)) hS (fun wz hz=>?_) ?_
        ·(try obtain ⟨z1,z2,z3,z4,z5⟩:=hz);go_simp
        refine kn 20 54 (.slice (some ⟨g',o',none⟩) L cap') hS (fun wz hz=>?_) ?_
        ·(try obtain ⟨z1,z2,z3,z4,z5⟩:=hz);go_simp
        refine kn 21 55 (.int .i64 k) hS (fun wz hz=>?_) ?_
        ·(try obtain ⟨z1,z2,z3,z4,z5⟩:=hz);go_simp
        refine kn 22 56 (.pointer (some ⟨g',o'+k*41,none⟩)) hS (fun wz hz=>?_) ?_
        ·(try obtain ⟨z1,z2,z3,z4,z5⟩:=hz);go_simp
        refine kn 23 57 (.agg c2) hS (fun wz hz=>?_) ?_
        ·exact jK _ rfl g' (o'+k*41) rfl c2 s2 (HC2.o wz hz.2.2.2.2)
        refine wpAnyH_ready (rs:=[24]) (by kernel_rfl) (by simp) ?_
        refine AllReadyH.cons rfl (fun K hK=>?_) AllReadyH.nil
        rw [if_pos (by kernel_rfl)]
        go_simp
        refine (HCE.o _ hS.2.2.2.2).mono ?_
        rintro e w2 ⟨rfl,b2⟩
        have hS2:=HST.o _ _ hS b2
        refine hK.out _ _ hS2 (fun hS=>?_)
        clear hK
        refine kn 25 59 (.bool (!b)) hS (fun wz hz=>?_) ?_
        ·(try obtain ⟨z1,z2,z3,z4,z5⟩:=hz);go_simp
        refine kn 26 60 (.bool (!b)) hS (fun wz hz=>?_) ?_
        ·(try obtain ⟨z1,z2,z3,z4,z5⟩:=hz);go_simp
        refine wpAnyH_done (by kernel_rfl) ?_ _
        have HB3:Hid (Below w.heap.size w w2):=hS.2.2.2.2
        have k0:=hS.1
        have k1:=hS.2.1
        clear hS hS2 b2 HST
        cases b with
        | false=>
         have HF:Hid (decide (ks=ks')=false):=by
          show _=_
          rw [decide_eq_false_iff_not,HI1.o,HD1.o.1,HD1.o.2]
          intro e
          injection e with _ e2 e3 e4
          have:=HBB.o
          rw [decide_eq_false_iff_not] at this
          exact this ⟨e2,e3,e4⟩
         go_wp2_with fail
         go_ret
         exact ⟨by rw [HR.o,HF.o];rfl,HB3.o⟩
        | true=>
         have HI3:Hid (ks=ks'↔ks.drop (k+1)=ks'.drop (k+1)):=by
          show _↔_
          have:=HBB.o
          rw [decide_eq_true_eq] at this
          obtain ⟨rfl,rfl,rfl⟩:=this
          rw [HI1.o,HD1.o.1,HD1.o.2]
          simp
         go_wp2_with fail
         go_roundw
         case rel=>exact ⟨k+1,by go_num,by omega,k0,k1,HI3.o,HB3.o⟩
         case measure=>simp;omega
       ·have b1:(nm1.toList==nm2.toList)=false:=by
         have:¬ nm1.toList=nm2.toList:=fun e=>hnn (uv _ _ e)
         simpa using this
        have HF:Hid (decide (ks=ks')=false):=by
         show _=_
         rw [decide_eq_false_iff_not,HI.o.1,hd1,hd2]
         intro e
         injection e with e1
         exact hnn e1
        have HB2:Hid (Below w.heap.size w wr):=bw
        clear hd1 hd2 hN1 hN2 hc1 hc2 bw HI hnn
        go_wp2_with fail
        go_region
        go_wp2_with fail
        go_ret
        exact ⟨by rw [HR.o,HF.o];rfl,(HB2.o).drew⟩
      ·have hltI:¬ (k:Int)<(L:Int):=by omega
       have HF:Hid (decide (ks=ks')=true):=by
        show _=_
        rw [decide_eq_true_eq,HI.o.1,F.zn ks k (by rw [HL.o];omega),F.zn ks' k (by rw [HL'.o];omega)]
       have HB2:Hid (Below w.heap.size w wr):=HI.o.2
       clear HI
       go_wp2_with fail
       go_ret
       exact ⟨by rw [HR.o,HF.o];rfl,HB2.o⟩
    ·have b3:(!decide ((L:Int)=(L':Int)))=true:=by simp;omega
     have b4:¬ (L:Int)=(L':Int):=by omega
     have HR:Hid (R=false):=by
      show _=_
      rw [← HRR.o]
      simp only [decide_eq_false_iff_not]
      rintro ⟨_,_,e⟩
      apply hLL
      rw [← HL.o,← HL'.o,e]
     clear hv hm hLL
     go_wp2_with (first
      | (with_reducible refine jA (.agg X) ?_ ?_;exact jJ _ rfl H 1 rfl X E.o.1.2 E.o.1.1)
      | (with_reducible refine jA (.agg X') ?_ ?_;exact jJ _ rfl (H+1) 1 rfl X' E.o.2.1.2 E.o.2.1.1)
      | (with_reducible refine jA (.bool false) ?_ ?_;exact yx _ _ rfl X X' rfl rfl v v' HX.o.1 HX.o.2.1 false B1.o _)
      | (with_reducible refine jA (.agg M) ?_ ?_;exact jZ _ rfl H 36 rfl M E.o.2.2.1.2 E.o.2.2.1.1)
      | (with_reducible refine jA (.agg M') ?_ ?_;exact jZ _ rfl (H+1) 36 rfl M' E.o.2.2.2.2 E.o.2.2.2.1)
      | (with_reducible refine jA (.bool false) ?_ ?_;exact qW _ _ rfl M M' rfl rfl m m' HX.o.2.2.1 HX.o.2.2.2 false B2.o _))
     go_ret
     exact ⟨by rw [HR.o];rfl,HB.o⟩
   ·have B2:Hid ((!decide (m=m'))=true):=by show _=_;simp [hm]
    have HR:Hid (R=false):=by show _=_;rw [← HRR.o];simp [hm]
    clear hv hm
    go_wp2_with (first
     | (with_reducible refine jA (.agg X) ?_ ?_;exact jJ _ rfl H 1 rfl X E.o.1.2 E.o.1.1)
     | (with_reducible refine jA (.agg X') ?_ ?_;exact jJ _ rfl (H+1) 1 rfl X' E.o.2.1.2 E.o.2.1.1)
     | (with_reducible refine jA (.bool false) ?_ ?_;exact yx _ _ rfl X X' rfl rfl v v' HX.o.1 HX.o.2.1 false B1.o _)
     | (with_reducible refine jA (.agg M) ?_ ?_;exact jZ _ rfl H 36 rfl M E.o.2.2.1.2 E.o.2.2.1.1)
     | (with_reducible refine jA (.agg M') ?_ ?_;exact jZ _ rfl (H+1) 36 rfl M' E.o.2.2.2.2 E.o.2.2.2.1)
     | (with_reducible refine jA (.bool true) ?_ ?_;exact qW _ _ rfl M M' rfl rfl m m' HX.o.2.2.1 HX.o.2.2.2 true B2.o _))
    go_ret
    exact ⟨by rw [HR.o];rfl,HB.o⟩
  ·have B1:Hid ((!decide (v=v'))=true):=by show _=_;simp [hv]
   have HR:Hid (R=false):=by show _=_;rw [← HRR.o];simp [hv]
   clear hv
   go_wp2_with (first
    | (with_reducible refine jA (.agg X) ?_ ?_;exact jJ _ rfl H 1 rfl X E.o.1.2 E.o.1.1)
    | (with_reducible refine jA (.agg X') ?_ ?_;exact jJ _ rfl (H+1) 1 rfl X' E.o.2.1.2 E.o.2.1.1)
    | (with_reducible refine jA (.bool true) ?_ ?_;exact yx _ _ rfl X X' rfl rfl v v' HX.o.1 HX.o.2.1 true B1.o _))
   go_ret
   exact ⟨by rw [HR.o];rfl,HB.o⟩
theorem hid {p:Prop} (h:p):Hid p:=h
def F.depth:F→Nat
 | .nil=>0
 | .cons _ _ _ k r=>max (k.depth+1) r.depth
theorem F.app_size:∀ f g:F,(f.app g).size=f.size+g.size
 | .nil,g=>by simp [F.app,F.size]
 | .cons _ _ _ _ r,g=>by rw [F.app,F.size,F.app_size r g,F.size];omega
theorem F.app_depth:∀ f g:F,(f.app g).depth=max f.depth g.depth
 | .nil,g=>by simp [F.app,F.depth]
 | .cons _ _ _ _ r,g=>by rw [F.app,F.depth,F.app_depth r g,F.depth];omega
theorem F.size_le_weight:∀ f:F,f.size≤f.weight
 | .nil=>Nat.le_refl _
 | .cons _ _ _ k r=>by have:=F.size_le_weight k;have:=F.size_le_weight r;simp only [F.size,F.weight];omega
theorem F.depth_le_size:∀ f:F,f.depth≤f.size
 | .nil=>Nat.le_refl _
 | .cons _ _ _ k r=>by have:=F.depth_le_size k;have:=F.depth_le_size r;simp only [F.size,F.depth];omega
inductive K where
 | nil
 | node (q p:Nat) (nm:ByteArray) (v:Vd) (m:Md) (kids ahead behind:K)
def K.flat:K→F
 | .nil=>.nil
 | .node _ _ nm v m kids ah be=>ah.flat.app (.cons nm v m kids.flat be.flat)
def tc (v:Vd) (m:Md) (pk:Value):Array Value:=(vx v++(mx m++[pk])).toArray
def kc (nm:ByteArray) (p:Nat) (pa pb:Value) (n c d:Nat):Array Value:=#[.string nm,.pointer (some ⟨p,0,none⟩),pa,pb,.int .i64 n,.int .i64 c,.int .i64 d]
theorem rq (v:Vd) (m:Md) (pk:Value):(tc v m pk).size=40:=by simp [tc,je,qh]
theorem zi (v:Vd) (m:Md) (pk:Value):(tc v m pk)[39]?=some pk:=by
 simp only [tc,List.getElem?_toArray]
 rw [List.getElem?_append_right (by simp [je]),List.getElem?_append_right (by simp [je,qh])]
 simp [je,qh]
theorem gw (v:Vd) (m:Md) (pk:Value):(tc v m pk).extract 0 35=(vx v).toArray:=by
 simp only [tc,List.extract_toArray,List.extract_eq_take_drop,List.drop_zero]
 rw [List.take_append_of_le_length (by simp [je]),List.take_of_length_le (by simp [je])]
theorem aM (v:Vd) (m:Md) (pk:Value):(tc v m pk).extract 35 39=(mx m).toArray:=by
 simp only [tc,List.extract_toArray,List.extract_eq_take_drop]
 rw [List.drop_append_of_le_length (by simp [je]),List.drop_of_length_le (by simp [je])]
 simp [mx]
def At (w:World):K→Value→Prop
 | .nil,u=>u=.pointer none
 | .node q p nm v m kids ah be,u=>u=.pointer (some ⟨q,0,none⟩)∧∃ pk pa pb,(Lies w q 0 (kc nm p pa pb (K.node q p nm v m kids ah be).flat.len (K.node q p nm v m kids ah be).flat.size (K.node q p nm v m kids ah be).flat.depth)∧Lies w p 0 (tc v m pk))∧At w kids pk∧At w ah pa∧At w be pb
def AtT (w:World) (p:Nat) (v:Vd) (m:Md) (k:K):Prop:=∃ pk,Lies w p 0 (tc v m pk)∧At w k pk
theorem At.grow {w w':World} (hg:G w w'):∀ {k:K} {u:Value},At w k u→At w' k u
 | .nil,_,h=>h
 | .node _ _ _ _ _ _ _ _,_,⟨h1,pk,pa,pb,⟨h2,h3⟩,h4,h5,h6⟩=>⟨h1,pk,pa,pb,⟨hg.lies h2,hg.lies h3⟩,At.grow hg h4,At.grow hg h5,At.grow hg h6⟩
theorem AtT.grow {w w':World} {p:Nat} {v:Vd} {m:Md} {k:K} (hg:G w w') (h:AtT w p v m k):AtT w' p v m k:=by
 obtain ⟨pk,h1,h2⟩:=h
 exact ⟨pk,hg.lies h1,h2.grow hg⟩
theorem At.form {w:World} {k:K} {u:Value} (h:At w k u):∃ a,u=.pointer a:=by
 cases k with
 | nil=>exact ⟨none,h⟩
 | node=>exact ⟨_,h.1⟩
theorem jB {w:World} {g:Nat} {c:Array Value} (h:Lies w g 0 c) (j:Nat) (u:Value) (hj:c[j]?=some u):w.cell? ⟨g,j,none⟩=some u:=by
 have:=h j u hj
 rwa [Nat.zero_add] at this
theorem dC (k:K) (u:Value) (w:World) (h:At w k u):Calls Tryz.prog 149 #[u] w fun e w'=>e=.returned (.int .i64 k.flat.len)∧w'=w:=by
 cases k with
 | nil=>
  obtain rfl:=h
  go_enter Tryz.func149,Tryz.ntmps149
  go_wp2
  go_ret
  exact ⟨rfl,rfl⟩
 | node q p nm v m kids ah be=>
  obtain ⟨rfl,pk,pa,pb,⟨h2,h3⟩,_⟩:=h
  have c4:=jB h2 4 _ rfl
  generalize (K.node q p nm v m kids ah be).flat.len=n at *
  go_enter Tryz.func149,Tryz.ntmps149
  go_wp2
  go_ret
  exact ⟨rfl,rfl⟩
theorem am (k:K) (u:Value) (w:World) (h:At w k u):Calls Tryz.prog 44 #[u] w fun e w'=>e=.returned (.int .i64 k.flat.size)∧w'=w:=by
 cases k with
 | nil=>
  obtain rfl:=h
  go_enter Tryz.func44,Tryz.ntmps44
  go_wp2
  go_ret
  exact ⟨rfl,rfl⟩
 | node q p nm v m kids ah be=>
  obtain ⟨rfl,pk,pa,pb,⟨h2,h3⟩,_⟩:=h
  have c4:=jB h2 5 _ rfl
  generalize (K.node q p nm v m kids ah be).flat.size=n at *
  go_enter Tryz.func44,Tryz.ntmps44
  go_wp2
  go_ret
  exact ⟨rfl,rfl⟩
theorem ap (k:K) (u:Value) (w:World) (h:At w k u):Calls Tryz.prog 150 #[u] w fun e w'=>e=.returned (.int .i64 k.flat.depth)∧w'=w:=by
 cases k with
 | nil=>
  obtain rfl:=h
  go_enter Tryz.func150,Tryz.ntmps150
  go_wp2
  go_ret
  exact ⟨rfl,rfl⟩
 | node q p nm v m kids ah be=>
  obtain ⟨rfl,pk,pa,pb,⟨h2,h3⟩,_⟩:=h
  have c4:=jB h2 6 _ rfl
  generalize (K.node q p nm v m kids ah be).flat.depth=n at *
  go_enter Tryz.func150,Tryz.ntmps150
  go_wp2
  go_ret
  exact ⟨rfl,rfl⟩
theorem fL (a b:Nat) (w:World) (h:a+b≤9223372036854775807):Calls Tryz.prog 43 #[.int .i64 a,.int .i64 b] w fun e w'=>e=.returned (.int .i64 ((a+b:Nat):Int))∧w'=w:=by
 have h1:IntKind.i64.wrap (9223372036854775807-(b:Int))=9223372036854775807-(b:Int):=by rw [IntKind.wrap_i64];omega
 have h2:IntKind.i64.wrap ((a:Int)+(b:Int))=(a:Int)+(b:Int):=by rw [IntKind.wrap_i64];omega
 have h3:¬ (9223372036854775807-(b:Int)<(a:Int)):=by omega
 go_enter Tryz.func43,Tryz.ntmps43
 go_wp2
 go_ret
 exact ⟨by simp,rfl⟩
def qD (n s:Int):Bool:=decide ((n=0∧s=0)∨((1≤n∧n≤72057594037927935)∧(1≤s∧s≤72057594037927935)))
def jw:List Nat:=List.replicate 32 0
def jm (v:Vd):Bool:=
 if v.kind=1 then decide ((0≤v.mode∧v.mode≤8)∧v.size=0∧v.sum=jw)
 else if v.kind=2 then decide ((0≤v.mode∧v.mode≤8)∧(0≤v.size∧v.size≤1099511627775))
 else if v.kind=3 then decide (v.mode=0∧(1≤v.size∧v.size≤4095)) else false
def Md.zero:Md:=⟨0,0,0,0⟩
def ownE (v:Vd) (m:Md) (kids:Bool):Int:=
 if v.kind≠1∧v.kind≠2∧v.kind≠3 then 40 else if kids=true∧v.kind≠1 then 40 else if jm v=false then 41
 else if v.kind=2∧(qD m.n0 m.s0=false∨qD m.n1 m.s1=false) then 41 else if v.kind≠2∧m≠Md.zero then 41 else 0
theorem zu (n a b:Int) (w:World):Calls Tryz.prog 171 #[.int .i64 n,.int .i64 a,.int .i64 b] w fun e w'=>e=.returned (.bool (decide (a≤n∧n≤b)))∧w'=w:=by
 by_cases h1:a≤n
 ·by_cases h2:n≤b
  ·have hr:decide (a≤n∧n≤b)=true:=by simp [h1,h2]
   rw [hr]
   go_enter Tryz.func171,Tryz.ntmps171
   go_wp2
   go_ret
   exact ⟨rfl,rfl⟩
  ·have hr:decide (a≤n∧n≤b)=false:=by simp [h2]
   rw [hr]
   go_enter Tryz.func171,Tryz.ntmps171
   go_wp2
   go_ret
   exact ⟨rfl,rfl⟩
 ·have hr:decide (a≤n∧n≤b)=false:=by simp [h1]
  rw [hr]
  go_enter Tryz.func171,Tryz.ntmps171
  go_wp2
  go_ret
  exact ⟨rfl,rfl⟩
theorem aj {o:Oper} {a:Act} (x y:Operand) (ho:o.op=.binOp .eql 26 x y 26) (n s n' s':Int) (hx:a.eval x=.agg #[.int .i64 n,.int .i64 s]) (hy:a.eval y=.agg #[.int .i64 n',.int .i64 s']) (b:Bool) (hb:decide (n=n'∧s=s')=b) (w:World):
  (execOp a.eval o).run Tryz.prog w=.ok (.value (.bool b)) w:=by
 have h':(Op.equal 26 (.agg #[.int .i64 n,.int .i64 s]) (.agg #[.int .i64 n',.int .i64 s'])).run Tryz.prog w=.ok b w:=by rw [← hb];exact eq26 9998 n s n' s' w
 have hg:Tryz.prog.eqGuardType Tryz.prog.depth 26=false:=by kernel_rfl
 unfold execOp
 simp only [ho,hx,hy,eqGuard,binOp,Sem.run_bind]
 simp [Result.andThen,hg,h']
theorem aG (n s:Int) (w:World):Calls Tryz.prog 145 #[.agg #[.int .i64 n,.int .i64 s]] w fun e w'=>e=.returned (.bool (qD n s))∧G w w':=by
 have C:=fun W x=>zu x 1 72057594037927935 W
 have HG:Hid (G w (w.alloc (.cells #[.int .i64 n,.int .i64 s] 26))):=G.alloc _ _
 obtain ⟨b1,hb1⟩:∃ b,decide (n=0∧s=0)=b:=⟨_,rfl⟩
 have B1:=hid hb1
 obtain ⟨b2,hb2⟩:∃ b,decide (1≤n∧n≤72057594037927935)=b:=⟨_,rfl⟩
 obtain ⟨b3,hb3⟩:∃ b,decide (1≤s∧s≤72057594037927935)=b:=⟨_,rfl⟩
 have CA:=hid (fun W=>(by have:=C W n;rw [hb2] at this;exact this:Calls Tryz.prog 171 #[.int .i64 n,.int .i64 1,.int .i64 72057594037927935] W fun e w'=>e=.returned (.bool b2)∧w'=W))
 have CB:=hid (fun W=>(by have:=C W s;rw [hb3] at this;exact this:Calls Tryz.prog 171 #[.int .i64 s,.int .i64 1,.int .i64 72057594037927935] W fun e w'=>e=.returned (.bool b3)∧w'=W))
 obtain ⟨R,hR⟩:∃ R,qD n s=R:=⟨_,rfl⟩
 have HR:Hid (R=(b1||(b2&&b3))):=by
  show _=_
  rw [← hR,← hb1,← hb2,← hb3]
  unfold qD
  simp only [Bool.decide_or,Bool.decide_and]
 rw [hR]
 clear hb1 hb2 hb3 hR C
 cases b1 with
 | true=>
  go_enter Tryz.func145,Tryz.ntmps145
  go_wp2_with (with_reducible refine jA (.bool true) ?_ ?_;exact aj _ _ rfl n s 0 0 rfl rfl true B1.o _)
  go_ret
  exact ⟨by rw [HR.o];rfl,HG.o⟩
 | false=>
  cases b2 with
  | false=>
   go_enter Tryz.func145,Tryz.ntmps145
   go_wp2_with (first
    | (with_reducible refine jA (.bool false) ?_ ?_;exact aj _ _ rfl n s 0 0 rfl rfl false B1.o _)
    | (go_at_call 171;refine (CA.o _).mono ?_;rintro e w1 ⟨rfl,e1⟩;subst e1))
   go_ret
   exact ⟨by rw [HR.o];rfl,HG.o⟩
  | true=>
   go_enter Tryz.func145,Tryz.ntmps145
   go_wp2_with (first
    | (with_reducible refine jA (.bool false) ?_ ?_;exact aj _ _ rfl n s 0 0 rfl rfl false B1.o _)
    | (go_at_call_of 171 (Value.int .i64 n);refine (CA.o _).mono ?_;rintro e w1 ⟨rfl,e1⟩;subst e1)
    | (go_at_call 171;refine (CB.o _).mono ?_;rintro e w1 ⟨rfl,e1⟩;subst e1))
   go_ret
   exact ⟨by rw [HR.o];simp,HG.o⟩
theorem nY {o:Oper} {a:Act} (x y:Operand) (ho:o.op=.binOp .eql 22 x y 22) (X Y:Array Value) (hx:a.eval x=.agg X) (hy:a.eval y=.agg Y) (l m:List Nat) (hX:X=(l.map vb).toArray) (hY:Y=(m.map vb).toArray) (hl:l.length=32) (hm:m.length=32) (b:Bool) (hb:decide (l=m)=b) (w:World):
  (execOp a.eval o).run Tryz.prog w=.ok (.value (.bool b)) w:=by
 subst hX hY
 have h':(Op.equal 22 (.agg (l.map vb).toArray) (.agg (m.map vb).toArray)).run Tryz.prog w=.ok b w:=by rw [← hb];exact eq22 9998 l m hl hm w
 have hg:Tryz.prog.eqGuardType Tryz.prog.depth 22=false:=by kernel_rfl
 unfold execOp
 simp only [ho,hx,hy,eqGuard,binOp,Sem.run_bind]
 simp [Result.andThen,hg,h']
theorem qn {o:Oper} {a:Act} {w:World} (x:Operand) (ho:o.op=.load 22 x) (b off:Nat) (hx:a.eval x=.pointer (some ⟨b,off,none⟩)) (c:Array Value) (hs:c.size=32) (hc:Lies w b off c):(execOp a.eval o).run Tryz.prog w=.ok (.value (.agg c)) w:=
 jv 22 x ho b off hx c _ hc Tryz.underlying22 rfl (by rw [pA,hs])
theorem kF {o:Oper} {a:Act} (t:TypeId) (ho:o.op=.build t #[]) (c:Array Value) (hb:Tryz.prog.built t []=some c) (w:World):(execOp a.eval o).run Tryz.prog w=.ok (.value (.agg c)) w:=by
 unfold execOp
 simp only [ho]
 have h:=run_build (P:=Tryz.prog) w t #[] c hb
 simp only [Array.map_empty,Sem.run_bind,h,Result.andThen_ok,Sem.run_pure]
theorem built22:Tryz.prog.built 22 []=some (jw.map vb).toArray:=by kernel_rfl
theorem built27:Tryz.prog.built 27 []=some (mx Md.zero).toArray:=by kernel_rfl
theorem dP (v:Vd) (X:Array Value) (hX:X=(vx v).toArray) (w:World):Calls Tryz.prog 144 #[.agg X] w fun e w'=>e=.returned (.bool (jm v))∧G w w':=by
 have HG:Hid (G w (w.alloc (.cells X 24))):=G.alloc _ _
 have hl:=jW w X 24
 have c0:=jB hl 0 (.int .i64 v.kind) (by rw [hX];rfl)
 have c1:=jB hl 1 (.int .i64 v.mode) (by rw [hX];rfl)
 have c2:=jB hl 2 (.int .i64 v.size) (by rw [hX];rfl)
 have x0:X[0]?=some (.int .i64 v.kind):=by rw [hX];rfl
 have x1:X[1]?=some (.int .i64 v.mode):=by rw [hX];rfl
 have x2:X[2]?=some (.int .i64 v.size):=by rw [hX];rfl
 obtain ⟨S,hS⟩:∃ S,(v.sum.map vb).toArray=S:=⟨_,rfl⟩
 have HL:Hid (Lies (w.alloc (.cells X 24)) w.heap.size 3 S∧S.size=32∧S=(v.sum.map vb).toArray):=by
  refine ⟨?_,by rw [← hS];simp [v.len],hS.symm⟩
  have:=hl.part 3 (3+32)
  rw [hX,ud,hS] at this
  rw [hX]
  simpa using this
 obtain ⟨Z,hZ⟩:∃ Z,(jw.map vb).toArray=Z:=⟨_,rfl⟩
 have HZ:Hid (Tryz.prog.built 22 []=some Z∧Z=(jw.map vb).toArray):=⟨by rw [built22,hZ],hZ.symm⟩
 have HV:Hid (v.sum.length=32):=v.len
 obtain ⟨R,hR⟩:∃ R,jm v=R:=⟨_,rfl⟩
 rw [hR]
 have HR:Hid (jm v=R):=hR
 obtain ⟨b1,hb1⟩:∃ b,decide (0≤v.mode∧v.mode≤8)=b:=⟨_,rfl⟩
 obtain ⟨b2,hb2⟩:∃ b,decide (0≤v.size∧v.size≤1099511627775)=b:=⟨_,rfl⟩
 obtain ⟨b3,hb3⟩:∃ b,decide (1≤v.size∧v.size≤4095)=b:=⟨_,rfl⟩
 obtain ⟨b4,hb4⟩:∃ b,decide (v.sum=jw)=b:=⟨_,rfl⟩
 have CA:=hid (fun W=>(by have:=zu v.mode 0 8 W;rw [hb1] at this;exact this:Calls Tryz.prog 171 #[.int .i64 v.mode,.int .i64 0,.int .i64 8] W fun e w'=>e=.returned (.bool b1)∧w'=W))
 have CB:=hid (fun W=>(by have:=zu v.size 0 1099511627775 W;rw [hb2] at this;exact this:Calls Tryz.prog 171 #[.int .i64 v.size,.int .i64 0,.int .i64 1099511627775] W fun e w'=>e=.returned (.bool b2)∧w'=W))
 have CC:=hid (fun W=>(by have:=zu v.size 1 4095 W;rw [hb3] at this;exact this:Calls Tryz.prog 171 #[.int .i64 v.size,.int .i64 1,.int .i64 4095] W fun e w'=>e=.returned (.bool b3)∧w'=W))
 have HB:=hid (⟨hb1,hb2,hb3,hb4⟩:decide (0≤v.mode∧v.mode≤8)=b1∧decide (0≤v.size∧v.size≤1099511627775)=b2∧decide (1≤v.size∧v.size≤4095)=b3∧decide (v.sum=jw)=b4)
 clear hR hb1 hb2 hb3 hb4 hZ hS hl hX
 obtain ⟨kd,hkd⟩:∃ k,v.kind=k:=⟨_,rfl⟩
 obtain ⟨md,hmd⟩:∃ k,v.mode=k:=⟨_,rfl⟩
 obtain ⟨sz,hsz⟩:∃ k,v.size=k:=⟨_,rfl⟩
 have HK:Hid (v.kind=kd∧v.mode=md∧v.size=sz):=⟨hkd,hmd,hsz⟩
 rw [hkd] at c0 x0
 rw [hmd] at c1 x1 CA
 rw [hsz] at c2 x2 CB CC
 clear hkd hmd hsz
 by_cases k1:kd=1
 ·subst k1
  cases b1 with
  | false=>
   have HF:Hid (R=false):=by
    show _=_
    have h:=HB.o.1
    rw [← HR.o,jm,if_pos HK.o.1]
    simp only [Bool.decide_and] at h ⊢
    rw [h];rfl
   go_enter Tryz.func144,Tryz.ntmps144
   go_wp2_with (go_at_call 171;refine (CA.o _).mono ?_;rintro e w1 ⟨rfl,e1⟩;subst e1)
   go_ret
   exact ⟨by rw [HF.o];rfl,HG.o⟩
  | true=>
   by_cases s0:sz=0
   ·subst s0
    have HF:Hid (R=b4):=by
     show _=_
     have h:=HB.o.1
     rw [← HR.o,jm,if_pos HK.o.1,← HB.o.2.2.2]
     simp only [Bool.decide_and] at h ⊢
     rw [h,HK.o.2.2];simp
    have HB4:Hid (decide (v.sum=jw)=b4):=HB.o.2.2.2
    go_enter Tryz.func144,Tryz.ntmps144
    go_wp2_with (first
     | (go_at_call 171;refine (CA.o _).mono ?_;rintro e w1 ⟨rfl,e1⟩;subst e1)
     | (with_reducible refine jA (.agg S) ?_ ?_;exact qn _ rfl w.heap.size 3 rfl S HL.o.2.1 HL.o.1)
     | (with_reducible refine jA (.agg Z) ?_ ?_;exact kF 22 rfl Z HZ.o.1 _)
     | (with_reducible refine jA (.bool b4) ?_ ?_;exact nY _ _ rfl S Z rfl rfl v.sum jw HL.o.2.2 HZ.o.2 HV.o rfl b4 HB4.o _))
    go_ret
    exact ⟨by rw [HF.o];rfl,HG.o⟩
   ·have HF:Hid (R=false):=by
     show _=_
     rw [← HR.o,jm,if_pos HK.o.1,HK.o.2.2]
     simp [s0]
    have s1:(sz==0)=false:=by simpa using s0
    clear s0
    go_enter Tryz.func144,Tryz.ntmps144
    go_wp2_with (go_at_call 171;refine (CA.o _).mono ?_;rintro e w1 ⟨rfl,e1⟩;subst e1)
    go_ret
    exact ⟨by rw [HF.o];rfl,HG.o⟩
 ·have k1':(kd==1)=false:=by simpa using k1
  by_cases k2:kd=2
  ·subst k2
   have HF:Hid (R=(b1&&b2)):=by
    show _=_
    rw [← HR.o,jm,if_neg (by rw [HK.o.1];exact k1),if_pos HK.o.1,← HB.o.1,← HB.o.2.1]
    simp only [Bool.decide_and]
   clear k1
   cases b1 with
   | false=>
    go_enter Tryz.func144,Tryz.ntmps144
    go_wp2_with (go_at_call 171;refine (CA.o _).mono ?_;rintro e w1 ⟨rfl,e1⟩;subst e1)
    go_ret
    exact ⟨by rw [HF.o];rfl,HG.o⟩
   | true=>
    go_enter Tryz.func144,Tryz.ntmps144
    go_wp2_with (first
     | (go_at_call_of 171 (Value.int .i64 8);refine (CA.o _).mono ?_;rintro e w1 ⟨rfl,e1⟩;subst e1)
     | (go_at_call 171;refine (CB.o _).mono ?_;rintro e w1 ⟨rfl,e1⟩;subst e1))
    go_ret
    exact ⟨by rw [HF.o];simp,HG.o⟩
  ·have k2':(kd==2)=false:=by simpa using k2
   by_cases k3:kd=3
   ·subst k3
    by_cases m0:md=0
    ·subst m0
     have HF:Hid (R=b3):=by
      show _=_
      rw [← HR.o,jm,if_neg (by rw [HK.o.1];exact k1),if_neg (by rw [HK.o.1];exact k2),if_pos HK.o.1,← HB.o.2.2.1,HK.o.2.1]
      simp
     clear k1 k2
     go_enter Tryz.func144,Tryz.ntmps144
     go_wp2_with (go_at_call 171;refine (CC.o _).mono ?_;rintro e w1 ⟨rfl,e1⟩;subst e1)
     go_ret
     exact ⟨by rw [HF.o];rfl,HG.o⟩
    ·have HF:Hid (R=false):=by
      show _=_
      rw [← HR.o,jm,if_neg (by rw [HK.o.1];exact k1),if_neg (by rw [HK.o.1];exact k2),if_pos HK.o.1,HK.o.2.1]
      simp [m0]
     have m0':(md==0)=false:=by simpa using m0
     clear k1 k2 m0
     go_enter Tryz.func144,Tryz.ntmps144
     go_wp2_with fail
     go_ret
     exact ⟨by rw [HF.o];rfl,HG.o⟩
   ·have k3':(kd==3)=false:=by simpa using k3
    have HF:Hid (R=false):=by
     show _=_
     rw [← HR.o,jm,if_neg (by rw [HK.o.1];exact k1),if_neg (by rw [HK.o.1];exact k2),if_neg (by rw [HK.o.1];exact k3)]
    clear k1 k2 k3
    go_enter Tryz.func144,Tryz.ntmps144
    go_wp2_with fail
    go_ret
    exact ⟨by rw [HF.o];rfl,HG.o⟩
end Go.Proofs.YtjikkhbcbfpocaaGreatDoor
