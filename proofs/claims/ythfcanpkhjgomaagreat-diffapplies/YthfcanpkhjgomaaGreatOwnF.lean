import Derived.Test.YthfcanpkhjgomaaGreatZ0
import Derived.Test.YthfcanpkhjgomaaGreatCount
set_option maxRecDepth 100000
set_option maxHeartbeats 1000000
namespace Go.Proofs.YthfcanpkhjgomaaGreat
open Go.RowKit
theorem qE {w w':World} {a:Addr} {v:Value} (h:Below w.heap.size w w') (hc:w.cell? a=some v):w'.cell? a=some v:=(h.cell (World.block_lt_of_cell? w _ hc)).trans hc
theorem two_boxes (w:World) (c d:Array Value):Lies ((w.alloc (.cells c 30)).alloc (.cells d 30)) w.heap.size 0 c∧Lies ((w.alloc (.cells c 30)).alloc (.cells d 30)) (w.heap.size+1) 0 d:=by
 constructor
 ·exact (jh w c 30).below ((Below.refl _ _).alloc (Nat.le_refl _) _)
 ·have:=jh (w.alloc (.cells c 30)) d 30
  rw [World.size_alloc] at this
  exact this
def F.okL (f:F):Prop:=f.size≤9223372036854775807
def EqualOk (ks:F):Prop:=∀ (nm nm':ByteArray) (v v':Vd) (m m':Md) (ks':F) (c d:Array Value) (w:World),HasN w c nm v m ks→HasN w d nm' v' m' ks'→ks.okL→ks'.okL→
  Calls Tryz.prog 15 #[.agg c,.agg d] w fun e w'=>e=.returned (.bool (decide (v=v'∧m=m'∧ks=ks')))∧Below w.heap.size w w'
theorem equal_any:∀ (N:Nat) (ks:F),ks.size<N→EqualOk ks:=by
 intro N
 induction N with
 | zero=>intro f h;omega
 | succ N ih=>
  intro ks hN nm nm' v v' m m' ks' c d w ⟨kv,hc,hS⟩ ⟨kv',hd,hS'⟩ hl hl'
  obtain ⟨L,hL⟩:∃ L,ks.len=L:=⟨_,rfl⟩
  obtain ⟨L',hL'⟩:∃ L',ks'.len=L':=⟨_,rfl⟩
  obtain ⟨a,cap,rfl,_⟩:=hS.form
  obtain ⟨a',cap',rfl,_⟩:=hS'.form
  have HOK:Hid (ks.okL∧ks'.okL):=⟨hl,hl'⟩
  replace hl:L≤9223372036854775807:=by have:=ks.len_le_size;unfold F.okL at hl;omega
  replace hl':L'≤9223372036854775807:=by have:=ks'.len_le_size;unfold F.okL at hl';omega
  obtain ⟨R,hR⟩:∃ R,decide (v=v'∧m=m'∧ks=ks')=R:=⟨_,rfl⟩
  rw [hR]
  have HRR:Hid (decide (v=v'∧m=m'∧ks=ks')=R):=hR
  clear hR
  have TB:=two_boxes w c d
  have B1:Below w.heap.size w ((w.alloc (.cells c 30)).alloc (.cells d 30)):=((Below.refl _ w).alloc (Nat.le_refl _) _).alloc (by simp) _
  obtain ⟨H,hH⟩:∃ H,w.heap.size=H:=⟨_,rfl⟩
  have HH:Hid (w.heap.size=H):=hH
  have HL:Hid (ks.len=L):=hL
  have HL':Hid (ks'.len=L'):=hL'
  have HS:Hid (HasS w (.slice a L cap) ks):=by rw [hL] at hS;exact hS
  have HS':Hid (HasS w (.slice a' L' cap') ks'):=by rw [hL'] at hS';exact hS'
  have HC:Hid (c=nc nm v m (.slice a L cap)):=by rw [hL] at hc;exact hc
  have HD:Hid (d=nc nm' v' m' (.slice a' L' cap')):=by rw [hL'] at hd;exact hd
  clear hL hL' hS hS' hc hd hH
  go_enter Tryz.func15,Tryz.ntmps15
  go_upto_region 1 with fail
  generalize (w.alloc (.cells c 30)).alloc (.cells d 30)=w1 at *
  rw [HH.out] at TB ⊢
  have LC:Lies w1 H 0 (nc nm v m (.slice a L cap)):=by rw [← HC.out];exact TB.1
  have LD:Lies w1 (H+1) 0 (nc nm' v' m' (.slice a' L' cap')):=by rw [← HD.out];exact TB.2
  have HB:Hid (Below w.heap.size w w1):=B1
  obtain ⟨X,hX⟩:∃ X,(vx v).toArray=X:=⟨_,rfl⟩
  obtain ⟨X',hX'⟩:∃ X,(vx v').toArray=X:=⟨_,rfl⟩
  obtain ⟨M,hM⟩:∃ X,(mx m).toArray=X:=⟨_,rfl⟩
  obtain ⟨M',hM'⟩:∃ X,(mx m').toArray=X:=⟨_,rfl⟩
  have h40:=lies_kids LC
  have h40':=lies_kids LD
  rw [Nat.zero_add] at h40 h40'
  have E:Hid ((Lies w1 H 1 X∧X.size=35)∧(Lies w1 (H+1) 1 X'∧X'.size=35)∧(Lies w1 H 36 M∧M.size=4)∧(Lies w1 (H+1) 36 M'∧M'.size=4)):=by
   subst hX hX' hM hM'
   exact ⟨⟨lies_val LC,by simp [jQ]⟩,⟨lies_val LD,by simp [jQ]⟩,⟨qL LC,by simp [ji]⟩,⟨qL LD,by simp [ji]⟩⟩
  have HX:Hid (X=(vx v).toArray∧X'=(vx v').toArray∧M=(mx m).toArray∧M'=(mx m').toArray):=⟨hX.symm,hX'.symm,hM.symm,hM'.symm⟩
  clear hX hX' hM hM' LC LD TB B1
  by_cases hv:v=v'
  ·have B1:Hid ((!decide (v=v'))=false):=by show _=_;simp [hv]
   by_cases hm:m=m'
   ·have B2:Hid ((!decide (m=m'))=false):=by show _=_;simp [hm]
    by_cases hLL:L=L'
    ·have HR:Hid (R=decide (ks=ks')):=by show _=_;rw [← HRR.out];simp [hv,hm]
     clear hv hm
     subst hLL
     go_wp2_with (first
      | (with_reducible refine jA (.agg X) ?_ ?_ ?_;exact jE _ rfl H 1 rfl X E.out.1.2 E.out.1.1;kernel_rfl)
      | (with_reducible refine jA (.agg X') ?_ ?_ ?_;exact jE _ rfl (H+1) 1 rfl X' E.out.2.1.2 E.out.2.1.1;kernel_rfl)
      | (with_reducible refine jA (.bool false) ?_ ?_ ?_;exact jd _ _ rfl X X' rfl rfl v v' HX.out.1 HX.out.2.1 false B1.out _;kernel_rfl)
      | (with_reducible refine jA (.agg M) ?_ ?_ ?_;exact jO _ rfl H 36 rfl M E.out.2.2.1.2 E.out.2.2.1.1;kernel_rfl)
      | (with_reducible refine jA (.agg M') ?_ ?_ ?_;exact jO _ rfl (H+1) 36 rfl M' E.out.2.2.2.2 E.out.2.2.2.1;kernel_rfl)
      | (with_reducible refine jA (.bool false) ?_ ?_ ?_;exact jn _ _ rfl M M' rfl rfl m m' HX.out.2.2.1 HX.out.2.2.2 false B2.out _;kernel_rfl))
     clear E HX B1 B2
     have HIH:Hid (∀ ks:F,ks.size<N→EqualOk ks):=ih
     clear ih
     go_loopw [5] (fun i wr=>∃ k:Nat,i=.int .i64 k∧k≤L∧wr.cell? ⟨H,40,none⟩=some (.slice a L cap)∧wr.cell? ⟨H+1,40,none⟩=some (.slice a' L cap')∧Hid ((ks=ks'↔ks.drop k=ks'.drop k)∧Below w.heap.size w wr)) (fun i _=>L-iOf i)
     case atStart=>exact ⟨0,rfl,Nat.zero_le _,h40,h40',by rw [F.drop_zero,F.drop_zero],HB.out⟩
     case round=>
      obtain ⟨k,rfl,hk,q1,q2,HI⟩:=hrel
      clear h40 h40'
      by_cases hlt:k<L
      ·have hltI:(k:Int)<(L:Int):=by omega
       obtain ⟨g,o,cp,nm1,v1,m1,ks1,c1,hv1,hd1,hN1,hc1⟩:=HS.out.at (k:=k) (by rw [HL.out];exact hlt)
       obtain ⟨g',o',cp',nm2,v2,m2,ks2,c2,hv2,hd2,hN2,hc2⟩:=HS'.out.at (k:=k) (by rw [HL'.out];exact hlt)
       obtain rfl:a=some ⟨g,o,none⟩:=by injection hv1
       obtain rfl:a'=some ⟨g',o',none⟩:=by injection hv2
       clear hv1 hv2
       have bw:=HI.out.2
       have n1:wr.cell? ⟨g,o+k*41,none⟩=some (.string nm1):=by
        obtain ⟨kv1,rfl,_⟩:=hN1
        have:=Lies.below hc1 bw 0 _ (nc_name ..)
        exact this
       have n2:wr.cell? ⟨g',o'+k*41,none⟩=some (.string nm2):=by
        obtain ⟨kv1,rfl,_⟩:=hN2
        have:=Lies.below hc2 bw 0 _ (nc_name ..)
        exact this
       by_cases hnn:nm1=nm2
       ·subst hnn
        have hks:=F.kids_size hd1
        have CE:=HIH.out ks1 (by omega) nm1 nm1 v1 v2 m1 m2 ks2 c1 c2
        have s1:c1.size=41:=by obtain ⟨kv1,rfl,_⟩:=hN1;exact jZ ..
        have s2:c2.size=41:=by obtain ⟨kv1,rfl,_⟩:=hN2;exact jZ ..
        have hl1:ks1.okL:=by have:=HOK.out.1;unfold F.okL at this ⊢;omega
        have hl2:ks2.okL:=by have:=HOK.out.2;have:=F.kids_size hd2;unfold F.okL at *;omega
        have HN1:Hid (∀ W,Below w.heap.size w W→HasN W c1 nm1 v1 m1 ks1):=fun W b=>hN1.below b
        have HN2:Hid (∀ W,Below w.heap.size w W→HasN W c2 nm1 v2 m2 ks2):=fun W b=>hN2.below b
        have HC1:Hid (∀ W,Below w.heap.size w W→Lies W g (o+k*41) c1):=fun W b=>Lies.below hc1 b
        have HC2:Hid (∀ W,Below w.heap.size w W→Lies W g' (o'+k*41) c2):=fun W b=>Lies.below hc2 b
        have HB2:Hid (Below w.heap.size w wr):=bw
        have HI1:Hid (ks=ks'↔ks.drop k=ks'.drop k):=HI.out.1
        have HD1:Hid (ks.drop k=F.cons nm1 v1 m1 ks1 (ks.drop (k+1))∧ks'.drop k=F.cons nm1 v2 m2 ks2 (ks'.drop (k+1))):=⟨hd1,hd2⟩
        have HCE:Hid (∀ W,Below w.heap.size w W→Calls Tryz.prog 15 #[.agg c1,.agg c2] W fun e w'=>e=.returned (.bool (decide (v1=v2∧m1=m2∧ks1=ks2)))∧Below W.heap.size W w'):=fun W b=>CE W (HN1.out W b) (HN2.out W b) hl1 hl2
        clear hd1 hd2 hN1 hN2 hc1 hc2 bw HI CE hks
        obtain ⟨b,hb⟩:∃ b,decide (v1=v2∧m1=m2∧ks1=ks2)=b:=⟨_,rfl⟩
        have HBB:Hid (decide (v1=v2∧m1=m2∧ks1=ks2)=b):=hb
        rw [hb] at HCE
        clear hb
        go_wp2_with fail
        have HST:Hid (∀ W W':World,(fun w'=>w'.cell? ⟨H,40,none⟩=some (.slice (some ⟨g,o,none⟩) L cap)∧w'.cell? ⟨H+1,40,none⟩=some (.slice (some ⟨g',o',none⟩) L cap')∧w'.cell? ⟨g,o+k*41,none⟩=some (.string nm1)∧w'.cell? ⟨g',o'+k*41,none⟩=some (.string nm1)∧Below w.heap.size w w') W→Below W.heap.size W W'→(fun w'=>w'.cell? ⟨H,40,none⟩=some (.slice (some ⟨g,o,none⟩) L cap)∧w'.cell? ⟨H+1,40,none⟩=some (.slice (some ⟨g',o',none⟩) L cap')∧w'.cell? ⟨g,o+k*41,none⟩=some (.string nm1)∧w'.cell? ⟨g',o'+k*41,none⟩=some (.string nm1)∧Below w.heap.size w w') W'):=fun W W' h b=>⟨qE b h.1,qE b h.2.1,qE b h.2.2.1,qE b h.2.2.2.1,h.2.2.2.2.trans (b.mono h.2.2.2.2.size)⟩
        refine wp_region_held_drew (S:=fun w'=>w'.cell? ⟨H,40,none⟩=some (.slice (some ⟨g,o,none⟩) L cap)∧w'.cell? ⟨H+1,40,none⟩=some (.slice (some ⟨g',o',none⟩) L cap')∧w'.cell? ⟨g,o+k*41,none⟩=some (.string nm1)∧w'.cell? ⟨g',o'+k*41,none⟩=some (.string nm1)∧Below w.heap.size w w') (by kernel_rfl) ⟨q1,q2,n1,n2,HB2.out.drew⟩ (fun hS=>?_)
        refine takeD 0 34 (.pointer (some ⟨H,40,none⟩)) hS rfl rfl (by kernel_rfl) (by kernel_rfl) (by kernel_rfl) (fun _ _ _ h=>h) (by kernel_rfl) (fun wz hz=>?_) ?_
        ·(try obtain ⟨z1,z2,z3,z4,z5⟩:=hz);go_simp
        try simp only [Act.put,sA,sB,sC]
        refine takeD 1 35 (.slice (some ⟨g,o,none⟩) L cap) hS rfl rfl (by kernel_rfl) (by kernel_rfl) (by kernel_rfl) (fun _ _ _ h=>h) (by kernel_rfl) (fun wz hz=>?_) ?_
        ·(try obtain ⟨z1,z2,z3,z4,z5⟩:=hz);go_simp
        try simp only [Act.put,sA,sB,sC]
        refine takeD 2 36 (.int .i64 k) hS rfl rfl (by kernel_rfl) (by kernel_rfl) (by kernel_rfl) (fun _ _ _ h=>h) (by kernel_rfl) (fun wz hz=>?_) ?_
        ·(try obtain ⟨z1,z2,z3,z4,z5⟩:=hz);go_simp
        try simp only [Act.put,sA,sB,sC]
        refine takeD 3 37 (.pointer (some ⟨g,o+k*41,none⟩)) hS rfl rfl (by kernel_rfl) (by kernel_rfl) (by kernel_rfl) (fun _ _ _ h=>h) (by kernel_rfl) (fun wz hz=>?_) ?_
        ·(try obtain ⟨z1,z2,z3,z4,z5⟩:=hz);go_simp
        try simp only [Act.put,sA,sB,sC]
        refine takeD 4 38 (.pointer (some ⟨g,o+k*41,none⟩)) hS rfl rfl (by kernel_rfl) (by kernel_rfl) (by kernel_rfl) (fun _ _ _ h=>h) (by kernel_rfl) (fun wz hz=>?_) ?_
        ·(try obtain ⟨z1,z2,z3,z4,z5⟩:=hz);go_simp
        try simp only [Act.put,sA,sB,sC]
        refine takeD 5 39 (.string nm1) hS rfl rfl (by kernel_rfl) (by kernel_rfl) (by kernel_rfl) (fun _ _ _ h=>h) (by kernel_rfl) (fun wz hz=>?_) ?_
        ·(try obtain ⟨z1,z2,z3,z4,z5⟩:=hz);go_simp
        try simp only [Act.put,sA,sB,sC]
        refine takeD 6 40 (.pointer (some ⟨H+1,40,none⟩)) hS rfl rfl (by kernel_rfl) (by kernel_rfl) (by kernel_rfl) (fun _ _ _ h=>h) (by kernel_rfl) (fun wz hz=>?_) ?_
        ·(try obtain ⟨z1,z2,z3,z4,z5⟩:=hz);go_simp
        try simp only [Act.put,sA,sB,sC]
        refine takeD 7 41 (.slice (some ⟨g',o',none⟩) L cap') hS rfl rfl (by kernel_rfl) (by kernel_rfl) (by kernel_rfl) (fun _ _ _ h=>h) (by kernel_rfl) (fun wz hz=>?_) ?_
        ·(try obtain ⟨z1,z2,z3,z4,z5⟩:=hz);go_simp
        try simp only [Act.put,sA,sB,sC]
        refine takeD 8 42 (.int .i64 k) hS rfl rfl (by kernel_rfl) (by kernel_rfl) (by kernel_rfl) (fun _ _ _ h=>h) (by kernel_rfl) (fun wz hz=>?_) ?_
        ·(try obtain ⟨z1,z2,z3,z4,z5⟩:=hz);go_simp
        try simp only [Act.put,sA,sB,sC]
        refine takeD 9 43 (.pointer (some ⟨g',o'+k*41,none⟩)) hS rfl rfl (by kernel_rfl) (by kernel_rfl) (by kernel_rfl) (fun _ _ _ h=>h) (by kernel_rfl) (fun wz hz=>?_) ?_
        ·(try obtain ⟨z1,z2,z3,z4,z5⟩:=hz);go_simp
        try simp only [Act.put,sA,sB,sC]
        refine takeD 10 44 (.pointer (some ⟨g',o'+k*41,none⟩)) hS rfl rfl (by kernel_rfl) (by kernel_rfl) (by kernel_rfl) (fun _ _ _ h=>h) (by kernel_rfl) (fun wz hz=>?_) ?_
        ·(try obtain ⟨z1,z2,z3,z4,z5⟩:=hz);go_simp
        try simp only [Act.put,sA,sB,sC]
        refine takeD 11 45 (.string nm1) hS rfl rfl (by kernel_rfl) (by kernel_rfl) (by kernel_rfl) (fun _ _ _ h=>h) (by kernel_rfl) (fun wz hz=>?_) ?_
        ·(try obtain ⟨z1,z2,z3,z4,z5⟩:=hz);go_simp
        try simp only [Act.put,sA,sB,sC]
        refine takeD 12 46 (.bool false) hS rfl rfl (by kernel_rfl) (by kernel_rfl) (by kernel_rfl) (fun _ _ _ h=>h) (by kernel_rfl) (fun wz hz=>?_) ?_
        ·(try obtain ⟨z1,z2,z3,z4,z5⟩:=hz);go_simp
        try simp only [Act.put,sA,sB,sC]
        refine takeD 13 47 (.bool false) hS rfl rfl (by kernel_rfl) (by kernel_rfl) (by kernel_rfl) (fun _ _ _ h=>h) (by kernel_rfl) (fun wz hz=>?_) ?_
        ·(try obtain ⟨z1,z2,z3,z4,z5⟩:=hz);go_simp
        try simp only [Act.put,sA,sB,sC]
        refine takeD 14 48 (.pointer (some ⟨H,40,none⟩)) hS rfl rfl (by kernel_rfl) (by kernel_rfl) (by kernel_rfl) (fun _ _ _ h=>h) (by kernel_rfl) (fun wz hz=>?_) ?_
        ·(try obtain ⟨z1,z2,z3,z4,z5⟩:=hz);go_simp
        try simp only [Act.put,sA,sB,sC]
        refine takeD 15 49 (.slice (some ⟨g,o,none⟩) L cap) hS rfl rfl (by kernel_rfl) (by kernel_rfl) (by kernel_rfl) (fun _ _ _ h=>h) (by kernel_rfl) (fun wz hz=>?_) ?_
        ·(try obtain ⟨z1,z2,z3,z4,z5⟩:=hz);go_simp
        try simp only [Act.put,sA,sB,sC]
        refine takeD 16 50 (.int .i64 k) hS rfl rfl (by kernel_rfl) (by kernel_rfl) (by kernel_rfl) (fun _ _ _ h=>h) (by kernel_rfl) (fun wz hz=>?_) ?_
        ·(try obtain ⟨z1,z2,z3,z4,z5⟩:=hz);go_simp
        try simp only [Act.put,sA,sB,sC]
        refine takeD 17 51 (.pointer (some ⟨g,o+k*41,none⟩)) hS rfl rfl (by kernel_rfl) (by kernel_rfl) (by kernel_rfl) (fun _ _ _ h=>h) (by kernel_rfl) (fun wz hz=>?_) ?_
        ·(try obtain ⟨z1,z2,z3,z4,z5⟩:=hz);go_simp
        try simp only [Act.put,sA,sB,sC]
        refine takeD 18 52 (.agg c1) hS rfl rfl (by kernel_rfl) (by kernel_rfl) (by kernel_rfl) (fun _ _ _ h=>h) (by kernel_rfl) (fun wz hz=>?_) ?_
        ·exact jH _ rfl g (o+k*41) rfl c1 s1 (HC1.out wz hz.2.2.2.2)
        try simp only [Act.put,sA,sB,sC]
        refine takeD 19 53 (.pointer (some ⟨H+1,40,none⟩)) hS rfl rfl (by kernel_rfl) (by kernel_rfl) (by kernel_rfl) (fun _ _ _ h=>h) (by kernel_rfl) (fun wz hz=>?_) ?_
        ·(try obtain ⟨z1,z2,z3,z4,z5⟩:=hz);go_simp
        try simp only [Act.put,sA,sB,sC]
        refine takeD 20 54 (.slice (some ⟨g',o',none⟩) L cap') hS rfl rfl (by kernel_rfl) (by kernel_rfl) (by kernel_rfl) (fun _ _ _ h=>h) (by kernel_rfl) (fun wz hz=>?_) ?_
        ·(try obtain ⟨z1,z2,z3,z4,z5⟩:=hz);go_simp
        try simp only [Act.put,sA,sB,sC]
        refine takeD 21 55 (.int .i64 k) hS rfl rfl (by kernel_rfl) (by kernel_rfl) (by kernel_rfl) (fun _ _ _ h=>h) (by kernel_rfl) (fun wz hz=>?_) ?_
        ·(try obtain ⟨z1,z2,z3,z4,z5⟩:=hz);go_simp
        try simp only [Act.put,sA,sB,sC]
        refine takeD 22 56 (.pointer (some ⟨g',o'+k*41,none⟩)) hS rfl rfl (by kernel_rfl) (by kernel_rfl) (by kernel_rfl) (fun _ _ _ h=>h) (by kernel_rfl) (fun wz hz=>?_) ?_
        ·(try obtain ⟨z1,z2,z3,z4,z5⟩:=hz);go_simp
        try simp only [Act.put,sA,sB,sC]
        refine takeD 23 57 (.agg c2) hS rfl rfl (by kernel_rfl) (by kernel_rfl) (by kernel_rfl) (fun _ _ _ h=>h) (by kernel_rfl) (fun wz hz=>?_) ?_
        ·exact jH _ rfl g' (o'+k*41) rfl c2 s2 (HC2.out wz hz.2.2.2.2)
        try simp only [Act.put,sA,sB,sC]
        refine wpAnyH_ready (rs:=[24]) (by kernel_rfl) (by simp) ?_
        refine AllReadyH.cons rfl (fun K hK=>?_) AllReadyH.nil
        rw [if_pos (by kernel_rfl)]
        go_simp
        refine (HCE.out _ hS.2.2.2.2).mono ?_
        rintro e w2 ⟨rfl,b2⟩
        have hS2:=HST.out _ _ hS b2
        refine hK.out _ _ hS2 (fun hS=>?_)
        clear hK
        refine takeD 25 59 (.bool (!b)) hS rfl rfl (by kernel_rfl) (by kernel_rfl) (by kernel_rfl) (fun _ _ _ h=>h) (by kernel_rfl) (fun wz hz=>?_) ?_
        ·(try obtain ⟨z1,z2,z3,z4,z5⟩:=hz);go_simp
        try simp only [Act.put,sA,sB,sC]
        refine takeD 26 60 (.bool (!b)) hS rfl rfl (by kernel_rfl) (by kernel_rfl) (by kernel_rfl) (fun _ _ _ h=>h) (by kernel_rfl) (fun wz hz=>?_) ?_
        ·(try obtain ⟨z1,z2,z3,z4,z5⟩:=hz);go_simp
        try simp only [Act.put,sA,sB,sC]
        refine wpAnyH_done (by kernel_rfl) ?_ _
        have HB3:Hid (Below w.heap.size w w2):=hS.2.2.2.2
        have k0:=hS.1
        have k1:=hS.2.1
        clear hS hS2 b2 HST
        cases b with
        | false=>
         have HF:Hid (decide (ks=ks')=false):=by
          show _=_
          rw [decide_eq_false_iff_not,HI1.out,HD1.out.1,HD1.out.2]
          intro e
          injection e with _ e2 e3 e4
          have:=HBB.out
          rw [decide_eq_false_iff_not] at this
          exact this ⟨e2,e3,e4⟩
         go_wp2_with fail
         go_ret
         exact ⟨by rw [HR.out,HF.out];rfl,HB3.out⟩
        | true=>
         have HI3:Hid (ks=ks'↔ks.drop (k+1)=ks'.drop (k+1)):=by
          show _↔_
          have:=HBB.out
          rw [decide_eq_true_eq] at this
          obtain ⟨rfl,rfl,rfl⟩:=this
          rw [HI1.out,HD1.out.1,HD1.out.2]
          simp
         go_wp2_with fail
         go_roundw
         case rel=>exact ⟨k+1,by go_num,by omega,k0,k1,HI3.out,HB3.out⟩
         case measure=>simp;omega
       ·have b1:(nm1.toList==nm2.toList)=false:=by
         have:¬ nm1.toList=nm2.toList:=fun e=>hnn (ext_of _ _ e)
         simpa using this
        have HF:Hid (decide (ks=ks')=false):=by
         show _=_
         rw [decide_eq_false_iff_not,HI.out.1,hd1,hd2]
         intro e
         injection e with e1
         exact hnn e1
        have HB2:Hid (Below w.heap.size w wr):=bw
        clear hd1 hd2 hN1 hN2 hc1 hc2 bw HI hnn
        go_wp2_with fail
        go_region
        go_wp2_with fail
        go_ret
        exact ⟨by rw [HR.out,HF.out];rfl,(HB2.out).drew⟩
      ·have hltI:¬ (k:Int)<(L:Int):=by omega
       have HF:Hid (decide (ks=ks')=true):=by
        show _=_
        rw [decide_eq_true_eq,HI.out.1,F.drop_all ks k (by rw [HL.out];omega),F.drop_all ks' k (by rw [HL'.out];omega)]
       have HB2:Hid (Below w.heap.size w wr):=HI.out.2
       clear HI
       go_wp2_with fail
       go_ret
       exact ⟨by rw [HR.out,HF.out];rfl,HB2.out⟩
    ·have b3:(!decide ((L:Int)=(L':Int)))=true:=by simp;omega
     have b4:¬ (L:Int)=(L':Int):=by omega
     have HR:Hid (R=false):=by
      show _=_
      rw [← HRR.out]
      simp only [decide_eq_false_iff_not]
      rintro ⟨_,_,e⟩
      apply hLL
      rw [← HL.out,← HL'.out,e]
     clear hv hm hLL
     go_wp2_with (first
      | (with_reducible refine jA (.agg X) ?_ ?_ ?_;exact jE _ rfl H 1 rfl X E.out.1.2 E.out.1.1;kernel_rfl)
      | (with_reducible refine jA (.agg X') ?_ ?_ ?_;exact jE _ rfl (H+1) 1 rfl X' E.out.2.1.2 E.out.2.1.1;kernel_rfl)
      | (with_reducible refine jA (.bool false) ?_ ?_ ?_;exact jd _ _ rfl X X' rfl rfl v v' HX.out.1 HX.out.2.1 false B1.out _;kernel_rfl)
      | (with_reducible refine jA (.agg M) ?_ ?_ ?_;exact jO _ rfl H 36 rfl M E.out.2.2.1.2 E.out.2.2.1.1;kernel_rfl)
      | (with_reducible refine jA (.agg M') ?_ ?_ ?_;exact jO _ rfl (H+1) 36 rfl M' E.out.2.2.2.2 E.out.2.2.2.1;kernel_rfl)
      | (with_reducible refine jA (.bool false) ?_ ?_ ?_;exact jn _ _ rfl M M' rfl rfl m m' HX.out.2.2.1 HX.out.2.2.2 false B2.out _;kernel_rfl))
     go_ret
     exact ⟨by rw [HR.out];rfl,HB.out⟩
   ·have B2:Hid ((!decide (m=m'))=true):=by show _=_;simp [hm]
    have HR:Hid (R=false):=by show _=_;rw [← HRR.out];simp [hm]
    clear hv hm
    go_wp2_with (first
     | (with_reducible refine jA (.agg X) ?_ ?_ ?_;exact jE _ rfl H 1 rfl X E.out.1.2 E.out.1.1;kernel_rfl)
     | (with_reducible refine jA (.agg X') ?_ ?_ ?_;exact jE _ rfl (H+1) 1 rfl X' E.out.2.1.2 E.out.2.1.1;kernel_rfl)
     | (with_reducible refine jA (.bool false) ?_ ?_ ?_;exact jd _ _ rfl X X' rfl rfl v v' HX.out.1 HX.out.2.1 false B1.out _;kernel_rfl)
     | (with_reducible refine jA (.agg M) ?_ ?_ ?_;exact jO _ rfl H 36 rfl M E.out.2.2.1.2 E.out.2.2.1.1;kernel_rfl)
     | (with_reducible refine jA (.agg M') ?_ ?_ ?_;exact jO _ rfl (H+1) 36 rfl M' E.out.2.2.2.2 E.out.2.2.2.1;kernel_rfl)
     | (with_reducible refine jA (.bool true) ?_ ?_ ?_;exact jn _ _ rfl M M' rfl rfl m m' HX.out.2.2.1 HX.out.2.2.2 true B2.out _;kernel_rfl))
    go_ret
    exact ⟨by rw [HR.out];rfl,HB.out⟩
  ·have B1:Hid ((!decide (v=v'))=true):=by show _=_;simp [hv]
   have HR:Hid (R=false):=by show _=_;rw [← HRR.out];simp [hv]
   clear hv
   go_wp2_with (first
    | (with_reducible refine jA (.agg X) ?_ ?_ ?_;exact jE _ rfl H 1 rfl X E.out.1.2 E.out.1.1;kernel_rfl)
    | (with_reducible refine jA (.agg X') ?_ ?_ ?_;exact jE _ rfl (H+1) 1 rfl X' E.out.2.1.2 E.out.2.1.1;kernel_rfl)
    | (with_reducible refine jA (.bool true) ?_ ?_ ?_;exact jd _ _ rfl X X' rfl rfl v v' HX.out.1 HX.out.2.1 true B1.out _;kernel_rfl))
   go_ret
   exact ⟨by rw [HR.out];rfl,HB.out⟩
theorem hid {p:Prop} (h:p):Hid p:=h
def F.depth:F→Nat
 | .nil=>0
 | .cons _ _ _ k r=>max (k.depth+1) r.depth
theorem F.app_size:∀ f g:F,(f.app g).size=f.size+g.size
 | .nil,g=>by simp [F.app,F.size]
 | .cons _ _ _ _ r,g=>by rw [F.app,F.size,F.app_size r g,F.size];omega
theorem F.app_depth:∀ f g:F,(f.app g).depth=max f.depth g.depth
 | .nil,g=>by simp [F.app,F.depth]
 | .cons _ _ _ _ r,g=>by rw [F.app,F.depth,F.app_depth r g,F.depth];omega
theorem F.app_weight:∀ f g:F,(f.app g).weight=f.weight+g.weight
 | .nil,g=>by simp [F.app,F.weight]
 | .cons _ _ _ _ r,g=>by rw [F.app,F.weight,F.app_weight r g,F.weight];omega
theorem F.size_le_weight:∀ f:F,f.size≤f.weight
 | .nil=>Nat.le_refl _
 | .cons _ _ _ k r=>by have:=F.size_le_weight k;have:=F.size_le_weight r;simp only [F.size,F.weight];omega
theorem F.depth_le_size:∀ f:F,f.depth≤f.size
 | .nil=>Nat.le_refl _
 | .cons _ _ _ k r=>by have:=F.depth_le_size k;have:=F.depth_le_size r;simp only [F.size,F.depth];omega
inductive K where
 | nil
 | node (q p:Nat) (nm:ByteArray) (v:Vd) (m:Md) (kids ahead behind:K)
def K.flat:K→F
 | .nil=>.nil
 | .node _ _ nm v m kids ah be=>ah.flat.app (.cons nm v m kids.flat be.flat)
def tc (v:Vd) (m:Md) (pk:Value):Array Value:=(vx v++(mx m++[pk])).toArray
def kc (nm:ByteArray) (p:Nat) (pa pb:Value) (n c d:Nat):Array Value:=#[.string nm,.pointer (some ⟨p,0,none⟩),pa,pb,.int .i64 n,.int .i64 c,.int .i64 d]
theorem tc_size (v:Vd) (m:Md) (pk:Value):(tc v m pk).size=40:=by simp [tc,jQ,ji]
theorem qK (v:Vd) (m:Md) (pk:Value):(tc v m pk)[39]?=some pk:=by
 simp only [tc,List.getElem?_toArray]
 rw [List.getElem?_append_right (by simp [jQ]),List.getElem?_append_right (by simp [jQ,ji])]
 simp [jQ,ji]
theorem tc_val (v:Vd) (m:Md) (pk:Value):(tc v m pk).extract 0 35=(vx v).toArray:=by
 simp only [tc,List.extract_toArray,List.extract_eq_take_drop,List.drop_zero]
 rw [List.take_append_of_le_length (by simp [jQ]),List.take_of_length_le (by simp [jQ])]
theorem tc_marks (v:Vd) (m:Md) (pk:Value):(tc v m pk).extract 35 39=(mx m).toArray:=by
 simp only [tc,List.extract_toArray,List.extract_eq_take_drop]
 rw [List.drop_append_of_le_length (by simp [jQ]),List.drop_of_length_le (by simp [jQ])]
 simp [mx]
def At (w:World):K→Value→Prop
 | .nil,u=>u=.pointer none
 | .node q p nm v m kids ah be,u=>u=.pointer (some ⟨q,0,none⟩)∧∃ pk pa pb,(Lies w q 0 (kc nm p pa pb (K.node q p nm v m kids ah be).flat.len (K.node q p nm v m kids ah be).flat.size (K.node q p nm v m kids ah be).flat.depth)∧Lies w p 0 (tc v m pk))∧At w kids pk∧At w ah pa∧At w be pb
def AtT (w:World) (p:Nat) (v:Vd) (m:Md) (k:K):Prop:=∃ pk,Lies w p 0 (tc v m pk)∧At w k pk
theorem At.grow {w w':World} (hg:G w w'):∀ {k:K} {u:Value},At w k u→At w' k u
 | .nil,_,h=>h
 | .node _ _ _ _ _ _ _ _,_,⟨h1,pk,pa,pb,⟨h2,h3⟩,h4,h5,h6⟩=>⟨h1,pk,pa,pb,⟨hg.lies h2,hg.lies h3⟩,At.grow hg h4,At.grow hg h5,At.grow hg h6⟩
theorem AtT.grow {w w':World} {p:Nat} {v:Vd} {m:Md} {k:K} (hg:G w w') (h:AtT w p v m k):AtT w' p v m k:=by
 obtain ⟨pk,h1,h2⟩:=h
 exact ⟨pk,hg.lies h1,h2.grow hg⟩
theorem At.form {w:World} {k:K} {u:Value} (h:At w k u):∃ a,u=.pointer a:=by
 cases k with
 | nil=>exact ⟨none,h⟩
 | node=>exact ⟨_,h.1⟩
theorem jG {w:World} {g:Nat} {c:Array Value} (h:Lies w g 0 c) (j:Nat) (u:Value) (hj:c[j]?=some u):w.cell? ⟨g,j,none⟩=some u:=by
 have:=h j u hj
 rwa [Nat.zero_add] at this
theorem many2_any (k:K) (u:Value) (w:World) (h:At w k u):Calls Tryz.prog 61 #[u] w fun e w'=>e=.returned (.int .i64 k.flat.len)∧w'=w:=by
 cases k with
 | nil=>
  obtain rfl:=h
  go_enter Tryz.func61,Tryz.ntmps61
  go_wp2
  go_ret
  exact ⟨rfl,rfl⟩
 | node q p nm v m kids ah be=>
  obtain ⟨rfl,pk,pa,pb,⟨h2,h3⟩,_⟩:=h
  have c4:=jG h2 4 _ rfl
  generalize (K.node q p nm v m kids ah be).flat.len=n at *
  go_enter Tryz.func61,Tryz.ntmps61
  go_wp2
  go_ret
  exact ⟨rfl,rfl⟩
theorem things_any (k:K) (u:Value) (w:World) (h:At w k u):Calls Tryz.prog 99 #[u] w fun e w'=>e=.returned (.int .i64 k.flat.size)∧w'=w:=by
 cases k with
 | nil=>
  obtain rfl:=h
  go_enter Tryz.func99,Tryz.ntmps99
  go_wp2
  go_ret
  exact ⟨rfl,rfl⟩
 | node q p nm v m kids ah be=>
  obtain ⟨rfl,pk,pa,pb,⟨h2,h3⟩,_⟩:=h
  have c4:=jG h2 5 _ rfl
  generalize (K.node q p nm v m kids ah be).flat.size=n at *
  go_enter Tryz.func99,Tryz.ntmps99
  go_wp2
  go_ret
  exact ⟨rfl,rfl⟩
theorem levels_any (k:K) (u:Value) (w:World) (h:At w k u):Calls Tryz.prog 118 #[u] w fun e w'=>e=.returned (.int .i64 k.flat.depth)∧w'=w:=by
 cases k with
 | nil=>
  obtain rfl:=h
  go_enter Tryz.func118,Tryz.ntmps118
  go_wp2
  go_ret
  exact ⟨rfl,rfl⟩
 | node q p nm v m kids ah be=>
  obtain ⟨rfl,pk,pa,pb,⟨h2,h3⟩,_⟩:=h
  have c4:=jG h2 6 _ rfl
  generalize (K.node q p nm v m kids ah be).flat.depth=n at *
  go_enter Tryz.func118,Tryz.ntmps118
  go_wp2
  go_ret
  exact ⟨rfl,rfl⟩
theorem addN_any (a b:Nat) (w:World) (h:a+b≤9223372036854775807):Calls Tryz.prog 98 #[.int .i64 a,.int .i64 b] w fun e w'=>e=.returned (.int .i64 ((a+b:Nat):Int))∧w'=w:=by
 have h1:IntKind.i64.wrap (9223372036854775807-(b:Int))=9223372036854775807-(b:Int):=by rw [IntKind.wrap_i64];omega
 have h2:IntKind.i64.wrap ((a:Int)+(b:Int))=(a:Int)+(b:Int):=by rw [IntKind.wrap_i64];omega
 have h3:¬ (9223372036854775807-(b:Int)<(a:Int)):=by omega
 go_enter Tryz.func98,Tryz.ntmps98
 go_wp2
 go_ret
 exact ⟨by simp,rfl⟩
def rightMB (n s:Int):Bool:=decide ((n=0∧s=0)∨((1≤n∧n≤72057594037927935)∧(1≤s∧s≤72057594037927935)))
def zeros:List Nat:=List.replicate 32 0
def rightVB (v:Vd):Bool:=
 if v.kind=1 then decide ((0≤v.mode∧v.mode≤8)∧v.size=0∧v.sum=zeros)
 else if v.kind=2 then decide ((0≤v.mode∧v.mode≤8)∧(0≤v.size∧v.size≤1099511627775))
 else if v.kind=3 then decide (v.mode=0∧(1≤v.size∧v.size≤4095)) else false
def Md.zero:Md:=⟨0,0,0,0⟩
def ownE (v:Vd) (m:Md) (kids:Bool):Int:=
 if v.kind≠1∧v.kind≠2∧v.kind≠3 then 40 else if kids=true∧v.kind≠1 then 40 else if rightVB v=false then 41
 else if v.kind=2∧(rightMB m.n0 m.s0=false∨rightMB m.n1 m.s1=false) then 41 else if v.kind≠2∧m≠Md.zero then 41 else 0
theorem within_any (n a b:Int) (w:World):Calls Tryz.prog 155 #[.int .i64 n,.int .i64 a,.int .i64 b] w fun e w'=>e=.returned (.bool (decide (a≤n∧n≤b)))∧w'=w:=by
 by_cases h1:a≤n
 ·by_cases h2:n≤b
  ·have hr:decide (a≤n∧n≤b)=true:=by simp [h1,h2]
   rw [hr]
   go_enter Tryz.func155,Tryz.ntmps155
   go_wp2
   go_ret
   exact ⟨rfl,rfl⟩
  ·have hr:decide (a≤n∧n≤b)=false:=by simp [h2]
   rw [hr]
   go_enter Tryz.func155,Tryz.ntmps155
   go_wp2
   go_ret
   exact ⟨rfl,rfl⟩
 ·have hr:decide (a≤n∧n≤b)=false:=by simp [h1]
  rw [hr]
  go_enter Tryz.func155,Tryz.ntmps155
  go_wp2
  go_ret
  exact ⟨rfl,rfl⟩
theorem exec_eq26' {o:Oper} {a:Act} (x y:Operand) (ho:o.op=.binOp .eql 26 x y 26) (n s n' s':Int) (hx:a.eval x=.agg #[.int .i64 n,.int .i64 s]) (hy:a.eval y=.agg #[.int .i64 n',.int .i64 s']) (b:Bool) (hb:decide (n=n'∧s=s')=b) (w:World):
  (execOp a.eval o).run Tryz.prog w=.ok (.value (.bool b)) w:=by
 have h':(Op.equal 26 (.agg #[.int .i64 n,.int .i64 s]) (.agg #[.int .i64 n',.int .i64 s'])).run Tryz.prog w=.ok b w:=by rw [← hb];exact eq26 9998 n s n' s' w
 have hg:Tryz.prog.eqGuardType Tryz.prog.depth 26=false:=by kernel_rfl
 unfold execOp
 simp only [ho,hx,hy,eqGuard,binOp,Sem.run_bind]
 simp [Result.andThen,hg,h']
theorem rightMark_any (n s:Int) (w:World):Calls Tryz.prog 145 #[.agg #[.int .i64 n,.int .i64 s]] w fun e w'=>e=.returned (.bool (rightMB n s))∧G w w':=by
 have C:=fun W x=>within_any x 1 72057594037927935 W
 have HG:Hid (G w (w.alloc (.cells #[.int .i64 n,.int .i64 s] 26))):=G.alloc _ _
 obtain ⟨b1,hb1⟩:∃ b,decide (n=0∧s=0)=b:=⟨_,rfl⟩
 have B1:=hid hb1
 obtain ⟨b2,hb2⟩:∃ b,decide (1≤n∧n≤72057594037927935)=b:=⟨_,rfl⟩
 obtain ⟨b3,hb3⟩:∃ b,decide (1≤s∧s≤72057594037927935)=b:=⟨_,rfl⟩
 have CA:=hid (fun W=>(by have:=C W n;rw [hb2] at this;exact this:Calls Tryz.prog 155 #[.int .i64 n,.int .i64 1,.int .i64 72057594037927935] W fun e w'=>e=.returned (.bool b2)∧w'=W))
 have CB:=hid (fun W=>(by have:=C W s;rw [hb3] at this;exact this:Calls Tryz.prog 155 #[.int .i64 s,.int .i64 1,.int .i64 72057594037927935] W fun e w'=>e=.returned (.bool b3)∧w'=W))
 obtain ⟨R,hR⟩:∃ R,rightMB n s=R:=⟨_,rfl⟩
 have HR:Hid (R=(b1||(b2&&b3))):=by
  show _=_
  rw [← hR,← hb1,← hb2,← hb3]
  unfold rightMB
  simp only [Bool.decide_or,Bool.decide_and]
 rw [hR]
 clear hb1 hb2 hb3 hR C
 cases b1 with
 | true=>
  go_enter Tryz.func145,Tryz.ntmps145
  go_wp2_with (with_reducible refine jA (.bool true) ?_ ?_ ?_;exact exec_eq26' _ _ rfl n s 0 0 rfl rfl true B1.out _;kernel_rfl)
  go_ret
  exact ⟨by rw [HR.out];rfl,HG.out⟩
 | false=>
  cases b2 with
  | false=>
   go_enter Tryz.func145,Tryz.ntmps145
   go_wp2_with (first
    | (with_reducible refine jA (.bool false) ?_ ?_ ?_;exact exec_eq26' _ _ rfl n s 0 0 rfl rfl false B1.out _;kernel_rfl)
    | (go_at_call 155;refine (CA.out _).mono ?_;rintro e w1 ⟨rfl,e1⟩;subst e1))
   go_ret
   exact ⟨by rw [HR.out];rfl,HG.out⟩
  | true=>
   go_enter Tryz.func145,Tryz.ntmps145
   go_wp2_with (first
    | (with_reducible refine jA (.bool false) ?_ ?_ ?_;exact exec_eq26' _ _ rfl n s 0 0 rfl rfl false B1.out _;kernel_rfl)
    | (go_at_call_of 155 (Value.int .i64 n);refine (CA.out _).mono ?_;rintro e w1 ⟨rfl,e1⟩;subst e1)
    | (go_at_call 155;refine (CB.out _).mono ?_;rintro e w1 ⟨rfl,e1⟩;subst e1))
   go_ret
   exact ⟨by rw [HR.out];simp,HG.out⟩
theorem exec_eq22' {o:Oper} {a:Act} (x y:Operand) (ho:o.op=.binOp .eql 22 x y 22) (X Y:Array Value) (hx:a.eval x=.agg X) (hy:a.eval y=.agg Y) (l m:List Nat) (hX:X=(l.map vb).toArray) (hY:Y=(m.map vb).toArray) (hl:l.length=32) (hm:m.length=32) (b:Bool) (hb:decide (l=m)=b) (w:World):
  (execOp a.eval o).run Tryz.prog w=.ok (.value (.bool b)) w:=by
 subst hX hY
 have h':(Op.equal 22 (.agg (l.map vb).toArray) (.agg (m.map vb).toArray)).run Tryz.prog w=.ok b w:=by rw [← hb];exact eq22 9998 l m hl hm w
 have hg:Tryz.prog.eqGuardType Tryz.prog.depth 22=false:=by kernel_rfl
 unfold execOp
 simp only [ho,hx,hy,eqGuard,binOp,Sem.run_bind]
 simp [Result.andThen,hg,h']
theorem exec_load22 {o:Oper} {a:Act} {w:World} (x:Operand) (ho:o.op=.load 22 x) (b off:Nat) (hx:a.eval x=.pointer (some ⟨b,off,none⟩)) (c:Array Value) (hs:c.size=32) (hc:Lies w b off c):(execOp a.eval o).run Tryz.prog w=.ok (.value (.agg c)) w:=
 exec_load 22 x ho b off hx c _ hc Tryz.underlying22 rfl (by rw [size22,hs])
theorem jR {o:Oper} {a:Act} (t:TypeId) (ho:o.op=.build t #[]) (c:Array Value) (hb:Tryz.prog.built t []=some c) (w:World):(execOp a.eval o).run Tryz.prog w=.ok (.value (.agg c)) w:=by
 unfold execOp
 simp only [ho]
 have h:=run_build (P:=Tryz.prog) w t #[] c hb
 simp only [Array.map_empty,Sem.run_bind,h,Result.andThen_ok,Sem.run_pure]
theorem built22:Tryz.prog.built 22 []=some (zeros.map vb).toArray:=by kernel_rfl
theorem built27:Tryz.prog.built 27 []=some (mx Md.zero).toArray:=by kernel_rfl
theorem rightValue_any (v:Vd) (X:Array Value) (hX:X=(vx v).toArray) (w:World):Calls Tryz.prog 144 #[.agg X] w fun e w'=>e=.returned (.bool (rightVB v))∧G w w':=by
 have HG:Hid (G w (w.alloc (.cells X 24))):=G.alloc _ _
 have hl:=jh w X 24
 have c0:=jG hl 0 (.int .i64 v.kind) (by rw [hX];rfl)
 have c1:=jG hl 1 (.int .i64 v.mode) (by rw [hX];rfl)
 have c2:=jG hl 2 (.int .i64 v.size) (by rw [hX];rfl)
 have x0:X[0]?=some (.int .i64 v.kind):=by rw [hX];rfl
 have x1:X[1]?=some (.int .i64 v.mode):=by rw [hX];rfl
 have x2:X[2]?=some (.int .i64 v.size):=by rw [hX];rfl
 obtain ⟨S,hS⟩:∃ S,(v.sum.map vb).toArray=S:=⟨_,rfl⟩
 have HL:Hid (Lies (w.alloc (.cells X 24)) w.heap.size 3 S∧S.size=32∧S=(v.sum.map vb).toArray):=by
  refine ⟨?_,by rw [← hS];simp [v.len],hS.symm⟩
  have:=hl.part 3 (3+32)
  rw [hX,vx_sum,hS] at this
  rw [hX]
  simpa using this
 obtain ⟨Z,hZ⟩:∃ Z,(zeros.map vb).toArray=Z:=⟨_,rfl⟩
 have HZ:Hid (Tryz.prog.built 22 []=some Z∧Z=(zeros.map vb).toArray):=⟨by rw [built22,hZ],hZ.symm⟩
 have HV:Hid (v.sum.length=32):=v.len
 obtain ⟨R,hR⟩:∃ R,rightVB v=R:=⟨_,rfl⟩
 rw [hR]
 have HR:Hid (rightVB v=R):=hR
 obtain ⟨b1,hb1⟩:∃ b,decide (0≤v.mode∧v.mode≤8)=b:=⟨_,rfl⟩
 obtain ⟨b2,hb2⟩:∃ b,decide (0≤v.size∧v.size≤1099511627775)=b:=⟨_,rfl⟩
 obtain ⟨b3,hb3⟩:∃ b,decide (1≤v.size∧v.size≤4095)=b:=⟨_,rfl⟩
 obtain ⟨b4,hb4⟩:∃ b,decide (v.sum=zeros)=b:=⟨_,rfl⟩
 have CA:=hid (fun W=>(by have:=within_any v.mode 0 8 W;rw [hb1] at this;exact this:Calls Tryz.prog 155 #[.int .i64 v.mode,.int .i64 0,.int .i64 8] W fun e w'=>e=.returned (.bool b1)∧w'=W))
 have CB:=hid (fun W=>(by have:=within_any v.size 0 1099511627775 W;rw [hb2] at this;exact this:Calls Tryz.prog 155 #[.int .i64 v.size,.int .i64 0,.int .i64 1099511627775] W fun e w'=>e=.returned (.bool b2)∧w'=W))
 have CC:=hid (fun W=>(by have:=within_any v.size 1 4095 W;rw [hb3] at this;exact this:Calls Tryz.prog 155 #[.int .i64 v.size,.int .i64 1,.int .i64 4095] W fun e w'=>e=.returned (.bool b3)∧w'=W))
 have HB:=hid (⟨hb1,hb2,hb3,hb4⟩:decide (0≤v.mode∧v.mode≤8)=b1∧decide (0≤v.size∧v.size≤1099511627775)=b2∧decide (1≤v.size∧v.size≤4095)=b3∧decide (v.sum=zeros)=b4)
 clear hR hb1 hb2 hb3 hb4 hZ hS hl hX
 obtain ⟨kd,hkd⟩:∃ k,v.kind=k:=⟨_,rfl⟩
 obtain ⟨md,hmd⟩:∃ k,v.mode=k:=⟨_,rfl⟩
 obtain ⟨sz,hsz⟩:∃ k,v.size=k:=⟨_,rfl⟩
 have HK:Hid (v.kind=kd∧v.mode=md∧v.size=sz):=⟨hkd,hmd,hsz⟩
 rw [hkd] at c0 x0
 rw [hmd] at c1 x1 CA
 rw [hsz] at c2 x2 CB CC
 clear hkd hmd hsz
 by_cases k1:kd=1
 ·subst k1
  cases b1 with
  | false=>
   have HF:Hid (R=false):=by
    show _=_
    have h:=HB.out.1
    rw [← HR.out,rightVB,if_pos HK.out.1]
    simp only [Bool.decide_and] at h ⊢
    rw [h];rfl
   go_enter Tryz.func144,Tryz.ntmps144
   go_wp2_with (go_at_call 155;refine (CA.out _).mono ?_;rintro e w1 ⟨rfl,e1⟩;subst e1)
   go_ret
   exact ⟨by rw [HF.out];rfl,HG.out⟩
  | true=>
   by_cases s0:sz=0
   ·subst s0
    have HF:Hid (R=b4):=by
     show _=_
     have h:=HB.out.1
     rw [← HR.out,rightVB,if_pos HK.out.1,← HB.out.2.2.2]
     simp only [Bool.decide_and] at h ⊢
     rw [h,HK.out.2.2];simp
    have HB4:Hid (decide (v.sum=zeros)=b4):=HB.out.2.2.2
    go_enter Tryz.func144,Tryz.ntmps144
    go_wp2_with (first
     | (go_at_call 155;refine (CA.out _).mono ?_;rintro e w1 ⟨rfl,e1⟩;subst e1)
     | (with_reducible refine jA (.agg S) ?_ ?_ ?_;exact exec_load22 _ rfl w.heap.size 3 rfl S HL.out.2.1 HL.out.1;kernel_rfl)
     | (with_reducible refine jA (.agg Z) ?_ ?_ ?_;exact jR 22 rfl Z HZ.out.1 _;kernel_rfl)
     | (with_reducible refine jA (.bool b4) ?_ ?_ ?_;exact exec_eq22' _ _ rfl S Z rfl rfl v.sum zeros HL.out.2.2 HZ.out.2 HV.out rfl b4 HB4.out _;kernel_rfl))
    go_ret
    exact ⟨by rw [HF.out];rfl,HG.out⟩
   ·have HF:Hid (R=false):=by
     show _=_
     rw [← HR.out,rightVB,if_pos HK.out.1,HK.out.2.2]
     simp [s0]
    have s1:(sz==0)=false:=by simpa using s0
    clear s0
    go_enter Tryz.func144,Tryz.ntmps144
    go_wp2_with (go_at_call 155;refine (CA.out _).mono ?_;rintro e w1 ⟨rfl,e1⟩;subst e1)
    go_ret
    exact ⟨by rw [HF.out];rfl,HG.out⟩
 ·have k1':(kd==1)=false:=by simpa using k1
  by_cases k2:kd=2
  ·subst k2
   have HF:Hid (R=(b1&&b2)):=by
    show _=_
    rw [← HR.out,rightVB,if_neg (by rw [HK.out.1];exact k1),if_pos HK.out.1,← HB.out.1,← HB.out.2.1]
    simp only [Bool.decide_and]
   clear k1
   cases b1 with
   | false=>
    go_enter Tryz.func144,Tryz.ntmps144
    go_wp2_with (go_at_call 155;refine (CA.out _).mono ?_;rintro e w1 ⟨rfl,e1⟩;subst e1)
    go_ret
    exact ⟨by rw [HF.out];rfl,HG.out⟩
   | true=>
    go_enter Tryz.func144,Tryz.ntmps144
    go_wp2_with (first
     | (go_at_call_of 155 (Value.int .i64 8);refine (CA.out _).mono ?_;rintro e w1 ⟨rfl,e1⟩;subst e1)
     | (go_at_call 155;refine (CB.out _).mono ?_;rintro e w1 ⟨rfl,e1⟩;subst e1))
    go_ret
    exact ⟨by rw [HF.out];simp,HG.out⟩
  ·have k2':(kd==2)=false:=by simpa using k2
   by_cases k3:kd=3
   ·subst k3
    by_cases m0:md=0
    ·subst m0
     have HF:Hid (R=b3):=by
      show _=_
      rw [← HR.out,rightVB,if_neg (by rw [HK.out.1];exact k1),if_neg (by rw [HK.out.1];exact k2),if_pos HK.out.1,← HB.out.2.2.1,HK.out.2.1]
      simp
     clear k1 k2
     go_enter Tryz.func144,Tryz.ntmps144
     go_wp2_with (go_at_call 155;refine (CC.out _).mono ?_;rintro e w1 ⟨rfl,e1⟩;subst e1)
     go_ret
     exact ⟨by rw [HF.out];rfl,HG.out⟩
    ·have HF:Hid (R=false):=by
      show _=_
      rw [← HR.out,rightVB,if_neg (by rw [HK.out.1];exact k1),if_neg (by rw [HK.out.1];exact k2),if_pos HK.out.1,HK.out.2.1]
      simp [m0]
     have m0':(md==0)=false:=by simpa using m0
     clear k1 k2 m0
     go_enter Tryz.func144,Tryz.ntmps144
     go_wp2_with fail
     go_ret
     exact ⟨by rw [HF.out];rfl,HG.out⟩
   ·have k3':(kd==3)=false:=by simpa using k3
    have HF:Hid (R=false):=by
     show _=_
     rw [← HR.out,rightVB,if_neg (by rw [HK.out.1];exact k1),if_neg (by rw [HK.out.1];exact k2),if_neg (by rw [HK.out.1];exact k3)]
    clear k1 k2 k3
    go_enter Tryz.func144,Tryz.ntmps144
    go_wp2_with fail
    go_ret
    exact ⟨by rw [HF.out];rfl,HG.out⟩
theorem boxes (w:World) (X M:Array Value):Lies ((w.alloc (.cells X 24)).alloc (.cells M 27)) w.heap.size 0 X∧Lies ((w.alloc (.cells X 24)).alloc (.cells M 27)) (w.heap.size+1) 0 M:=by
 constructor
 ·exact (jh w X 24).below ((Below.refl _ _).alloc (Nat.le_refl _) _)
 ·have:=jh (w.alloc (.cells X 24)) M 27
  rw [World.size_alloc] at this
  exact this
theorem ownFault_any (v:Vd) (m:Md) (kids:Bool) (X M:Array Value) (hX:X=(vx v).toArray) (hM:M=(mx m).toArray) (w:World):
  Calls Tryz.prog 131 #[.agg X,.agg M,.bool kids] w fun e w'=>e=.returned (.int .i64 (ownE v m kids))∧G w w':=by
 have HG:Hid (G w ((w.alloc (.cells X 24)).alloc (.cells M 27))):=(G.alloc w _).trans (G.alloc _ _)
 obtain ⟨lX,lM⟩:=boxes w X M
 have c0:=jG lX 0 (.int .i64 v.kind) (by rw [hX];rfl)
 have d0:=jG lM 0 (.int .i64 m.n0) (by rw [hM];rfl)
 have d1:=jG lM 1 (.int .i64 m.s0) (by rw [hM];rfl)
 have d2:=jG lM 2 (.int .i64 m.n1) (by rw [hM];rfl)
 have d3:=jG lM 3 (.int .i64 m.s1) (by rw [hM];rfl)
 have HX:Hid (Lies ((w.alloc (.cells X 24)).alloc (.cells M 27)) w.heap.size 0 X∧X.size=35∧Lies ((w.alloc (.cells X 24)).alloc (.cells M 27)) (w.heap.size+1) 0 M∧M.size=4∧M=(mx m).toArray):=⟨lX,by rw [hX];simp [jQ],lM,by rw [hM];simp [ji],hM⟩
 obtain ⟨Z,hZ⟩:∃ Z,(mx Md.zero).toArray=Z:=⟨_,rfl⟩
 have HZ:Hid (Tryz.prog.built 27 []=some Z∧Z=(mx Md.zero).toArray):=⟨by rw [built27,hZ],hZ.symm⟩
 have HE:=hid (rfl:ownE v m kids=ownE v m kids)
 obtain ⟨R,hR⟩:∃ R,ownE v m kids=R:=⟨_,rfl⟩
 rw [hR]
 have HR:Hid (ownE v m kids=R):=hR
 obtain ⟨b0,hb0⟩:∃ b,rightVB v=b:=⟨_,rfl⟩
 obtain ⟨b1,hb1⟩:∃ b,rightMB m.n0 m.s0=b:=⟨_,rfl⟩
 obtain ⟨b2,hb2⟩:∃ b,rightMB m.n1 m.s1=b:=⟨_,rfl⟩
 obtain ⟨b3,hb3⟩:∃ b,(!decide (m=Md.zero))=b:=⟨_,rfl⟩
 have HB:=hid (⟨hb0,hb1,hb2,hb3⟩:rightVB v=b0∧rightMB m.n0 m.s0=b1∧rightMB m.n1 m.s1=b2∧(!decide (m=Md.zero))=b3)
 have CR:=hid (fun W=>(by have:=rightValue_any v X hX W;rw [hb0] at this;exact this:Calls Tryz.prog 144 #[.agg X] W fun e w'=>e=.returned (.bool b0)∧G W w'))
 have CA:=hid (fun W=>(by have:=rightMark_any m.n0 m.s0 W;rw [hb1] at this;exact this:Calls Tryz.prog 145 #[.agg #[.int .i64 m.n0,.int .i64 m.s0]] W fun e w'=>e=.returned (.bool b1)∧G W w'))
 have CB:=hid (fun W=>(by have:=rightMark_any m.n1 m.s1 W;rw [hb2] at this;exact this:Calls Tryz.prog 145 #[.agg #[.int .i64 m.n1,.int .i64 m.s1]] W fun e w'=>e=.returned (.bool b2)∧G W w'))
 clear hR hb0 hb1 hb2 hb3 hZ lX lM hX hM HE
 obtain ⟨kd,hkd⟩:∃ k,v.kind=k:=⟨_,rfl⟩
 have HK:Hid (v.kind=kd):=hkd
 rw [hkd] at c0
 clear hkd
 obtain ⟨n0,e0⟩:∃ k,m.n0=k:=⟨_,rfl⟩
 obtain ⟨s0,e1⟩:∃ k,m.s0=k:=⟨_,rfl⟩
 obtain ⟨n1,e2⟩:∃ k,m.n1=k:=⟨_,rfl⟩
 obtain ⟨s1,e3⟩:∃ k,m.s1=k:=⟨_,rfl⟩
 rw [e0] at d0 CA
 rw [e1] at d1 CA
 rw [e2] at d2 CB
 rw [e3] at d3 CB
 clear e0 e1 e2 e3
 go_enter Tryz.func131,Tryz.ntmps131
 go_upto_region 1 with fail
 generalize hw1:(w.alloc (.cells X 24)).alloc (.cells M 27)=w1 at *
 generalize w.heap.size=H at *
 clear hw1
 have unfoldR:Hid (R=ownE v m kids):=HR.out.symm
 by_cases hA:kd≠1∧kd≠2∧kd≠3
 ·obtain ⟨a1,a2,a3⟩:=hA
  have HF:Hid (R=40):=by show _=_;rw [unfoldR.out,ownE,if_pos (by rw [HK.out];exact ⟨a1,a2,a3⟩)]
  have a1':(kd==1)=false:=by simpa using a1
  have a2':(kd==2)=false:=by simpa using a2
  have a3':(kd==3)=false:=by simpa using a3
  have f1:(kd != 1)=true:=by simpa using a1
  have f2:(kd != 2)=true:=by simpa using a2
  have f3:(kd != 3)=true:=by simpa using a3
  clear a1 a2 a3 a1' a2' a3'
  go_wp2_with fail
  go_ret
  exact ⟨by rw [HF.out];rfl,HG.out⟩
 ·have HA:Hid (¬ (v.kind≠1∧v.kind≠2∧v.kind≠3)):=by show ¬ _;rw [HK.out];exact hA
  by_cases hB:kids=true∧kd≠1
  ·obtain ⟨rfl,hk⟩:=hB
   have HF:Hid (R=40):=by show _=_;rw [unfoldR.out,ownE,if_neg HA.out,if_pos (by rw [HK.out];exact ⟨rfl,hk⟩)]
   have a1':(kd==1)=false:=by simpa using hk
   by_cases k2:kd=2
   ·subst k2
    clear hA hk
    go_wp2_with fail
    go_ret
    exact ⟨by rw [HF.out];rfl,HG.out⟩
   ·obtain rfl:kd=3:=by by_cases h3:kd=3;exact h3;exact absurd ⟨hk,k2,h3⟩ hA
    clear hA hk k2
    go_wp2_with fail
    go_ret
    exact ⟨by rw [HF.out];rfl,HG.out⟩
  ·have HBB:Hid (¬ (kids=true∧v.kind≠1)):=by show ¬ _;rw [HK.out];exact hB
   by_cases k1:kd=1
   ·subst k1
    clear hA hB
    cases kids with
    | false=>
     cases b0 with
     | false=>
      have HF:Hid (R=41):=by show _=_;rw [unfoldR.out,ownE,if_neg HA.out,if_neg HBB.out,if_pos HB.out.1]
      go_wp2_with (first
       | (with_reducible refine jA (.agg X) ?_ ?_ ?_;exact jE _ rfl H 0 rfl X HX.out.2.1 HX.out.1;kernel_rfl)
       | (go_at_call 144;refine (CR.out _).mono ?_;rintro e w2 ⟨rfl,g2⟩))
      go_ret
      exact ⟨by rw [HF.out];rfl,HG.out.trans g2⟩
     | true=>
      have HV:Hid (¬ rightVB v=false):=by show ¬ _;rw [HB.out.1];simp
      cases b3 with
      | false=>
       have HF:Hid (R=0):=by show _=_;rw [unfoldR.out,ownE,if_neg HA.out,if_neg HBB.out,if_neg HV.out,if_neg (by rw [HK.out];simp),if_neg (by have:=HB.out.2.2.2;simp at this;simp [this])]
       go_wp2_with (first
        | (with_reducible refine jA (.agg X) ?_ ?_ ?_;exact jE _ rfl H 0 rfl X HX.out.2.1 HX.out.1;kernel_rfl)
        | (go_at_call 144;refine (CR.out _).mono ?_;rintro e w2 ⟨rfl,g2⟩;have y0:=g2.cell c0;have y1:=g2.cell d0;have y2:=g2.cell d1;have y3:=g2.cell d2;have y4:=g2.cell d3;have HG2:Hid (G w w2∧Lies w2 (H+1) 0 M):=⟨HG.out.trans g2,g2.lies HX.out.2.2.1⟩;clear g2 c0 d0 d1 d2 d3)
        | (with_reducible refine jA (.agg M) ?_ ?_ ?_;exact jO _ rfl (H+1) 0 rfl M HX.out.2.2.2.1 HG2.out.2;kernel_rfl)
        | (with_reducible refine jA (.agg Z) ?_ ?_ ?_;exact jR 27 rfl Z HZ.out.1 _;kernel_rfl)
        | (with_reducible refine jA (.bool false) ?_ ?_ ?_;exact jn _ _ rfl M Z rfl rfl m Md.zero HX.out.2.2.2.2 HZ.out.2 false HB.out.2.2.2 _;kernel_rfl))
       go_ret
       exact ⟨by rw [HF.out];rfl,HG2.out.1⟩
      | true=>
       have HF:Hid (R=41):=by show _=_;rw [unfoldR.out,ownE,if_neg HA.out,if_neg HBB.out,if_neg HV.out,if_neg (by rw [HK.out];simp),if_pos ⟨by rw [HK.out];simp,by have:=HB.out.2.2.2;simpa using this⟩]
       go_wp2_with (first
        | (with_reducible refine jA (.agg X) ?_ ?_ ?_;exact jE _ rfl H 0 rfl X HX.out.2.1 HX.out.1;kernel_rfl)
        | (go_at_call 144;refine (CR.out _).mono ?_;rintro e w2 ⟨rfl,g2⟩;have y0:=g2.cell c0;have y1:=g2.cell d0;have y2:=g2.cell d1;have y3:=g2.cell d2;have y4:=g2.cell d3;have HG2:Hid (G w w2∧Lies w2 (H+1) 0 M):=⟨HG.out.trans g2,g2.lies HX.out.2.2.1⟩;clear g2 c0 d0 d1 d2 d3)
        | (with_reducible refine jA (.agg M) ?_ ?_ ?_;exact jO _ rfl (H+1) 0 rfl M HX.out.2.2.2.1 HG2.out.2;kernel_rfl)
        | (with_reducible refine jA (.agg Z) ?_ ?_ ?_;exact jR 27 rfl Z HZ.out.1 _;kernel_rfl)
        | (with_reducible refine jA (.bool true) ?_ ?_ ?_;exact jn _ _ rfl M Z rfl rfl m Md.zero HX.out.2.2.2.2 HZ.out.2 true HB.out.2.2.2 _;kernel_rfl))
       go_ret
       exact ⟨by rw [HF.out];rfl,HG2.out.1⟩
    | true=>
     cases b0 with
     | false=>
      have HF:Hid (R=41):=by show _=_;rw [unfoldR.out,ownE,if_neg HA.out,if_neg HBB.out,if_pos HB.out.1]
      go_wp2_with (first
       | (with_reducible refine jA (.agg X) ?_ ?_ ?_;exact jE _ rfl H 0 rfl X HX.out.2.1 HX.out.1;kernel_rfl)
       | (go_at_call 144;refine (CR.out _).mono ?_;rintro e w2 ⟨rfl,g2⟩))
      go_ret
      exact ⟨by rw [HF.out];rfl,HG.out.trans g2⟩
     | true=>
      have HV:Hid (¬ rightVB v=false):=by show ¬ _;rw [HB.out.1];simp
      cases b3 with
      | false=>
       have HF:Hid (R=0):=by show _=_;rw [unfoldR.out,ownE,if_neg HA.out,if_neg HBB.out,if_neg HV.out,if_neg (by rw [HK.out];simp),if_neg (by have:=HB.out.2.2.2;simp at this;simp [this])]
       go_wp2_with (first
        | (with_reducible refine jA (.agg X) ?_ ?_ ?_;exact jE _ rfl H 0 rfl X HX.out.2.1 HX.out.1;kernel_rfl)
        | (go_at_call 144;refine (CR.out _).mono ?_;rintro e w2 ⟨rfl,g2⟩;have y0:=g2.cell c0;have y1:=g2.cell d0;have y2:=g2.cell d1;have y3:=g2.cell d2;have y4:=g2.cell d3;have HG2:Hid (G w w2∧Lies w2 (H+1) 0 M):=⟨HG.out.trans g2,g2.lies HX.out.2.2.1⟩;clear g2 c0 d0 d1 d2 d3)
        | (with_reducible refine jA (.agg M) ?_ ?_ ?_;exact jO _ rfl (H+1) 0 rfl M HX.out.2.2.2.1 HG2.out.2;kernel_rfl)
        | (with_reducible refine jA (.agg Z) ?_ ?_ ?_;exact jR 27 rfl Z HZ.out.1 _;kernel_rfl)
        | (with_reducible refine jA (.bool false) ?_ ?_ ?_;exact jn _ _ rfl M Z rfl rfl m Md.zero HX.out.2.2.2.2 HZ.out.2 false HB.out.2.2.2 _;kernel_rfl))
       go_ret
       exact ⟨by rw [HF.out];rfl,HG2.out.1⟩
      | true=>
       have HF:Hid (R=41):=by show _=_;rw [unfoldR.out,ownE,if_neg HA.out,if_neg HBB.out,if_neg HV.out,if_neg (by rw [HK.out];simp),if_pos ⟨by rw [HK.out];simp,by have:=HB.out.2.2.2;simpa using this⟩]
       go_wp2_with (first
        | (with_reducible refine jA (.agg X) ?_ ?_ ?_;exact jE _ rfl H 0 rfl X HX.out.2.1 HX.out.1;kernel_rfl)
        | (go_at_call 144;refine (CR.out _).mono ?_;rintro e w2 ⟨rfl,g2⟩;have y0:=g2.cell c0;have y1:=g2.cell d0;have y2:=g2.cell d1;have y3:=g2.cell d2;have y4:=g2.cell d3;have HG2:Hid (G w w2∧Lies w2 (H+1) 0 M):=⟨HG.out.trans g2,g2.lies HX.out.2.2.1⟩;clear g2 c0 d0 d1 d2 d3)
        | (with_reducible refine jA (.agg M) ?_ ?_ ?_;exact jO _ rfl (H+1) 0 rfl M HX.out.2.2.2.1 HG2.out.2;kernel_rfl)
        | (with_reducible refine jA (.agg Z) ?_ ?_ ?_;exact jR 27 rfl Z HZ.out.1 _;kernel_rfl)
        | (with_reducible refine jA (.bool true) ?_ ?_ ?_;exact jn _ _ rfl M Z rfl rfl m Md.zero HX.out.2.2.2.2 HZ.out.2 true HB.out.2.2.2 _;kernel_rfl))
       go_ret
       exact ⟨by rw [HF.out];rfl,HG2.out.1⟩
   ·obtain rfl:kids=false:=by cases kids;rfl;exact absurd ⟨rfl,k1⟩ hB
    by_cases k2:kd=2
    ·subst k2
     clear hA hB k1
     cases b0 with
     | false=>
      have HF:Hid (R=41):=by show _=_;rw [unfoldR.out,ownE,if_neg HA.out,if_neg HBB.out,if_pos HB.out.1]
      go_wp2_with (first
       | (with_reducible refine jA (.agg X) ?_ ?_ ?_;exact jE _ rfl H 0 rfl X HX.out.2.1 HX.out.1;kernel_rfl)
       | (go_at_call 144;refine (CR.out _).mono ?_;rintro e w2 ⟨rfl,g2⟩))
      go_ret
      exact ⟨by rw [HF.out];rfl,HG.out.trans g2⟩
     | true=>
      have HV:Hid (¬ rightVB v=false):=by show ¬ _;rw [HB.out.1];simp
      cases b1 with
      | false=>
       have HF:Hid (R=41):=by show _=_;rw [unfoldR.out,ownE,if_neg HA.out,if_neg HBB.out,if_neg HV.out,if_pos ⟨HK.out,.inl HB.out.2.1⟩]
       go_wp2_with (first
        | (with_reducible refine jA (.agg X) ?_ ?_ ?_;exact jE _ rfl H 0 rfl X HX.out.2.1 HX.out.1;kernel_rfl)
        | (go_at_call 144;refine (CR.out _).mono ?_;rintro e w2 ⟨rfl,g2⟩;have y0:=g2.cell c0;have y1:=g2.cell d0;have y2:=g2.cell d1;have y3:=g2.cell d2;have y4:=g2.cell d3;have HG2:Hid (G w w2∧Lies w2 (H+1) 0 M):=⟨HG.out.trans g2,g2.lies HX.out.2.2.1⟩;clear g2 c0 d0 d1 d2 d3)
        | (go_at_call 145;refine (CA.out _).mono ?_;rintro e w3 ⟨rfl,g3⟩;have HG3:Hid (G w w3):=HG2.out.1.trans g3;have z0:=g3.cell y0;have z3:=g3.cell y3;have z4:=g3.cell y4;clear g3 y0 y1 y2 y3 y4))
       go_ret
       exact ⟨by rw [HF.out];rfl,HG3.out⟩
      | true=>
       cases b2 with
       | false=>
        have HF:Hid (R=41):=by show _=_;rw [unfoldR.out,ownE,if_neg HA.out,if_neg HBB.out,if_neg HV.out,if_pos ⟨HK.out,.inr HB.out.2.2.1⟩]
        go_upto_region 7 with (first
         | (with_reducible refine jA (.agg X) ?_ ?_ ?_;exact jE _ rfl H 0 rfl X HX.out.2.1 HX.out.1;kernel_rfl)
         | (go_at_call 144;refine (CR.out _).mono ?_;rintro e w2 ⟨rfl,g2⟩;have y0:=g2.cell c0;have y1:=g2.cell d0;have y2:=g2.cell d1;have y3:=g2.cell d2;have y4:=g2.cell d3;have HG2:Hid (G w w2∧Lies w2 (H+1) 0 M):=⟨HG.out.trans g2,g2.lies HX.out.2.2.1⟩;clear g2 c0 d0 d1 d2 d3))
        go_wp2_with (first
         | (go_at_call_of 145 (Value.agg #[Value.int .i64 n0,Value.int .i64 s0]);refine (CA.out _).mono ?_;rintro e w3 ⟨rfl,g3⟩;clear CA;have HG3:Hid (G w w3):=HG2.out.1.trans g3;have z0:=g3.cell y0;have z3:=g3.cell y3;have z4:=g3.cell y4;clear g3 y0 y1 y2 y3 y4)
         | (go_at_call 145;refine (CB.out _).mono ?_;rintro e w4 ⟨rfl,g4⟩;have HG4:Hid (G w w4):=HG3.out.trans g4;have v0:=g4.cell z0;clear g4 z0))
        go_ret
        exact ⟨by rw [HF.out];rfl,HG4.out⟩
       | true=>
        have HF:Hid (R=0):=by show _=_;rw [unfoldR.out,ownE,if_neg HA.out,if_neg HBB.out,if_neg HV.out,if_neg (by rw [HB.out.2.1,HB.out.2.2.1];simp),if_neg (by rw [HK.out];simp)]
        go_upto_region 7 with (first
         | (with_reducible refine jA (.agg X) ?_ ?_ ?_;exact jE _ rfl H 0 rfl X HX.out.2.1 HX.out.1;kernel_rfl)
         | (go_at_call 144;refine (CR.out _).mono ?_;rintro e w2 ⟨rfl,g2⟩;have y0:=g2.cell c0;have y1:=g2.cell d0;have y2:=g2.cell d1;have y3:=g2.cell d2;have y4:=g2.cell d3;have HG2:Hid (G w w2∧Lies w2 (H+1) 0 M):=⟨HG.out.trans g2,g2.lies HX.out.2.2.1⟩;clear g2 c0 d0 d1 d2 d3))
        go_wp2_with (first
         | (go_at_call_of 145 (Value.agg #[Value.int .i64 n0,Value.int .i64 s0]);refine (CA.out _).mono ?_;rintro e w3 ⟨rfl,g3⟩;clear CA;have HG3:Hid (G w w3):=HG2.out.1.trans g3;have z0:=g3.cell y0;have z3:=g3.cell y3;have z4:=g3.cell y4;clear g3 y0 y1 y2 y3 y4)
         | (go_at_call 145;refine (CB.out _).mono ?_;rintro e w4 ⟨rfl,g4⟩;have HG4:Hid (G w w4):=HG3.out.trans g4;have v0:=g4.cell z0;clear g4 z0))
        go_ret
        exact ⟨by rw [HF.out];rfl,HG4.out⟩
    ·obtain rfl:kd=3:=by by_cases h3:kd=3;exact h3;exact absurd ⟨k1,k2,h3⟩ hA
     clear hA hB k1 k2
     cases b0 with
     | false=>
      have HF:Hid (R=41):=by show _=_;rw [unfoldR.out,ownE,if_neg HA.out,if_neg HBB.out,if_pos HB.out.1]
      go_wp2_with (first
       | (with_reducible refine jA (.agg X) ?_ ?_ ?_;exact jE _ rfl H 0 rfl X HX.out.2.1 HX.out.1;kernel_rfl)
       | (go_at_call 144;refine (CR.out _).mono ?_;rintro e w2 ⟨rfl,g2⟩))
      go_ret
      exact ⟨by rw [HF.out];rfl,HG.out.trans g2⟩
     | true=>
      have HV:Hid (¬ rightVB v=false):=by show ¬ _;rw [HB.out.1];simp
      cases b3 with
      | false=>
       have HF:Hid (R=0):=by show _=_;rw [unfoldR.out,ownE,if_neg HA.out,if_neg HBB.out,if_neg HV.out,if_neg (by rw [HK.out];simp),if_neg (by have:=HB.out.2.2.2;simp at this;simp [this])]
       go_wp2_with (first
        | (with_reducible refine jA (.agg X) ?_ ?_ ?_;exact jE _ rfl H 0 rfl X HX.out.2.1 HX.out.1;kernel_rfl)
        | (go_at_call 144;refine (CR.out _).mono ?_;rintro e w2 ⟨rfl,g2⟩;have y0:=g2.cell c0;have y1:=g2.cell d0;have y2:=g2.cell d1;have y3:=g2.cell d2;have y4:=g2.cell d3;have HG2:Hid (G w w2∧Lies w2 (H+1) 0 M):=⟨HG.out.trans g2,g2.lies HX.out.2.2.1⟩;clear g2 c0 d0 d1 d2 d3)
        | (with_reducible refine jA (.agg M) ?_ ?_ ?_;exact jO _ rfl (H+1) 0 rfl M HX.out.2.2.2.1 HG2.out.2;kernel_rfl)
        | (with_reducible refine jA (.agg Z) ?_ ?_ ?_;exact jR 27 rfl Z HZ.out.1 _;kernel_rfl)
        | (with_reducible refine jA (.bool false) ?_ ?_ ?_;exact jn _ _ rfl M Z rfl rfl m Md.zero HX.out.2.2.2.2 HZ.out.2 false HB.out.2.2.2 _;kernel_rfl))
       go_ret
       exact ⟨by rw [HF.out];rfl,HG2.out.1⟩
      | true=>
       have HF:Hid (R=41):=by show _=_;rw [unfoldR.out,ownE,if_neg HA.out,if_neg HBB.out,if_neg HV.out,if_neg (by rw [HK.out];simp),if_pos ⟨by rw [HK.out];simp,by have:=HB.out.2.2.2;simpa using this⟩]
       go_wp2_with (first
        | (with_reducible refine jA (.agg X) ?_ ?_ ?_;exact jE _ rfl H 0 rfl X HX.out.2.1 HX.out.1;kernel_rfl)
        | (go_at_call 144;refine (CR.out _).mono ?_;rintro e w2 ⟨rfl,g2⟩;have y0:=g2.cell c0;have y1:=g2.cell d0;have y2:=g2.cell d1;have y3:=g2.cell d2;have y4:=g2.cell d3;have HG2:Hid (G w w2∧Lies w2 (H+1) 0 M):=⟨HG.out.trans g2,g2.lies HX.out.2.2.1⟩;clear g2 c0 d0 d1 d2 d3)
        | (with_reducible refine jA (.agg M) ?_ ?_ ?_;exact jO _ rfl (H+1) 0 rfl M HX.out.2.2.2.1 HG2.out.2;kernel_rfl)
        | (with_reducible refine jA (.agg Z) ?_ ?_ ?_;exact jR 27 rfl Z HZ.out.1 _;kernel_rfl)
        | (with_reducible refine jA (.bool true) ?_ ?_ ?_;exact jn _ _ rfl M Z rfl rfl m Md.zero HX.out.2.2.2.2 HZ.out.2 true HB.out.2.2.2 _;kernel_rfl))
       go_ret
       exact ⟨by rw [HF.out];rfl,HG2.out.1⟩
end Go.Proofs.YthfcanpkhjgomaaGreat
