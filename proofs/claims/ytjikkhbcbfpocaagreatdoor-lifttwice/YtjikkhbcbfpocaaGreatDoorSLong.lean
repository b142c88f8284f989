import Derived.Test.YtjikkhbcbfpocaaGreatDoorSSumWalk
set_option maxRecDepth 100000
set_option maxHeartbeats 1000000
namespace Go.Proofs.YtjikkhbcbfpocaaGreatDoor.Su
open Go.RowKit
def HasL (w:World) (v:Value) (ps:List (List Nat)):Prop:=
 (v=.slice none 0 0∧ps=[])∨∃ a cap,v=.slice (some a) ps.length cap∧ps.length≤cap∧∀ i,i<ps.length→∃ u,w.cell? (a.add i)=some u∧Has w u (ps.getD i [])
theorem HasL.below {w w':World} {v:Value} {ps:List (List Nat)} (h:HasL w v ps) (hb:Below w.heap.size w w'):HasL w' v ps:=by
 rcases h with h | ⟨a,cap,hv,hc,h⟩
 ·exact .inl h
 ·refine .inr ⟨a,cap,hv,hc,fun i hi=>?_⟩
  obtain ⟨u,h1,h2⟩:=h i hi
  exact ⟨u,by rw [hb.cell (block_lt_of_cell h1)];exact h1,h2.below hb⟩
theorem z41:(Obj.cells #[Value.int .u8 0,.int .u8 0,.int .u8 0,.int .u8 0,.int .u8 0,.int .u8 0,.int .u8 0,.int .u8 0,.int .u8 0,.int .u8 0,.int .u8 0,.int .u8 0,.int .u8 0,.int .u8 0,.int .u8 0,.int .u8 0,.int .u8 0,.int .u8 0,.int .u8 0,.int .u8 0,.int .u8 0,.int .u8 0,.int .u8 0,.int .u8 0,.int .u8 0,.int .u8 0,.int .u8 0,.int .u8 0,.int .u8 0,.int .u8 0,.int .u8 0,.int .u8 0] 22)=Obj.cells (jg 32 []) 22:=rfl
theorem hz41 (l:List Nat):(Tryz.prog.info? 22).map (·.size)=some (((Sha.sha l).map vb).toArray).size:=by
 rw [show (((Sha.sha l).map vb).toArray).size=32 by simp only [List.size_toArray,List.length_map];exact qg _];kernel_rfl
theorem ho41 (l:List Nat):(jg 32 []).size=(((Sha.sha l).map vb).toArray).size:=by
 rw [yG (by simp)];simp only [List.size_toArray,List.length_map];exact (qg _).symm
theorem al (ps:List (List Nat)) (k:Nat) (h:k<ps.length):(ps.take (k+1)).flatten=(ps.take k).flatten++ps.getD k []:=by
 rw [List.take_succ_eq_append_getElem h,List.flatten_append]
 simp [List.getD,gl h]
theorem tj (a:Addr) (cap:Nat) (ps:List (List Nat)) (w:World) (hc:∀ i,i<ps.length→∃ u,w.cell? (a.add i)=some u∧Has w u (ps.getD i [])) (hB:∀ p∈ps,Bytes p) (hT:Tabs w) (hl:ps.flatten.length<1152921504606846976) (hn:ps.length<4611686018427387904):
  Calls Tryz.prog 83 #[.slice (some a) ps.length cap] w fun e w'=>e=.returned (.agg ((Sha.sha ps.flatten).map vb).toArray)∧Below w.heap.size w w':=by
 have HC:Hid (∀ i,i<ps.length→∃ u,w.cell? (a.add i)=some u∧Has w u (ps.getD i [])):=hc
 have HB:Hid (∀ p∈ps,Bytes p):=hB
 have HT:Hid (Tabs w):=hT
 have HL:Hid (ps.flatten.length<1152921504606846976):=hl
 have hs3:=hT.size
 clear hc hB hT hl
 have CN:Hid (Calls Tryz.prog 122 #[] (w.alloc (.cells (jg 32 []) 22)) fun e w'=>e=.returned (.pointer (some ⟨w.heap.size+1,0,none⟩))∧w'=(w.alloc (.cells (jg 32 []) 22)).alloc (.cells hnew 242)):=by
  have h:=rW (w.alloc (.cells (jg 32 []) 22)) (HT.out.up ((Below.refl _ w).alloc (Nat.le_refl _) _))
  rw [show (w.alloc (.cells (jg 32 []) 22)).heap.size=w.heap.size+1 by simp] at h
  exact h
 have HST:Hid (qU ((w.alloc (.cells (jg 32 []) 22)).alloc (.cells hnew 242)) (w.heap.size+1) 242 []∧((w.alloc (.cells (jg 32 []) 22)).alloc (.cells hnew 242)).heap[w.heap.size]?=some (.cells (jg 32 []) 22 (0,0))∧Below w.heap.size w ((w.alloc (.cells (jg 32 []) 22)).alloc (.cells hnew 242))):=by
  refine ⟨?_,by rw [heap_alloc_old _ _ (by simp)];exact heap_alloc_new _ _,((Below.refl _ w).alloc (Nat.le_refl _) _).alloc (by simp) _⟩
  have:=mZ (w.alloc (.cells (jg 32 []) 22)) 242
  rw [show (w.alloc (.cells (jg 32 []) 22)).heap.size=w.heap.size+1 by simp] at this
  exact this
 obtain ⟨nw,hnw⟩:∃ nw,nw=hnew:=⟨_,rfl⟩
 rw [← hnw] at CN HST
 clear hnw
 go_enter Tryz.func83,Tryz.ntmps83
 go_upto_region 1 with fail
 rw [z41]
 go_wp2_with (go_at_call 122;refine CN.out.mono ?_;rintro e w1 ⟨rfl,rfl⟩)
 go_loopw [9] (fun i wr=>∃ (k:Nat),k≤ps.length∧i=.int .i64 k∧Hid (qU wr (w.heap.size+1) 242 (ps.take k).flatten)∧Hid (wr.heap[w.heap.size]?=some (.cells (jg 32 []) 22 (0,0)))∧Hid (Below w.heap.size w wr)) (fun i _=>ps.length-(intOf i).toNat)
 case atStart=>exact ⟨0,by omega,rfl,HST.out.1,HST.out.2.1,HST.out.2.2⟩
 case round=>
  clear HST CN
  obtain ⟨k,hk,rfl,HH,HO,HW⟩:=hrel
  by_cases hlt:k<ps.length
  ·have hkI:(k:Int)<(ps.length:Int):=by omega
   obtain ⟨u,hu,hu2⟩:=HC.out k hlt
   obtain ⟨uo,uc,rfl,huc⟩:=hu2.form
   obtain ⟨pn,hpn⟩:∃ pn,pn=(ps.getD k []).length:=⟨_,rfl⟩
   rw [← hpn] at hu
   have cu:wr.cell? (a.add k)=some (.slice uo pn uc):=by rw [HW.out.cell (block_lt_of_cell hu)];exact hu
   have C:Hid (Calls Tryz.prog 123 #[.pointer (some ⟨w.heap.size+1,0,none⟩),.slice uo pn uc] wr fun e w'=>e=.returned (.tuple #[])∧qU w' (w.heap.size+1) 242 (ps.take (k+1)).flatten∧But (w.heap.size+1) wr w'):=by
    have e:(ps.take (k+1)).flatten=(ps.take k).flatten++ps.getD k []:=al ps k hlt
    rw [e,hpn]
    have hlen:(ps.take k).flatten.length+(ps.getD k []).length≤ps.flatten.length:=by
     rw [← lA,← e]
     have:ps.flatten=(ps.take (k+1)).flatten++(ps.drop (k+1)).flatten:=by rw [← List.flatten_append,List.take_append_drop]
     rw [this,lA];omega
    refine eG _ _ _ _ _ _ HH.out (hu2.below HW.out) (nn hu2 (by omega)) (HB.out _ (by simp [List.getD,gl hlt])) (HT.out.up HW.out) (by omega) (by have:=HL.out;omega)
   clear hu hu2 huc hpn
   go_wp2_with (go_at_call 123;refine C.out.mono ?_;rintro e w1 ⟨rfl,h1,h2⟩;have R:Hid (qU w1 (w.heap.size+1) 242 (ps.take (k+1)).flatten∧But (w.heap.size+1) wr w1):=⟨h1,h2⟩;clear h1 h2)
   go_roundw
   case rel=>exact ⟨k+1,by omega,by go_num,R.out.1,(R.out.2.block _ (gS HO.out) (by omega)).trans HO.out,HW.out.trans (R.out.2.below (by omega) HW.out.size)⟩
   case measure=>simp [intOf];omega
  ·have hkI:¬ (k:Int)<(ps.length:Int):=by omega
   obtain rfl:k=ps.length:=by omega
   obtain ⟨c,hc⟩:∃ c,c=((Sha.sha ps.flatten).map vb).toArray:=⟨_,rfl⟩
   have HCE:Hid (c=((Sha.sha ps.flatten).map vb).toArray):=hc
   have HF:Hid ((Tryz.prog.info? 22).map (·.size)=some c.size∧(jg 32 []).size=c.size∧c.all (·.oneCell')=true):=by
    rw [hc];exact ⟨hz41 _,ho41 _,bD _⟩
   have C:Hid (Calls Tryz.prog 124 #[.pointer (some ⟨w.heap.size+1,0,none⟩)] wr fun e w'=>e=.returned (.agg c)∧Below wr.heap.size wr w'):=by
    have h:=HH.out
    rw [List.take_length] at h
    rw [hc]
    exact rp _ _ _ wr h (HT.out.up HW.out) HL.out
   clear hc
   go_wp2_with (first | (go_at_call 124;refine C.out.mono ?_;rintro e w1 ⟨rfl,hb1⟩;have HB1:Hid (w1.heap[w.heap.size]?=some (.cells (jg 32 []) 22 (0,0))∧Below w.heap.size w w1):=⟨(hb1.block _ (gS HO.out)).trans HO.out,Below.up HW.out hb1⟩;clear hb1) | refine wpList_store_row rfl 22 (.tmp 2) (.tmp 18) rfl w.heap.size c rfl rfl 22 (jg 32 []) HB1.out.1 HF.out.1 HF.out.2.1 HF.out.2.2 ?_)
   refine bodyPost_ret (results_cell_row (P:=Tryz.prog) rfl _ _ w.heap.size 22 c (0,0) (.array 32 5) rfl (setRow_heap _ _ _ _ _ _ HB1.out.1) Tryz.underlying22 rfl HF.out.1) rfl ⟨by rw [HCE.out],below_setRow HB1.out.2 (Nat.le_refl _) _⟩
theorem ma (w:World) (hT:Tabs w):
  Calls Tryz.prog 83 #[.slice none 0 0] w fun e w'=>e=.returned (.agg ((Sha.sha []).map vb).toArray)∧Below w.heap.size w w':=by
 have HT:Hid (Tabs w):=hT
 have hs3:=hT.size
 clear hT
 have CN:Hid (Calls Tryz.prog 122 #[] (w.alloc (.cells (jg 32 []) 22)) fun e w'=>e=.returned (.pointer (some ⟨w.heap.size+1,0,none⟩))∧w'=(w.alloc (.cells (jg 32 []) 22)).alloc (.cells hnew 242)):=by
  have h:=rW (w.alloc (.cells (jg 32 []) 22)) (HT.out.up ((Below.refl _ w).alloc (Nat.le_refl _) _))
  rw [show (w.alloc (.cells (jg 32 []) 22)).heap.size=w.heap.size+1 by simp] at h
  exact h
 have HST:Hid (qU ((w.alloc (.cells (jg 32 []) 22)).alloc (.cells hnew 242)) (w.heap.size+1) 242 []∧((w.alloc (.cells (jg 32 []) 22)).alloc (.cells hnew 242)).heap[w.heap.size]?=some (.cells (jg 32 []) 22 (0,0))∧Below w.heap.size w ((w.alloc (.cells (jg 32 []) 22)).alloc (.cells hnew 242))):=by
  refine ⟨?_,by rw [heap_alloc_old _ _ (by simp)];exact heap_alloc_new _ _,((Below.refl _ w).alloc (Nat.le_refl _) _).alloc (by simp) _⟩
  have:=mZ (w.alloc (.cells (jg 32 []) 22)) 242
  rw [show (w.alloc (.cells (jg 32 []) 22)).heap.size=w.heap.size+1 by simp] at this
  exact this
 obtain ⟨nw,hnw⟩:∃ nw,nw=hnew:=⟨_,rfl⟩
 rw [← hnw] at CN HST
 clear hnw
 go_enter Tryz.func83,Tryz.ntmps83
 go_upto_region 1 with fail
 rw [z41]
 go_wp2_with (go_at_call 122;refine CN.out.mono ?_;rintro e w1 ⟨rfl,rfl⟩)
 go_loopw [9] (fun i wr=>i=.int .i64 0∧Hid (qU wr (w.heap.size+1) 242 [])∧Hid (wr.heap[w.heap.size]?=some (.cells (jg 32 []) 22 (0,0)))∧Hid (Below w.heap.size w wr)) (fun _ _=>0)
 case atStart=>exact ⟨rfl,HST.out.1,HST.out.2.1,HST.out.2.2⟩
 case round=>
  clear HST CN
  obtain ⟨rfl,HH,HO,HW⟩:=hrel
  obtain ⟨c,hc⟩:∃ c,c=((Sha.sha []).map vb).toArray:=⟨_,rfl⟩
  have HCE:Hid (c=((Sha.sha []).map vb).toArray):=hc
  have HF:Hid ((Tryz.prog.info? 22).map (·.size)=some c.size∧(jg 32 []).size=c.size∧c.all (·.oneCell')=true):=by
   rw [hc];exact ⟨hz41 _,ho41 _,bD _⟩
  have C:Hid (Calls Tryz.prog 124 #[.pointer (some ⟨w.heap.size+1,0,none⟩)] wr fun e w'=>e=.returned (.agg c)∧Below wr.heap.size wr w'):=by
   rw [hc]
   exact rp _ _ _ wr HH.out (HT.out.up HW.out) (by decide)
  clear hc
  go_wp2_with (first | (go_at_call 124;refine C.out.mono ?_;rintro e w1 ⟨rfl,hb1⟩;have HB1:Hid (w1.heap[w.heap.size]?=some (.cells (jg 32 []) 22 (0,0))∧Below w.heap.size w w1):=⟨(hb1.block _ (gS HO.out)).trans HO.out,Below.up HW.out hb1⟩;clear hb1) | refine wpList_store_row rfl 22 (.tmp 2) (.tmp 18) rfl w.heap.size c rfl rfl 22 (jg 32 []) HB1.out.1 HF.out.1 HF.out.2.1 HF.out.2.2 ?_)
  refine bodyPost_ret (results_cell_row (P:=Tryz.prog) rfl _ _ w.heap.size 22 c (0,0) (.array 32 5) rfl (setRow_heap _ _ _ _ _ _ HB1.out.1) Tryz.underlying22 rfl HF.out.1) rfl ⟨by rw [HCE.out],below_setRow HB1.out.2 (Nat.le_refl _) _⟩
theorem wE (v:Value) (ps:List (List Nat)) (w:World) (hv:HasL w v ps) (hB:∀ p∈ps,Bytes p) (hT:Tabs w) (hl:ps.flatten.length<1152921504606846976) (hn:ps.length<4611686018427387904):
  Calls Tryz.prog 83 #[v] w fun e w'=>e=.returned (.agg ((Sha.sha ps.flatten).map vb).toArray)∧Below w.heap.size w w':=by
 rcases hv with ⟨rfl,rfl⟩ | ⟨a,cap,rfl,_,hc⟩
 ·exact ma w hT
 ·exact tj a cap ps w hc hB hT hl hn
end Go.Proofs.YtjikkhbcbfpocaaGreatDoor.Su
