/-
  sum.SHA, Pieces.Add, Pieces.Sum by contract.
-/
import Derived.Test.YtmglopfjjbnfiaaDoorSumWalk
namespace Go.Proofs.YtmglopfjjbnfiaaDoor
open Go.RowKit

/-- A slice of slices holds these parts. -/
def HasL (w : World) (v : Value) (ps : List (List Nat)) : Prop :=
  (v = .slice none 0 0 ∧ ps = []) ∨ ∃ a cap, v = .slice (some a) ps.length cap ∧ ps.length ≤ cap ∧ ∀ i, i < ps.length → ∃ u, w.cell? (a.add i) = some u ∧ Has w u (ps.getD i [])

theorem HasL.below {w w' : World} {v : Value} {ps : List (List Nat)} (h : HasL w v ps) (hb : Below w.heap.size w w') : HasL w' v ps := by
  rcases h with h | ⟨a, cap, hv, hc, h⟩
  · exact .inl h
  · refine .inr ⟨a, cap, hv, hc, fun i hi => ?_⟩
    obtain ⟨u, h1, h2⟩ := h i hi
    exact ⟨u, by rw [hb.cell (block_lt_of_cell h1)]; exact h1, h2.below hb⟩

theorem z41 : (Obj.cells #[Value.int .u8 0, .int .u8 0, .int .u8 0, .int .u8 0, .int .u8 0, .int .u8 0, .int .u8 0, .int .u8 0, .int .u8 0, .int .u8 0, .int .u8 0, .int .u8 0, .int .u8 0, .int .u8 0, .int .u8 0, .int .u8 0, .int .u8 0, .int .u8 0, .int .u8 0, .int .u8 0, .int .u8 0, .int .u8 0, .int .u8 0, .int .u8 0, .int .u8 0, .int .u8 0, .int .u8 0, .int .u8 0, .int .u8 0, .int .u8 0, .int .u8 0, .int .u8 0] 41) = Obj.cells (bfill 32 []) 41 := rfl

theorem hz41 (l : List Nat) : (Tryd.prog.info? 41).map (·.size) = some (((Sha.sha l).map vb).toArray).size := by
  rw [show (((Sha.sha l).map vb).toArray).size = 32 by simp only [List.size_toArray, List.length_map]; exact sha_len _]; kernel_rfl
theorem ho41 (l : List Nat) : (bfill 32 []).size = (((Sha.sha l).map vb).toArray).size := by
  rw [bfill_size (by simp)]; simp only [List.size_toArray, List.length_map]; exact (sha_len _).symm

set_option maxHeartbeats 1000000 in
set_option maxRecDepth 100000 in
theorem psum_any (K : Nat) (T : TypeId) (l : List Nat) (w : World) (hH : HashAt w K T l) (hT : Tabs w) (hl : l.length < 1152921504606846976) :
    Calls Tryd.prog 35 #[.pointer (some ⟨K, 0, none⟩)] w fun e w' => e = .returned (.agg ((Sha.sha l).map vb).toArray) ∧ Below w.heap.size w w' := by
  have C : Hid (Calls Tryd.prog 32 #[.pointer (some ⟨K, 0, none⟩)] (w.alloc (.cells (bfill 32 []) 41)) fun e w' => e = .returned (.agg ((Sha.sha l).map vb).toArray) ∧ Below (w.alloc (.cells (bfill 32 []) 41)).heap.size (w.alloc (.cells (bfill 32 []) 41)) w') := by
    have hb : Below w.heap.size w (w.alloc (.cells (bfill 32 []) 41)) := (Below.refl _ w).alloc (Nat.le_refl _) _
    exact sum_any K T l _ (hH.below hb hH.lt) (hT.up hb) hl
  obtain ⟨c, hc⟩ : ∃ c, c = ((Sha.sha l).map vb).toArray := ⟨_, rfl⟩
  have HF : Hid ((Tryd.prog.info? 41).map (·.size) = some c.size ∧ (bfill 32 []).size = c.size ∧ c.all (·.oneCell') = true) := by
    rw [hc]; exact ⟨hz41 l, ho41 l, all_vb _⟩
  rw [← hc] at C
  rw [← hc]
  clear hH hT hl hc
  go_enter Tryd.func35, Tryd.ntmps35
  go_upto_region 1 with fail
  rw [z41]
  go_wp2_with (first | (go_at_call 32; refine C.out.mono ?_; rintro e w1 ⟨rfl, hb1⟩; have HB : Hid (w1.heap[w.heap.size]? = some (.cells (bfill 32 []) 41 (0, 0)) ∧ Below w.heap.size w w1) := ⟨by rw [hb1.block _ (by simp)]; exact heap_alloc_new _ _, ((Below.refl _ w).alloc (Nat.le_refl _) _).trans (hb1.mono (by simp))⟩; clear hb1) | refine wpList_store_row rfl 41 (.tmp 2) (.tmp 6) rfl w.heap.size c rfl rfl 41 (bfill 32 []) HB.out.1 HF.out.1 HF.out.2.1 HF.out.2.2 ?_)
  refine bodyPost_ret (results_cell_row (P := Tryd.prog) rfl _ _ w.heap.size 41 c (0, 0) (.array 32 5) rfl (setRow_heap _ _ _ _ _ _ HB.out.1) Tryd.underlying41 rfl HF.out.1) rfl ⟨rfl, below_setRow HB.out.2 (Nat.le_refl _) _⟩

set_option maxRecDepth 100000 in
theorem slice41_all (g : Nat) (wz : World) : (Instr.sliceAt 41 (.pointer (some ⟨g, 0, none⟩)) none none none).run Tryd.prog wz = .ok (.slice (some ⟨g, 0, none⟩) 32 32) wz := by
  rw [run_sliceAt_array_all wz 41 ⟨g, 0, none⟩ Tryd.underlying41]
  have h1 : (Tryd.prog.info? (Tryd.prog.elem 41)).map (·.size) = some 1 := by kernel_rfl
  cases hq : Tryd.prog.info? (Tryd.prog.elem 41) with
  | none => simp [hq] at h1
  | some i =>
    have hs : i.size = 1 := by simpa [hq] using h1
    rw [show Tryd.prog.arrayLen 41 = 32 by kernel_rfl]
    simp [sizeOf, typeInfo, hq, hs, slicedAt, Addr.add, Result.andThen]

theorem has_row {w : World} {g : Nat} {t : TypeId} (p : List Nat) (hg : w.heap[g]? = some (.cells (p.map vb).toArray t (0, 0))) : Has w (.slice (some ⟨g, 0, none⟩) p.length p.length) p := by
  refine .inr ⟨⟨g, 0, none⟩, p.length, rfl, Nat.le_refl _, fun i hi => ?_⟩
  rw [addr_add, Nat.zero_add, cell_of_row _ g i _ _ _ hg]
  simp [List.getD, hi]

set_option maxHeartbeats 1000000 in
set_option maxRecDepth 100000 in
theorem padd_any (K : Nat) (l p : List Nat) (w : World) (hH : HashAt w K 100 l) (hp : p.length = 32) (hB : Bytes p) (hT : Tabs w) (hK : 3 ≤ K) (hl : l.length < 576460752303423488) :
    Calls Tryd.prog 34 #[.pointer (some ⟨K, 0, none⟩), .agg (p.map vb).toArray] w fun e w' => e = .returned (.tuple #[]) ∧ HashAt w' K 100 (l ++ p) ∧ But K w w' := by
  have hKs := hH.lt
  obtain ⟨c, hc⟩ : ∃ c, c = (p.map vb).toArray := ⟨_, rfl⟩
  have hbw : Below w.heap.size w ((w.alloc (.cells c 41)).drew) := ((Below.refl _ w).alloc (Nat.le_refl _) _).trans ⟨rfl, rfl, rfl, Nat.le_refl _, fun _ _ => rfl⟩
  have C : Hid (Calls Tryd.prog 31 #[.pointer (some ⟨K, 0, none⟩), .slice (some ⟨w.heap.size, 0, none⟩) 32 32] ((w.alloc (.cells c 41)).drew) fun e w' => e = .returned (.tuple #[]) ∧ HashAt w' K 100 (l ++ p) ∧ But K w w') := by
    have hh : Has ((w.alloc (.cells c 41)).drew) (.slice (some ⟨w.heap.size, 0, none⟩) 32 32) p := by
      have := has_row (w := (w.alloc (.cells c 41)).drew) (t := 41) p (by rw [← hc]; exact heap_alloc_new w _)
      rw [hp] at this; exact this
    refine (add_any K 100 l p _ _ (hH.below hbw hKs) hh (fun a n c e _ => by simp only [Value.slice.injEq, Option.some.injEq] at e; rw [← e.1]; show w.heap.size ≠ K; omega) hB (hT.up hbw) hK (by omega)).mono ?_
    rintro e w1 ⟨h1, h2, h3⟩
    exact ⟨h1, h2, (But.of_below hbw).trans h3⟩
  have hsl := slice41_all w.heap.size
  rw [← hc]
  clear hH hp hB hT hl hc hbw
  go_enter Tryd.func34, Tryd.ntmps34
  go_wp2
  refine wp_region_any (by kernel_rfl) ?_
  change wpAny _ _ _ _ _ _ _ (World.drew _)
  refine wpAny_take (i := 0) (v := .pointer (some ⟨K, 0, none⟩)) rfl (by kernel_rfl) (by kernel_rfl) (by kernel_rfl) (fun _ _ _ h => h) (Or.inl ⟨by kernel_rfl, ?_⟩) ?_
  · intro wz; go_simp
  refine wpAny_take (i := 1) (v := .pointer (some ⟨K, 0, none⟩)) rfl (by kernel_rfl) (by kernel_rfl) (by kernel_rfl) (fun _ _ _ h => h) (Or.inl ⟨by kernel_rfl, ?_⟩) ?_
  · intro wz; go_simp
  refine wpAny_take (i := 2) (v := .pointer (some ⟨K, 0, none⟩)) rfl (by kernel_rfl) (by kernel_rfl) (by kernel_rfl) (fun _ _ _ h => h) (Or.inl ⟨by kernel_rfl, ?_⟩) ?_
  · intro wz; go_simp
  refine wpAny_take (i := 3) (v := .slice (some ⟨w.heap.size, 0, none⟩) 32 32) rfl (by kernel_rfl) (by kernel_rfl) (by kernel_rfl) (fun _ _ _ h => h) (Or.inl ⟨by kernel_rfl, ?_⟩) ?_
  · intro wz; go_simp
  simp only [Act.put, List.getElem_toArray, List.getElem_cons_zero, List.getElem_cons_succ, List.setIfInBounds_toArray, List.set_cons_zero, List.set_cons_succ]
  refine wpAny_ready (rs := [4]) (by kernel_rfl) (by simp) ?_
  refine AllReady.cons rfl (fun K' hK' => ?_) AllReady.nil
  go_simp
  refine C.out.mono ?_
  rintro e w1 ⟨rfl, h1, h2⟩
  refine hK' _ _ ?_
  clear hK' K'
  refine wpAny_done (by kernel_rfl) ?_ _
  have R : Hid (HashAt w1 K 100 (l ++ p) ∧ But K w w1) := ⟨h1, h2⟩
  clear h1 h2 hsl
  go_simp
  go_wp2
  go_end0
  exact ⟨rfl, R.out⟩

theorem flatten_take_succ (ps : List (List Nat)) (k : Nat) (h : k < ps.length) : (ps.take (k + 1)).flatten = (ps.take k).flatten ++ ps.getD k [] := by
  rw [List.take_succ_eq_append_getElem h, List.flatten_append]
  simp [List.getD, List.getElem?_eq_getElem h]

set_option maxHeartbeats 1000000 in
set_option maxRecDepth 100000 in
theorem sha_some (a : Addr) (cap : Nat) (ps : List (List Nat)) (w : World) (hc : ∀ i, i < ps.length → ∃ u, w.cell? (a.add i) = some u ∧ Has w u (ps.getD i [])) (hB : ∀ p ∈ ps, Bytes p) (hT : Tabs w) (hl : ps.flatten.length < 1152921504606846976) (hn : ps.length < 4611686018427387904) :
    Calls Tryd.prog 13 #[.slice (some a) ps.length cap] w fun e w' => e = .returned (.agg ((Sha.sha ps.flatten).map vb).toArray) ∧ Below w.heap.size w w' := by
  have HC : Hid (∀ i, i < ps.length → ∃ u, w.cell? (a.add i) = some u ∧ Has w u (ps.getD i [])) := hc
  have HB : Hid (∀ p ∈ ps, Bytes p) := hB
  have HT : Hid (Tabs w) := hT
  have HL : Hid (ps.flatten.length < 1152921504606846976) := hl
  have hs3 := hT.size
  clear hc hB hT hl
  have CN : Hid (Calls Tryd.prog 26 #[] (w.alloc (.cells (bfill 32 []) 41)) fun e w' => e = .returned (.pointer (some ⟨w.heap.size + 1, 0, none⟩)) ∧ w' = (w.alloc (.cells (bfill 32 []) 41)).alloc (.cells hnew 98)) := by
    have h := new_any (w.alloc (.cells (bfill 32 []) 41)) (HT.out.up ((Below.refl _ w).alloc (Nat.le_refl _) _))
    rw [show (w.alloc (.cells (bfill 32 []) 41)).heap.size = w.heap.size + 1 by simp] at h
    exact h
  have HST : Hid (HashAt ((w.alloc (.cells (bfill 32 []) 41)).alloc (.cells hnew 98)) (w.heap.size + 1) 98 [] ∧ ((w.alloc (.cells (bfill 32 []) 41)).alloc (.cells hnew 98)).heap[w.heap.size]? = some (.cells (bfill 32 []) 41 (0, 0)) ∧ Below w.heap.size w ((w.alloc (.cells (bfill 32 []) 41)).alloc (.cells hnew 98))) := by
    refine ⟨?_, by rw [heap_alloc_old _ _ (by simp)]; exact heap_alloc_new _ _, ((Below.refl _ w).alloc (Nat.le_refl _) _).alloc (by simp) _⟩
    have := hash_new (w.alloc (.cells (bfill 32 []) 41)) 98
    rw [show (w.alloc (.cells (bfill 32 []) 41)).heap.size = w.heap.size + 1 by simp] at this
    exact this
  obtain ⟨nw, hnw⟩ : ∃ nw, nw = hnew := ⟨_, rfl⟩
  rw [← hnw] at CN HST
  clear hnw
  go_enter Tryd.func13, Tryd.ntmps13
  go_upto_region 1 with fail
  rw [z41]
  go_wp2_with (go_at_call 26; refine CN.out.mono ?_; rintro e w1 ⟨rfl, rfl⟩)
  go_loopw [9] (fun i wr => ∃ (k : Nat), k ≤ ps.length ∧ i = .int .i64 k ∧ Hid (HashAt wr (w.heap.size + 1) 98 (ps.take k).flatten) ∧ Hid (wr.heap[w.heap.size]? = some (.cells (bfill 32 []) 41 (0, 0))) ∧ Hid (Below w.heap.size w wr)) (fun i _ => ps.length - (intOf i).toNat)
  case atStart => exact ⟨0, by omega, rfl, HST.out.1, HST.out.2.1, HST.out.2.2⟩
  case round =>
    clear HST CN
    obtain ⟨k, hk, rfl, HH, HO, HW⟩ := hrel
    by_cases hlt : k < ps.length
    · have hkI : (k : Int) < (ps.length : Int) := by omega
      obtain ⟨u, hu, hu2⟩ := HC.out k hlt
      obtain ⟨uo, uc, rfl, huc⟩ := hu2.form
      obtain ⟨pn, hpn⟩ : ∃ pn, pn = (ps.getD k []).length := ⟨_, rfl⟩
      rw [← hpn] at hu
      have cu : wr.cell? (a.add k) = some (.slice uo pn uc) := by rw [HW.out.cell (block_lt_of_cell hu)]; exact hu
      have C : Hid (Calls Tryd.prog 31 #[.pointer (some ⟨w.heap.size + 1, 0, none⟩), .slice uo pn uc] wr fun e w' => e = .returned (.tuple #[]) ∧ HashAt w' (w.heap.size + 1) 98 (ps.take (k + 1)).flatten ∧ But (w.heap.size + 1) wr w') := by
        have e : (ps.take (k + 1)).flatten = (ps.take k).flatten ++ ps.getD k [] := flatten_take_succ ps k hlt
        rw [e, hpn]
        have hlen : (ps.take k).flatten.length + (ps.getD k []).length ≤ ps.flatten.length := by
          rw [← List.length_append, ← e]
          have : ps.flatten = (ps.take (k + 1)).flatten ++ (ps.drop (k + 1)).flatten := by rw [← List.flatten_append, List.take_append_drop]
          rw [this, List.length_append]; omega
        refine add_any _ _ _ _ _ _ HH.out (hu2.below HW.out) (off_of_has hu2 (by omega)) (HB.out _ (by simp [List.getD, List.getElem?_eq_getElem hlt])) (HT.out.up HW.out) (by omega) (by have := HL.out; omega)
      clear hu hu2 huc hpn
      go_wp2_with (go_at_call 31; refine C.out.mono ?_; rintro e w1 ⟨rfl, h1, h2⟩; have R : Hid (HashAt w1 (w.heap.size + 1) 98 (ps.take (k + 1)).flatten ∧ But (w.heap.size + 1) wr w1) := ⟨h1, h2⟩; clear h1 h2)
      go_roundw
      case rel => exact ⟨k + 1, by omega, by go_num, R.out.1, (R.out.2.block _ (Array.getElem?_eq_some_iff.1 HO.out).1 (by omega)).trans HO.out, HW.out.trans (R.out.2.below (by omega) HW.out.size)⟩
      case measure => simp [intOf]; omega
    · have hkI : ¬ (k : Int) < (ps.length : Int) := by omega
      obtain rfl : k = ps.length := by omega
      obtain ⟨c, hc⟩ : ∃ c, c = ((Sha.sha ps.flatten).map vb).toArray := ⟨_, rfl⟩
      have HCE : Hid (c = ((Sha.sha ps.flatten).map vb).toArray) := hc
      have HF : Hid ((Tryd.prog.info? 41).map (·.size) = some c.size ∧ (bfill 32 []).size = c.size ∧ c.all (·.oneCell') = true) := by
        rw [hc]; exact ⟨hz41 _, ho41 _, all_vb _⟩
      have C : Hid (Calls Tryd.prog 32 #[.pointer (some ⟨w.heap.size + 1, 0, none⟩)] wr fun e w' => e = .returned (.agg c) ∧ Below wr.heap.size wr w') := by
        have h := HH.out
        rw [List.take_length] at h
        rw [hc]
        exact sum_any _ _ _ wr h (HT.out.up HW.out) HL.out
      clear hc
      go_wp2_with (first | (go_at_call 32; refine C.out.mono ?_; rintro e w1 ⟨rfl, hb1⟩; have HB1 : Hid (w1.heap[w.heap.size]? = some (.cells (bfill 32 []) 41 (0, 0)) ∧ Below w.heap.size w w1) := ⟨(hb1.block _ (Array.getElem?_eq_some_iff.1 HO.out).1).trans HO.out, Below.up HW.out hb1⟩; clear hb1) | refine wpList_store_row rfl 41 (.tmp 2) (.tmp 18) rfl w.heap.size c rfl rfl 41 (bfill 32 []) HB1.out.1 HF.out.1 HF.out.2.1 HF.out.2.2 ?_)
      refine bodyPost_ret (results_cell_row (P := Tryd.prog) rfl _ _ w.heap.size 41 c (0, 0) (.array 32 5) rfl (setRow_heap _ _ _ _ _ _ HB1.out.1) Tryd.underlying41 rfl HF.out.1) rfl ⟨by rw [HCE.out], below_setRow HB1.out.2 (Nat.le_refl _) _⟩

set_option maxHeartbeats 1000000 in
set_option maxRecDepth 100000 in
theorem sha_none (w : World) (hT : Tabs w) :
    Calls Tryd.prog 13 #[.slice none 0 0] w fun e w' => e = .returned (.agg ((Sha.sha []).map vb).toArray) ∧ Below w.heap.size w w' := by
  have HT : Hid (Tabs w) := hT
  have hs3 := hT.size
  clear hT
  have CN : Hid (Calls Tryd.prog 26 #[] (w.alloc (.cells (bfill 32 []) 41)) fun e w' => e = .returned (.pointer (some ⟨w.heap.size + 1, 0, none⟩)) ∧ w' = (w.alloc (.cells (bfill 32 []) 41)).alloc (.cells hnew 98)) := by
    have h := new_any (w.alloc (.cells (bfill 32 []) 41)) (HT.out.up ((Below.refl _ w).alloc (Nat.le_refl _) _))
    rw [show (w.alloc (.cells (bfill 32 []) 41)).heap.size = w.heap.size + 1 by simp] at h
    exact h
  have HST : Hid (HashAt ((w.alloc (.cells (bfill 32 []) 41)).alloc (.cells hnew 98)) (w.heap.size + 1) 98 [] ∧ ((w.alloc (.cells (bfill 32 []) 41)).alloc (.cells hnew 98)).heap[w.heap.size]? = some (.cells (bfill 32 []) 41 (0, 0)) ∧ Below w.heap.size w ((w.alloc (.cells (bfill 32 []) 41)).alloc (.cells hnew 98))) := by
    refine ⟨?_, by rw [heap_alloc_old _ _ (by simp)]; exact heap_alloc_new _ _, ((Below.refl _ w).alloc (Nat.le_refl _) _).alloc (by simp) _⟩
    have := hash_new (w.alloc (.cells (bfill 32 []) 41)) 98
    rw [show (w.alloc (.cells (bfill 32 []) 41)).heap.size = w.heap.size + 1 by simp] at this
    exact this
  obtain ⟨nw, hnw⟩ : ∃ nw, nw = hnew := ⟨_, rfl⟩
  rw [← hnw] at CN HST
  clear hnw
  go_enter Tryd.func13, Tryd.ntmps13
  go_upto_region 1 with fail
  rw [z41]
  go_wp2_with (go_at_call 26; refine CN.out.mono ?_; rintro e w1 ⟨rfl, rfl⟩)
  go_loopw [9] (fun i wr => i = .int .i64 0 ∧ Hid (HashAt wr (w.heap.size + 1) 98 []) ∧ Hid (wr.heap[w.heap.size]? = some (.cells (bfill 32 []) 41 (0, 0))) ∧ Hid (Below w.heap.size w wr)) (fun _ _ => 0)
  case atStart => exact ⟨rfl, HST.out.1, HST.out.2.1, HST.out.2.2⟩
  case round =>
    clear HST CN
    obtain ⟨rfl, HH, HO, HW⟩ := hrel
    obtain ⟨c, hc⟩ : ∃ c, c = ((Sha.sha []).map vb).toArray := ⟨_, rfl⟩
    have HCE : Hid (c = ((Sha.sha []).map vb).toArray) := hc
    have HF : Hid ((Tryd.prog.info? 41).map (·.size) = some c.size ∧ (bfill 32 []).size = c.size ∧ c.all (·.oneCell') = true) := by
      rw [hc]; exact ⟨hz41 _, ho41 _, all_vb _⟩
    have C : Hid (Calls Tryd.prog 32 #[.pointer (some ⟨w.heap.size + 1, 0, none⟩)] wr fun e w' => e = .returned (.agg c) ∧ Below wr.heap.size wr w') := by
      rw [hc]
      exact sum_any _ _ _ wr HH.out (HT.out.up HW.out) (by decide)
    clear hc
    go_wp2_with (first | (go_at_call 32; refine C.out.mono ?_; rintro e w1 ⟨rfl, hb1⟩; have HB1 : Hid (w1.heap[w.heap.size]? = some (.cells (bfill 32 []) 41 (0, 0)) ∧ Below w.heap.size w w1) := ⟨(hb1.block _ (Array.getElem?_eq_some_iff.1 HO.out).1).trans HO.out, Below.up HW.out hb1⟩; clear hb1) | refine wpList_store_row rfl 41 (.tmp 2) (.tmp 18) rfl w.heap.size c rfl rfl 41 (bfill 32 []) HB1.out.1 HF.out.1 HF.out.2.1 HF.out.2.2 ?_)
    refine bodyPost_ret (results_cell_row (P := Tryd.prog) rfl _ _ w.heap.size 41 c (0, 0) (.array 32 5) rfl (setRow_heap _ _ _ _ _ _ HB1.out.1) Tryd.underlying41 rfl HF.out.1) rfl ⟨by rw [HCE.out], below_setRow HB1.out.2 (Nat.le_refl _) _⟩

theorem sha_any (v : Value) (ps : List (List Nat)) (w : World) (hv : HasL w v ps) (hB : ∀ p ∈ ps, Bytes p) (hT : Tabs w) (hl : ps.flatten.length < 1152921504606846976) (hn : ps.length < 4611686018427387904) :
    Calls Tryd.prog 13 #[v] w fun e w' => e = .returned (.agg ((Sha.sha ps.flatten).map vb).toArray) ∧ Below w.heap.size w w' := by
  rcases hv with ⟨rfl, rfl⟩ | ⟨a, cap, rfl, _, hc⟩
  · exact sha_none w hT
  · exact sha_some a cap ps w hc hB hT hl hn
end Go.Proofs.YtmglopfjjbnfiaaDoor
