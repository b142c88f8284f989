/-
  twinelaw2.known by contract: the walk.
-/
import Derived.Test.YtmglopfjjbnfiaaDoorKnown
namespace Go.Proofs.YtmglopfjjbnfiaaDoor
open Go.RowKit

theorem ar_load {md : Region.Mode} {ops : Array Oper} {Q : Exit → Act → World → Prop} {fuel : Nat} {listed : Array Bool} {a : Act} {w : World} {i : Nat} {o : Oper} {rs : List Nat} (hoi : ops[i]? = some o)
    (hw : Region.wanted o (yielded ops a.tmps) = true) (ty : TypeId) (x : Operand) (ho : o.op = .load ty x)
    (g off : Nat) (hx : a.eval x = .pointer (some ⟨g, off, none⟩)) (cs : List Value) (d : TypeDesc) (hc : ∀ j v, cs[j]? = some v → w.cell? ⟨g, off + j, none⟩ = some v)
    (hu : Tryd.prog.underlying ty = some d) (hd : (match d with | .struct _ | .array _ _ => true | _ => false) = true) (hi : (Tryd.prog.info? ty).map (·.size) = some cs.length)
    (h : wpAny Tryd.prog md ops Q fuel (listed.setIfInBounds i true) (a.put o.dst (.agg cs.toArray)) w)
    (hs : AllReady Tryd.prog md ops Q fuel listed a w rs) : AllReady Tryd.prog md ops Q fuel listed a w (i :: rs) := by
  refine AllReady.cons hoi (fun K' hK => ?_) hs
  rw [if_pos hw]
  have hrun := run_load_seg ty g off cs d hc hu hd hi
  unfold Oper.wp execOp
  simp only [ho, hx, Instr.loadAt, Instr.sureAddr, Sem.run_bind, Sem.run_pure, Result.andThen_ok, hrun]
  exact hK _ _ h

theorem crc9 : Crc.crc [49, 50, 51, 52, 53, 54, 55, 56, 57] = 3421780262 := by decide +kernel
theorem crc1 : Crc.crc [97] = 3904355907 := by decide +kernel
theorem crc0 : Crc.crc [] = 0 := by decide +kernel
theorem digest_nil : digest [] = Sha.sha [] := by
  unfold digest; rfl
theorem digest_abc : digest [97, 98, 99] = Sha.sha (Sha.sha [97, 98, 99]) := by
  unfold digest pieces
  rw [show ([97, 98, 99] : List Nat).length = 3 from rfl, show (3 + 511) / 512 = 1 from rfl]
  have e : upto (pieceB [97, 98, 99]) 1 = [[97, 98, 99]] := rfl
  rw [e]
  simp

set_option maxHeartbeats 8000000 in
set_option maxRecDepth 100000 in
theorem known_any (w : World) (hT : Tabs w) (hH : Half w) :
    Calls Tryd.prog 29 #[] w fun e w' => e = .returned (.bool true) ∧ Below w.heap.size w w' := by
  have HT : Hid (Tabs w) := hT
  have HHF : Hid (Half w) := hH
  clear hT hH
  obtain ⟨l1, hl1⟩ : ∃ l, l = Sha.sha [] := ⟨_, rfl⟩
  obtain ⟨l2, hl2⟩ : ∃ l, l = Sha.sha [97, 98, 99] := ⟨_, rfl⟩
  obtain ⟨l3, hl3⟩ : ∃ l, l = Sha.sha l2 := ⟨_, rfl⟩
  have H1 : Hid (l1 = Sha.sha [] ∧ l1.length = 32) := ⟨hl1, by rw [hl1]; exact sha_len _⟩
  have H2 : Hid (l2 = Sha.sha [97, 98, 99] ∧ l2.length = 32 ∧ Bytes l2) := ⟨hl2, by rw [hl2]; exact sha_len _, by rw [hl2]; exact bytes_sha _⟩
  have H3 : Hid (l3 = Sha.sha l2 ∧ l3.length = 32) := ⟨hl3, by rw [hl3]; exact sha_len _⟩
  obtain ⟨c1, hc1⟩ : ∃ c, c = (l1.map vb).toArray := ⟨_, rfl⟩
  obtain ⟨c2, hc2⟩ : ∃ c, c = (l2.map vb).toArray := ⟨_, rfl⟩
  have HC1 : Hid (c1 = (l1.map vb).toArray) := hc1
  have HC2 : Hid (c2 = (l2.map vb).toArray) := hc2
  have HF1 : Hid ((Tryd.prog.info? 41).map (·.size) = some c1.size ∧ (bfill 32 []).size = c1.size ∧ c1.all (·.oneCell') = true) := by rw [hc1, hl1]; exact ⟨hz41 _, ho41 _, all_vb _⟩
  have HF2 : Hid ((Tryd.prog.info? 41).map (·.size) = some c2.size ∧ (bfill 32 []).size = c2.size ∧ c2.all (·.oneCell') = true) := by rw [hc2, hl2]; exact ⟨hz41 _, ho41 _, all_vb _⟩
  have K1 : Hid (Calls Tryd.prog 13 #[.slice none 0 0] w fun e w' => e = .returned (.agg c1) ∧ Below w.heap.size w w') := by rw [hc1, hl1]; exact sha_none w HT.out
  have KS : Hid (∀ wz v p l, Tabs wz → HasL wz v [p] → Bytes p → p.length < 1000 → l = Sha.sha p → Calls Tryd.prog 13 #[v] wz fun e w' => e = .returned (.agg (l.map vb).toArray) ∧ Below wz.heap.size wz w') := fun wz v p l hz hv hp hpl e => by
    have h := sha_any v [p] wz hv (fun q hq => by rw [List.mem_singleton.1 hq]; exact hp) hz (by simp; omega) (by simp)
    rw [show [p].flatten = p by simp] at h
    rw [e]; exact h
  have B1 : Hid (c1[0]? = some (.int .u8 227) ∧ c1[1]? = some (.int .u8 176) ∧ c1[31]? = some (.int .u8 85)) := by rw [hc1, hl1, Sha.sha_none]; exact ⟨rfl, rfl, rfl⟩
  have B2 : Hid (c2[0]? = some (.int .u8 186) ∧ c2[1]? = some (.int .u8 120) ∧ c2[30]? = some (.int .u8 21) ∧ c2[31]? = some (.int .u8 173)) := by rw [hc2, hl2, Sha.sha_abc]; exact ⟨rfl, rfl, rfl, rfl⟩
  clear hc1 hc2 hl1 hl2 hl3
  go_enter Tryd.func29, Tryd.ntmps29
  go_upto_region 2 with (first | (go_at_call 13; refine K1.out.mono ?_; rintro e w1 ⟨rfl, hb1⟩; have HB1 : Hid (Below w.heap.size w w1) := hb1; clear hb1) | refine wpList_store_row rfl 41 (.tmp 1) (.tmp 3) rfl _ c1 rfl rfl 41 _ (heap_alloc_new _ _) HF1.out.1 HF1.out.2.1 HF1.out.2.2 ?_)
  refine step_world (fun W => W.heap[w1.heap.size]? = some (.cells c1 41 (0, 0)) ∧ Below w.heap.size w W) ⟨setRow_heap _ _ _ _ _ _ (heap_alloc_new _ _), below_setRow (HB1.out.alloc HB1.out.size _) HB1.out.size _⟩ fun W1 HH1 => ?_
  obtain ⟨g1, hg1⟩ : ∃ g, g = w1.heap.size := ⟨_, rfl⟩
  rw [← hg1] at HH1 ⊢
  have HW1 : Hid (W1.heap[g1]? = some (.cells c1 41 (0, 0)) ∧ Below w.heap.size w W1) := HH1
  clear HH1 hg1 HB1 K1
  obtain ⟨wa, cva, hga, hba, hsa, _⟩ := conv43 (W1.alloc (.cells #[.int .u8 97, .int .u8 98, .int .u8 99] 5)) W1.heap.size #[.int .u8 97, .int .u8 98, .int .u8 99] 3 3 (heap_alloc_new _ _) W1.heap.size W1 ((Below.refl _ W1).alloc (Nat.le_refl _) _) (Nat.le_refl _)
  have HWA : Hid (wa.heap[W1.heap.size]? = some (.cells #[.int .u8 97, .int .u8 98, .int .u8 99] 5 (3, 4)) ∧ Below W1.heap.size W1 wa ∧ wa.heap.size = W1.heap.size + 1) := ⟨hga, hba, by rw [hsa]; simp⟩
  clear hga hba hsa
  have K2 : Hid (∀ T2, Calls Tryd.prog 13 #[.slice (some ⟨wa.heap.size, 0, none⟩) 1 1] (wa.alloc (.cells #[.slice (some ⟨W1.heap.size, 0, none⟩) 3 3] T2)) fun e w' => e = .returned (.agg c2) ∧ Below W1.heap.size W1 w') := fun T2 => by
    have hb : Below W1.heap.size W1 (wa.alloc (.cells #[.slice (some ⟨W1.heap.size, 0, none⟩) 3 3] T2)) := HWA.out.2.1.alloc HWA.out.2.1.size _
    rw [HC2.out]
    refine (KS.out _ _ [97, 98, 99] l2 (HT.out.up (Below.up HW1.out.2 hb)) (hasL_one (heap_alloc_new _ _) (has_fr _ [97, 98, 99] rfl (by rw [heap_alloc_old _ _ (by have := HWA.out.2.2; omega)]; exact HWA.out.1))) (fun x hx => by simp at hx; omega) (by decide) H2.out.1).mono fun e w' ⟨h1, h2⟩ => ⟨h1, hb.trans (h2.mono hb.size)⟩
  go_upto_region 3 with (first | (go_at_call 13; refine (K2.out _).mono ?_; rintro e w2 ⟨rfl, hb2⟩; have HB2 : Hid (Below W1.heap.size W1 w2) := hb2; clear hb2) | refine wpList_store_row rfl 41 (.tmp 2) (.tmp 7) rfl _ c2 rfl rfl 41 _ (heap_alloc_new _ _) HF2.out.1 HF2.out.2.1 HF2.out.2.2 ?_)
  refine step_world (fun W => W.heap[g1]? = some (.cells c1 41 (0, 0)) ∧ W.heap[w2.heap.size]? = some (.cells c2 41 (0, 0)) ∧ Below w.heap.size w W) ⟨?_, setRow_heap _ _ _ _ _ _ (heap_alloc_new _ _), below_setRow ((Below.up HW1.out.2 HB2.out).alloc (Below.up HW1.out.2 HB2.out).size _) (Below.up HW1.out.2 HB2.out).size _⟩ fun W3 HH3 => ?_
  · have hlt := (Array.getElem?_eq_some_iff.1 HW1.out.1).1
    have := HB2.out.size
    rw [setRow_other _ _ _ _ (by omega), heap_alloc_old _ _ (by omega), HB2.out.block _ hlt]; exact HW1.out.1
  obtain ⟨g2, hg2⟩ : ∃ g, g = w2.heap.size := ⟨_, rfl⟩
  rw [← hg2] at HH3 ⊢
  have HW3 : Hid (W3.heap[g1]? = some (.cells c1 41 (0, 0)) ∧ W3.heap[g2]? = some (.cells c2 41 (0, 0)) ∧ Below w.heap.size w W3) := HH3
  clear HH3 hg2 HB2 K2 cva
  have q0 : W3.cell? ⟨g1, 0, none⟩ = some (.int .u8 227) := (cell_of_row _ _ _ _ _ _ HW3.out.1).trans B1.out.1
  have q1 : W3.cell? ⟨g1, 1, none⟩ = some (.int .u8 176) := (cell_of_row _ _ _ _ _ _ HW3.out.1).trans B1.out.2.1
  have q2 : W3.cell? ⟨g1, 31, none⟩ = some (.int .u8 85) := (cell_of_row _ _ _ _ _ _ HW3.out.1).trans B1.out.2.2
  have q3 : W3.cell? ⟨g2, 0, none⟩ = some (.int .u8 186) := (cell_of_row _ _ _ _ _ _ HW3.out.2.1).trans B2.out.1
  have q4 : W3.cell? ⟨g2, 1, none⟩ = some (.int .u8 120) := (cell_of_row _ _ _ _ _ _ HW3.out.2.1).trans B2.out.2.1
  have q5 : W3.cell? ⟨g2, 30, none⟩ = some (.int .u8 21) := (cell_of_row _ _ _ _ _ _ HW3.out.2.1).trans B2.out.2.2.1
  have q6 : W3.cell? ⟨g2, 31, none⟩ = some (.int .u8 173) := (cell_of_row _ _ _ _ _ _ HW3.out.2.1).trans B2.out.2.2.2
  go_wp2
  clear q0 q1 q2 q3 q4 q5 q6
  refine wp_region_any (by kernel_rfl) ?_
  change wpAny _ _ _ _ _ _ _ (World.drew _)
  generalize hw4 : World.drew W3 = w4
  have HW4 : Hid (w4.heap[g1]? = some (.cells c1 41 (0, 0)) ∧ w4.heap[g2]? = some (.cells c2 41 (0, 0)) ∧ Below w.heap.size w w4) := by
    rw [← hw4]; exact ⟨HW3.out.1, HW3.out.2.1, HW3.out.2.2.trans ⟨rfl, rfl, rfl, Nat.le_refl _, fun _ _ => rfl⟩⟩
  clear hw4 HW3 HW1
  have TT : Hid (∀ wz, Below w4.heap.size w4 wz → Tabs wz) := fun wz hz => HT.out.up (Below.up HW4.out.2.2 hz)
  have TH : Hid (∀ wz, Below w4.heap.size w4 wz → Half wz) := fun wz hz => HHF.out.up (Below.up HW4.out.2.2 hz)
  have KC : Hid (∀ wz v l x, Below w4.heap.size w4 wz → Has wz v l → Bytes l → l.length < 100 → Crc.crc l = x → Calls Tryd.prog 20 #[v] wz fun e w' => e = .returned (.int .u32 (x : Int)) ∧ wz = w') := fun wz v l x hz hv hB hl e => by rw [← e]; exact (crc_any v l wz hv hB (TH.out wz hz) (by omega)).mono fun _ _ h => ⟨h.1, h.2.symm⟩
  have KD : Hid (∀ wz v l r, Below w4.heap.size w4 wz → Has wz v l → Bytes l → l.length < 100 → digest l = r → Calls Tryd.prog 18 #[v] wz fun e w' => e = .returned (.agg (r.map vb).toArray) ∧ Below w4.heap.size w4 w') := fun wz v l r hz hv hB hl e => by
    rw [← e]
    exact (digest_any v l wz hv hB (TT.out wz hz) (by omega)).mono fun e w' ⟨h1, h2⟩ => ⟨h1, Below.up hz h2⟩
  have KD2 : Hid (∀ wz v r, Below w4.heap.size w4 wz → Has wz v [97, 98, 99] → digest [97, 98, 99] = r → Calls Tryd.prog 18 #[v] wz fun e w' => e = .returned (.agg (r.map vb).toArray) ∧ Below wz.heap.size wz w') := fun wz v r hz hv e => by
    rw [← e]
    exact digest_any v _ wz hv (fun x hx => by simp at hx; omega) (TT.out wz hz) (by decide)
  have Ew4 : Hid (Below w4.heap.size w4 w4) := Below.refl _ _
  have G1 : Hid (∀ wz, Below w4.heap.size w4 wz → ∀ j v, (l1.map vb)[j]? = some v → wz.cell? ⟨g1, 0 + j, none⟩ = some v) := fun wz hz j v hj => by
    rw [cell_of_row _ g1 _ _ _ _ ((hz.block _ (Array.getElem?_eq_some_iff.1 HW4.out.1).1).trans HW4.out.1), HC1.out, Nat.zero_add]; simpa using hj
  have G2 : Hid (∀ wz, Below w4.heap.size w4 wz → Has wz (.slice (some ⟨g2, 0, none⟩) 32 32) l2) := fun wz hz => by
    have h := has_fr c2 l2 HC2.out ((hz.block _ (Array.getElem?_eq_some_iff.1 HW4.out.2.1).1).trans HW4.out.2.1)
    rw [H2.out.2.1] at h; exact h
  have Z1 : Hid ((Tryd.prog.info? 41).map (·.size) = some (l1.map vb).length) := by show _ = _; rw [List.length_map, H1.out.2]; kernel_rfl
  have sl2 := slice41_all g2
  refine wpAny_ready (rs := [0]) (by kernel_rfl) (by simp) ?_
  refine AllReady.cons rfl (fun K' hK' => ?_) AllReady.nil
  go_simp
  refine hK' _ _ ?_
  clear hK' K'
  obtain ⟨w5, cv5, hg5, hb5, hs5, _⟩ := conv43 (w4.alloc (.cells #[.int .u8 49, .int .u8 50, .int .u8 51, .int .u8 52, .int .u8 53, .int .u8 54, .int .u8 55, .int .u8 56, .int .u8 57] 5)) w4.heap.size #[.int .u8 49, .int .u8 50, .int .u8 51, .int .u8 52, .int .u8 53, .int .u8 54, .int .u8 55, .int .u8 56, .int .u8 57] 9 9 (heap_alloc_new _ _) w4.heap.size w4 (Ew4.out.alloc Ew4.out.size _) Ew4.out.size
  refine wpAny_ready (rs := [1]) (by kernel_rfl) (by simp) ?_
  refine AllReady.cons rfl (fun K' hK' => ?_) AllReady.nil
  go_simp
  refine hK' _ _ ?_
  clear hK' K'
  have Ew5 : Hid (Below w4.heap.size w4 w5) := hb5
  have HA5 : Hid (Has w5 (.slice (some ⟨w4.heap.size, 0, none⟩) 9 9) [49, 50, 51, 52, 53, 54, 55, 56, 57]) := has_fr _ [49, 50, 51, 52, 53, 54, 55, 56, 57] rfl hg5
  clear cv5 hg5 hb5 hs5
  refine wpAny_ready (rs := [2]) (by kernel_rfl) (by simp) ?_
  refine AllReady.cons rfl (fun K' hK' => ?_) AllReady.nil
  go_simp
  refine (KC.out _ _ _ 3421780262 Ew5.out HA5.out (fun x hx => by simp at hx; omega) (by decide) crc9).mono ?_
  rintro e w' ⟨rfl, rfl⟩
  refine hK' _ _ ?_
  clear hK' K'
  refine wpAny_take (i := 3) (v := .bool true) rfl (by kernel_rfl) (by kernel_rfl) (by kernel_rfl) (fun _ _ _ h => h) (Or.inl ⟨by kernel_rfl, ?_⟩) ?_
  · intro wz; go_simp
  refine wpAny_take (i := 4) (v := .bool true) rfl (by kernel_rfl) (by kernel_rfl) (by kernel_rfl) (fun _ _ _ h => h) (Or.inl ⟨by kernel_rfl, ?_⟩) ?_
  · intro wz; go_simp
  simp only [Act.put, List.getElem_toArray, List.getElem_cons_zero, List.getElem_cons_succ, List.setIfInBounds_toArray, List.set_cons_zero, List.set_cons_succ]
  refine wpAny_ready (rs := [5]) (by kernel_rfl) (by simp) ?_
  refine AllReady.cons rfl (fun K' hK' => ?_) AllReady.nil
  go_simp
  refine hK' _ _ ?_
  clear hK' K'
  obtain ⟨w6, cv6, hg6, hb6, hs6, _⟩ := conv43 (w5.alloc (.cells #[.int .u8 97] 5)) w5.heap.size #[.int .u8 97] 1 1 (heap_alloc_new _ _) w4.heap.size w4 (Ew5.out.alloc Ew5.out.size _) Ew5.out.size
  refine wpAny_ready (rs := [6]) (by kernel_rfl) (by simp) ?_
  refine AllReady.cons rfl (fun K' hK' => ?_) AllReady.nil
  go_simp
  refine hK' _ _ ?_
  clear hK' K'
  have Ew6 : Hid (Below w4.heap.size w4 w6) := hb6
  have HA6 : Hid (Has w6 (.slice (some ⟨w5.heap.size, 0, none⟩) 1 1) [97]) := has_fr _ [97] rfl hg6
  clear cv6 hg6 hb6 hs6
  refine wpAny_ready (rs := [7]) (by kernel_rfl) (by simp) ?_
  refine AllReady.cons rfl (fun K' hK' => ?_) AllReady.nil
  go_simp
  refine (KC.out _ _ _ 3904355907 Ew6.out HA6.out (fun x hx => by simp at hx; omega) (by decide) crc1).mono ?_
  rintro e w' ⟨rfl, rfl⟩
  refine hK' _ _ ?_
  clear hK' K'
  refine wpAny_take (i := 8) (v := .bool true) rfl (by kernel_rfl) (by kernel_rfl) (by kernel_rfl) (fun _ _ _ h => h) (Or.inl ⟨by kernel_rfl, ?_⟩) ?_
  · intro wz; go_simp
  refine wpAny_take (i := 9) (v := .bool true) rfl (by kernel_rfl) (by kernel_rfl) (by kernel_rfl) (fun _ _ _ h => h) (Or.inl ⟨by kernel_rfl, ?_⟩) ?_
  · intro wz; go_simp
  refine wpAny_take (i := 10) (v := .bool true) rfl (by kernel_rfl) (by kernel_rfl) (by kernel_rfl) (fun _ _ _ h => h) (Or.inl ⟨by kernel_rfl, ?_⟩) ?_
  · intro wz; go_simp
  simp only [Act.put, List.getElem_toArray, List.getElem_cons_zero, List.getElem_cons_succ, List.setIfInBounds_toArray, List.set_cons_zero, List.set_cons_succ]
  refine wpAny_ready (rs := [11]) (by kernel_rfl) (by simp) ?_
  refine AllReady.cons rfl (fun K' hK' => ?_) AllReady.nil
  go_simp
  refine (KC.out _ _ [] 0 Ew6.out (Has.nil _) (fun x hx => by simp at hx) (by decide) crc0).mono ?_
  rintro e w' ⟨rfl, rfl⟩
  refine hK' _ _ ?_
  clear hK' K'
  refine wpAny_take (i := 12) (v := .bool true) rfl (by kernel_rfl) (by kernel_rfl) (by kernel_rfl) (fun _ _ _ h => h) (Or.inl ⟨by kernel_rfl, ?_⟩) ?_
  · intro wz; go_simp
  refine wpAny_take (i := 13) (v := .bool true) rfl (by kernel_rfl) (by kernel_rfl) (by kernel_rfl) (fun _ _ _ h => h) (Or.inl ⟨by kernel_rfl, ?_⟩) ?_
  · intro wz; go_simp
  refine wpAny_take (i := 14) (v := .bool true) rfl (by kernel_rfl) (by kernel_rfl) (by kernel_rfl) (fun _ _ _ h => h) (Or.inl ⟨by kernel_rfl, ?_⟩) ?_
  · intro wz; go_simp
  simp only [Act.put, List.getElem_toArray, List.getElem_cons_zero, List.getElem_cons_succ, List.setIfInBounds_toArray, List.set_cons_zero, List.set_cons_succ]
  refine wpAny_ready (rs := [15, 16]) (by kernel_rfl) (by simp) ?_
  refine AllReady.cons rfl (fun K' hK' => ?_) (ar_load rfl (by kernel_rfl) 41 (.tmp 1) rfl g1 0 rfl (l1.map vb) (.array 32 5) (G1.out _ Ew6.out) Tryd.underlying41 rfl Z1.out ?_ AllReady.nil)
  · go_simp
    refine (KD.out _ _ [] l1 Ew6.out (Has.nil _) (fun x hx => by simp at hx) (by decide) (by rw [digest_nil, H1.out.1])).mono ?_
    rintro e w7 ⟨rfl, hb7⟩
    have Ew7 : Hid (Below w4.heap.size w4 w7) := hb7
    clear hb7
    refine hK' _ _ ?_
    clear hK' K'
    refine wpAny_ready (rs := [16]) (by kernel_rfl) (by simp) ?_
    refine ar_load rfl (by kernel_rfl) 41 (.tmp 1) rfl g1 0 rfl (l1.map vb) (.array 32 5) (G1.out _ Ew7.out) Tryd.underlying41 rfl Z1.out ?_ AllReady.nil
    simp only [Act.put, List.getElem_toArray, List.getElem_cons_zero, List.getElem_cons_succ, List.setIfInBounds_toArray, List.set_cons_zero, List.set_cons_succ]
    refine wpAny_take (i := 17) (v := .bool true) rfl (by kernel_rfl) (by kernel_rfl) (by kernel_rfl) (fun _ _ _ h => h) (yields_eql41 (.tmp 56) (.tmp 57) l1 H1.out.2 rfl (by kernel_rfl) rfl rfl) ?_
    refine wpAny_take (i := 18) (v := .bool true) rfl (by kernel_rfl) (by kernel_rfl) (by kernel_rfl) (fun _ _ _ h => h) (Or.inl ⟨by kernel_rfl, ?_⟩) ?_
    · intro wz; go_simp
    refine wpAny_take (i := 19) (v := .bool true) rfl (by kernel_rfl) (by kernel_rfl) (by kernel_rfl) (fun _ _ _ h => h) (Or.inl ⟨by kernel_rfl, ?_⟩) ?_
    · intro wz; go_simp
    refine wpAny_take (i := 23) (v := .slice (some ⟨g2, 0, none⟩) 32 32) rfl (by kernel_rfl) (by kernel_rfl) (by kernel_rfl) (fun _ _ _ h => h) (Or.inl ⟨by kernel_rfl, ?_⟩) ?_
    · intro wz; go_simp
    simp only [Act.put, List.getElem_toArray, List.getElem_cons_zero, List.getElem_cons_succ, List.setIfInBounds_toArray, List.set_cons_zero, List.set_cons_succ]
    refine wpAny_ready (rs := [20, 24]) (by kernel_rfl) (by simp) ?_
    refine AllReady.cons rfl (fun K' hK' => ?_) (AllReady.cons rfl (fun K' hK' => ?_) AllReady.nil)
    · go_simp
      refine hK' _ _ ?_
      clear hK' K'
      generalize hq : w7.alloc (.cells #[.int .u8 97, .int .u8 98, .int .u8 99] 5) = w11
      have Ew11 : Hid (Below w4.heap.size w4 w11) := by rw [← hq]; exact Ew7.out.alloc Ew7.out.size _
      have FAw11 : Hid (w11.heap[w7.heap.size]? = some (.cells #[.int .u8 97, .int .u8 98, .int .u8 99] 5 (0, 0))) := by rw [← hq]; exact heap_alloc_new _ _
      have HLE : Hid (w4.heap.size ≤ w7.heap.size) := Ew7.out.size
      clear hq
      refine wpAny_ready (rs := [21, 24]) (by kernel_rfl) (by simp) ?_
      refine AllReady.cons rfl (fun K' hK' => ?_) (AllReady.cons rfl (fun K' hK' => ?_) AllReady.nil)
      · obtain ⟨w12, cv, hg, hb, hsz, hk⟩ := conv43 w11 w7.heap.size #[.int .u8 97, .int .u8 98, .int .u8 99] 3 3 FAw11.out w4.heap.size w4 Ew11.out HLE.out
        clear hsz
        go_simp
        refine hK' _ _ ?_
        clear hK' K'
        have Ew12 : Hid (Below w4.heap.size w4 w12) := hb
        have FAw12 : Hid (w12.heap[w7.heap.size]? = some (.cells #[.int .u8 97, .int .u8 98, .int .u8 99] 5 (3, 4))) := hg
        clear cv hg hb hk
        refine wpAny_ready (rs := [22, 24]) (by kernel_rfl) (by simp) ?_
        refine AllReady.cons rfl (fun K' hK' => ?_) (AllReady.cons rfl (fun K' hK' => ?_) AllReady.nil)
        · go_simp
          refine (KD2.out _ _ l3 Ew12.out (has_fr _ [97, 98, 99] rfl FAw12.out) (by rw [digest_abc, H3.out.1, H2.out.1])).mono ?_
          rintro e w13 ⟨rfl, hbd⟩
          refine hK' _ _ ?_
          clear hK' K'
          have Ew13 : Hid (Below w4.heap.size w4 w13) := Below.up Ew12.out hbd
          clear hbd
          refine wpAny_ready (rs := [24]) (by kernel_rfl) (by simp) ?_
          refine AllReady.cons rfl (fun K' hK' => ?_) AllReady.nil
          go_simp
          refine hK' _ _ ?_
          clear hK' K'
          generalize hq : w13.alloc (.cells #[.slice (some ⟨g2, 0, none⟩) 32 32] 43) = w14
          have Ew14 : Hid (Below w4.heap.size w4 w14) := by rw [← hq]; exact Ew13.out.alloc Ew13.out.size _
          have FBw14 : Hid (w14.heap[w13.heap.size]? = some (.cells #[.slice (some ⟨g2, 0, none⟩) 32 32] 43 (0, 0))) := by rw [← hq]; exact heap_alloc_new _ _
          clear hq
          refine wpAny_ready (rs := [25]) (by kernel_rfl) (by simp) ?_
          refine AllReady.cons rfl (fun K' hK' => ?_) AllReady.nil
          go_simp
          refine (KS.out _ _ l2 l3 (TT.out _ Ew14.out) (hasL_one FBw14.out (G2.out _ Ew14.out)) H2.out.2.2 (by rw [H2.out.2.1]; decide) H3.out.1).mono ?_
          rintro e wz ⟨rfl, hbz⟩
          have Ewz : Hid (Below w.heap.size w wz) := Below.up HW4.out.2.2 (Below.up Ew14.out hbz)
          clear hbz
          refine hK' _ _ ?_
          clear hK' K'
          refine wpAny_take (i := 26) (v := .bool true) rfl (by kernel_rfl) (by kernel_rfl) (by kernel_rfl) (fun _ _ _ h => h) (yields_eql41 (.tmp 63) (.tmp 66) l3 H3.out.2 rfl (by kernel_rfl) rfl rfl) ?_
          refine wpAny_take (i := 27) (v := .bool true) rfl (by kernel_rfl) (by kernel_rfl) (by kernel_rfl) (fun _ _ _ h => h) (Or.inl ⟨by kernel_rfl, ?_⟩) ?_
          · intro wz; go_simp
          refine wpAny_take (i := 28) (v := .bool true) rfl (by kernel_rfl) (by kernel_rfl) (by kernel_rfl) (fun _ _ _ h => h) (Or.inl ⟨by kernel_rfl, ?_⟩) ?_
          · intro wz; go_simp
          refine wpAny_done (by kernel_rfl) ?_ _
          go_simp
          go_wp2
          go_ret
          exact ⟨rfl, Ewz.out⟩
        · go_simp
          refine hK' _ _ ?_
          clear hK' K'
          generalize hq : w12.alloc (.cells #[.slice (some ⟨g2, 0, none⟩) 32 32] 43) = w15
          have Ew15 : Hid (Below w4.heap.size w4 w15) := by rw [← hq]; exact Ew12.out.alloc Ew12.out.size _
          have FBw15 : Hid (w15.heap[w12.heap.size]? = some (.cells #[.slice (some ⟨g2, 0, none⟩) 32 32] 43 (0, 0))) := by rw [← hq]; exact heap_alloc_new _ _
          have HNE : Hid (w7.heap.size ≠ w12.heap.size ∧ w4.heap.size ≤ w7.heap.size) := ⟨by have := (Array.getElem?_eq_some_iff.1 FAw12.out).1; omega, HLE.out⟩
          have FAw15 : Hid (w15.heap[w7.heap.size]? = some (.cells #[.int .u8 97, .int .u8 98, .int .u8 99] 5 (3, 4))) := by rw [← hq]; show _ = _; rw [heap_alloc_old _ _ (Array.getElem?_eq_some_iff.1 FAw12.out).1]; exact FAw12.out
          clear hq
          refine wpAny_ready (rs := [22]) (by kernel_rfl) (by simp) ?_
          refine AllReady.cons rfl (fun K' hK' => ?_) AllReady.nil
          go_simp
          refine (KD2.out _ _ l3 Ew15.out (has_fr _ [97, 98, 99] rfl FAw15.out) (by rw [digest_abc, H3.out.1, H2.out.1])).mono ?_
          rintro e w16 ⟨rfl, hbd⟩
          refine hK' _ _ ?_
          clear hK' K'
          have Ew16 : Hid (Below w4.heap.size w4 w16) := Below.up Ew15.out hbd
          have FBw16 : Hid (w16.heap[w12.heap.size]? = some (.cells #[.slice (some ⟨g2, 0, none⟩) 32 32] 43 (0, 0))) := (hbd.block _ (Array.getElem?_eq_some_iff.1 FBw15.out).1).trans FBw15.out
          clear hbd
          refine wpAny_ready (rs := [25]) (by kernel_rfl) (by simp) ?_
          refine AllReady.cons rfl (fun K' hK' => ?_) AllReady.nil
          go_simp
          refine (KS.out _ _ l2 l3 (TT.out _ Ew16.out) (hasL_one FBw16.out (G2.out _ Ew16.out)) H2.out.2.2 (by rw [H2.out.2.1]; decide) H3.out.1).mono ?_
          rintro e wz ⟨rfl, hbz⟩
          have Ewz : Hid (Below w.heap.size w wz) := Below.up HW4.out.2.2 (Below.up Ew16.out hbz)
          clear hbz
          refine hK' _ _ ?_
          clear hK' K'
          refine wpAny_take (i := 26) (v := .bool true) rfl (by kernel_rfl) (by kernel_rfl) (by kernel_rfl) (fun _ _ _ h => h) (yields_eql41 (.tmp 63) (.tmp 66) l3 H3.out.2 rfl (by kernel_rfl) rfl rfl) ?_
          refine wpAny_take (i := 27) (v := .bool true) rfl (by kernel_rfl) (by kernel_rfl) (by kernel_rfl) (fun _ _ _ h => h) (Or.inl ⟨by kernel_rfl, ?_⟩) ?_
          · intro wz; go_simp
          refine wpAny_take (i := 28) (v := .bool true) rfl (by kernel_rfl) (by kernel_rfl) (by kernel_rfl) (fun _ _ _ h => h) (Or.inl ⟨by kernel_rfl, ?_⟩) ?_
          · intro wz; go_simp
          refine wpAny_done (by kernel_rfl) ?_ _
          go_simp
          go_wp2
          go_ret
          exact ⟨rfl, Ewz.out⟩
      · go_simp
        refine hK' _ _ ?_
        clear hK' K'
        generalize hq : w11.alloc (.cells #[.slice (some ⟨g2, 0, none⟩) 32 32] 43) = w17
        have Ew17 : Hid (Below w4.heap.size w4 w17) := by rw [← hq]; exact Ew11.out.alloc Ew11.out.size _
        have FBw17 : Hid (w17.heap[w11.heap.size]? = some (.cells #[.slice (some ⟨g2, 0, none⟩) 32 32] 43 (0, 0))) := by rw [← hq]; exact heap_alloc_new _ _
        have HNE : Hid (w7.heap.size ≠ w11.heap.size ∧ w4.heap.size ≤ w7.heap.size) := ⟨by have := (Array.getElem?_eq_some_iff.1 FAw11.out).1; omega, HLE.out⟩
        have FAw17 : Hid (w17.heap[w7.heap.size]? = some (.cells #[.int .u8 97, .int .u8 98, .int .u8 99] 5 (0, 0))) := by rw [← hq]; show _ = _; rw [heap_alloc_old _ _ (Array.getElem?_eq_some_iff.1 FAw11.out).1]; exact FAw11.out
        clear hq
        refine wpAny_ready (rs := [21]) (by kernel_rfl) (by simp) ?_
        refine AllReady.cons rfl (fun K' hK' => ?_) AllReady.nil
        obtain ⟨w18, cv, hg, hb, hsz, hk⟩ := conv43 w17 w7.heap.size #[.int .u8 97, .int .u8 98, .int .u8 99] 3 3 FAw17.out w4.heap.size w4 Ew17.out HNE.out.2
        clear hsz
        go_simp
        refine hK' _ _ ?_
        clear hK' K'
        have Ew18 : Hid (Below w4.heap.size w4 w18) := hb
        have FAw18 : Hid (w18.heap[w7.heap.size]? = some (.cells #[.int .u8 97, .int .u8 98, .int .u8 99] 5 (3, 4))) := hg
        have FBw18 : Hid (w18.heap[w11.heap.size]? = some (.cells #[.slice (some ⟨g2, 0, none⟩) 32 32] 43 (0, 0))) := (hk _ (Ne.symm HNE.out.1)).trans FBw17.out
        clear cv hg hb hk
        refine wpAny_ready (rs := [22]) (by kernel_rfl) (by simp) ?_
        refine AllReady.cons rfl (fun K' hK' => ?_) AllReady.nil
        go_simp
        refine (KD2.out _ _ l3 Ew18.out (has_fr _ [97, 98, 99] rfl FAw18.out) (by rw [digest_abc, H3.out.1, H2.out.1])).mono ?_
        rintro e w19 ⟨rfl, hbd⟩
        refine hK' _ _ ?_
        clear hK' K'
        have Ew19 : Hid (Below w4.heap.size w4 w19) := Below.up Ew18.out hbd
        have FBw19 : Hid (w19.heap[w11.heap.size]? = some (.cells #[.slice (some ⟨g2, 0, none⟩) 32 32] 43 (0, 0))) := (hbd.block _ (Array.getElem?_eq_some_iff.1 FBw18.out).1).trans FBw18.out
        clear hbd
        refine wpAny_ready (rs := [25]) (by kernel_rfl) (by simp) ?_
        refine AllReady.cons rfl (fun K' hK' => ?_) AllReady.nil
        go_simp
        refine (KS.out _ _ l2 l3 (TT.out _ Ew19.out) (hasL_one FBw19.out (G2.out _ Ew19.out)) H2.out.2.2 (by rw [H2.out.2.1]; decide) H3.out.1).mono ?_
        rintro e wz ⟨rfl, hbz⟩
        have Ewz : Hid (Below w.heap.size w wz) := Below.up HW4.out.2.2 (Below.up Ew19.out hbz)
        clear hbz
        refine hK' _ _ ?_
        clear hK' K'
        refine wpAny_take (i := 26) (v := .bool true) rfl (by kernel_rfl) (by kernel_rfl) (by kernel_rfl) (fun _ _ _ h => h) (yields_eql41 (.tmp 63) (.tmp 66) l3 H3.out.2 rfl (by kernel_rfl) rfl rfl) ?_
        refine wpAny_take (i := 27) (v := .bool true) rfl (by kernel_rfl) (by kernel_rfl) (by kernel_rfl) (fun _ _ _ h => h) (Or.inl ⟨by kernel_rfl, ?_⟩) ?_
        · intro wz; go_simp
        refine wpAny_take (i := 28) (v := .bool true) rfl (by kernel_rfl) (by kernel_rfl) (by kernel_rfl) (fun _ _ _ h => h) (Or.inl ⟨by kernel_rfl, ?_⟩) ?_
        · intro wz; go_simp
        refine wpAny_done (by kernel_rfl) ?_ _
        go_simp
        go_wp2
        go_ret
        exact ⟨rfl, Ewz.out⟩
    · go_simp
      refine hK' _ _ ?_
      clear hK' K'
      generalize hq : w7.alloc (.cells #[.slice (some ⟨g2, 0, none⟩) 32 32] 43) = w20
      have Ew20 : Hid (Below w4.heap.size w4 w20) := by rw [← hq]; exact Ew7.out.alloc Ew7.out.size _
      have FBw20 : Hid (w20.heap[w7.heap.size]? = some (.cells #[.slice (some ⟨g2, 0, none⟩) 32 32] 43 (0, 0))) := by rw [← hq]; exact heap_alloc_new _ _
      clear hq
      refine wpAny_ready (rs := [20]) (by kernel_rfl) (by simp) ?_
      refine AllReady.cons rfl (fun K' hK' => ?_) AllReady.nil
      go_simp
      refine hK' _ _ ?_
      clear hK' K'
      generalize hq : w20.alloc (.cells #[.int .u8 97, .int .u8 98, .int .u8 99] 5) = w21
      have Ew21 : Hid (Below w4.heap.size w4 w21) := by rw [← hq]; exact Ew20.out.alloc Ew20.out.size _
      have FAw21 : Hid (w21.heap[w20.heap.size]? = some (.cells #[.int .u8 97, .int .u8 98, .int .u8 99] 5 (0, 0))) := by rw [← hq]; exact heap_alloc_new _ _
      have HNE : Hid (w20.heap.size ≠ w7.heap.size ∧ w4.heap.size ≤ w20.heap.size) := ⟨by have := (Array.getElem?_eq_some_iff.1 FBw20.out).1; omega, Ew20.out.size⟩
      have FBw21 : Hid (w21.heap[w7.heap.size]? = some (.cells #[.slice (some ⟨g2, 0, none⟩) 32 32] 43 (0, 0))) := by rw [← hq]; show _ = _; rw [heap_alloc_old _ _ (Array.getElem?_eq_some_iff.1 FBw20.out).1]; exact FBw20.out
      clear hq
      refine wpAny_ready (rs := [21]) (by kernel_rfl) (by simp) ?_
      refine AllReady.cons rfl (fun K' hK' => ?_) AllReady.nil
      obtain ⟨w22, cv, hg, hb, hsz, hk⟩ := conv43 w21 w20.heap.size #[.int .u8 97, .int .u8 98, .int .u8 99] 3 3 FAw21.out w4.heap.size w4 Ew21.out HNE.out.2
      clear hsz
      go_simp
      refine hK' _ _ ?_
      clear hK' K'
      have Ew22 : Hid (Below w4.heap.size w4 w22) := hb
      have FAw22 : Hid (w22.heap[w20.heap.size]? = some (.cells #[.int .u8 97, .int .u8 98, .int .u8 99] 5 (3, 4))) := hg
      have FBw22 : Hid (w22.heap[w7.heap.size]? = some (.cells #[.slice (some ⟨g2, 0, none⟩) 32 32] 43 (0, 0))) := (hk _ (Ne.symm HNE.out.1)).trans FBw21.out
      clear cv hg hb hk
      refine wpAny_ready (rs := [22]) (by kernel_rfl) (by simp) ?_
      refine AllReady.cons rfl (fun K' hK' => ?_) AllReady.nil
      go_simp
      refine (KD2.out _ _ l3 Ew22.out (has_fr _ [97, 98, 99] rfl FAw22.out) (by rw [digest_abc, H3.out.1, H2.out.1])).mono ?_
      rintro e w23 ⟨rfl, hbd⟩
      refine hK' _ _ ?_
      clear hK' K'
      have Ew23 : Hid (Below w4.heap.size w4 w23) := Below.up Ew22.out hbd
      have FBw23 : Hid (w23.heap[w7.heap.size]? = some (.cells #[.slice (some ⟨g2, 0, none⟩) 32 32] 43 (0, 0))) := (hbd.block _ (Array.getElem?_eq_some_iff.1 FBw22.out).1).trans FBw22.out
      clear hbd
      refine wpAny_ready (rs := [25]) (by kernel_rfl) (by simp) ?_
      refine AllReady.cons rfl (fun K' hK' => ?_) AllReady.nil
      go_simp
      refine (KS.out _ _ l2 l3 (TT.out _ Ew23.out) (hasL_one FBw23.out (G2.out _ Ew23.out)) H2.out.2.2 (by rw [H2.out.2.1]; decide) H3.out.1).mono ?_
      rintro e wz ⟨rfl, hbz⟩
      have Ewz : Hid (Below w.heap.size w wz) := Below.up HW4.out.2.2 (Below.up Ew23.out hbz)
      clear hbz
      refine hK' _ _ ?_
      clear hK' K'
      refine wpAny_take (i := 26) (v := .bool true) rfl (by kernel_rfl) (by kernel_rfl) (by kernel_rfl) (fun _ _ _ h => h) (yields_eql41 (.tmp 63) (.tmp 66) l3 H3.out.2 rfl (by kernel_rfl) rfl rfl) ?_
      refine wpAny_take (i := 27) (v := .bool true) rfl (by kernel_rfl) (by kernel_rfl) (by kernel_rfl) (fun _ _ _ h => h) (Or.inl ⟨by kernel_rfl, ?_⟩) ?_
      · intro wz; go_simp
      refine wpAny_take (i := 28) (v := .bool true) rfl (by kernel_rfl) (by kernel_rfl) (by kernel_rfl) (fun _ _ _ h => h) (Or.inl ⟨by kernel_rfl, ?_⟩) ?_
      · intro wz; go_simp
      refine wpAny_done (by kernel_rfl) ?_ _
      go_simp
      go_wp2
      go_ret
      exact ⟨rfl, Ewz.out⟩
  · simp only [Act.put, List.getElem_toArray, List.getElem_cons_zero, List.getElem_cons_succ, List.setIfInBounds_toArray, List.set_cons_zero, List.set_cons_succ]
    refine wpAny_ready (rs := [15]) (by kernel_rfl) (by simp) ?_
    refine AllReady.cons rfl (fun K' hK' => ?_) AllReady.nil
    go_simp
    refine (KD.out _ _ [] l1 Ew6.out (Has.nil _) (fun x hx => by simp at hx) (by decide) (by rw [digest_nil, H1.out.1])).mono ?_
    rintro e w7 ⟨rfl, hb7⟩
    have Ew7 : Hid (Below w4.heap.size w4 w7) := hb7
    clear hb7
    refine hK' _ _ ?_
    clear hK' K'
    refine wpAny_take (i := 17) (v := .bool true) rfl (by kernel_rfl) (by kernel_rfl) (by kernel_rfl) (fun _ _ _ h => h) (yields_eql41 (.tmp 56) (.tmp 57) l1 H1.out.2 rfl (by kernel_rfl) rfl rfl) ?_
    refine wpAny_take (i := 18) (v := .bool true) rfl (by kernel_rfl) (by kernel_rfl) (by kernel_rfl) (fun _ _ _ h => h) (Or.inl ⟨by kernel_rfl, ?_⟩) ?_
    · intro wz; go_simp
    refine wpAny_take (i := 19) (v := .bool true) rfl (by kernel_rfl) (by kernel_rfl) (by kernel_rfl) (fun _ _ _ h => h) (Or.inl ⟨by kernel_rfl, ?_⟩) ?_
    · intro wz; go_simp
    refine wpAny_take (i := 23) (v := .slice (some ⟨g2, 0, none⟩) 32 32) rfl (by kernel_rfl) (by kernel_rfl) (by kernel_rfl) (fun _ _ _ h => h) (Or.inl ⟨by kernel_rfl, ?_⟩) ?_
    · intro wz; go_simp
    simp only [Act.put, List.getElem_toArray, List.getElem_cons_zero, List.getElem_cons_succ, List.setIfInBounds_toArray, List.set_cons_zero, List.set_cons_succ]
    refine wpAny_ready (rs := [20, 24]) (by kernel_rfl) (by simp) ?_
    refine AllReady.cons rfl (fun K' hK' => ?_) (AllReady.cons rfl (fun K' hK' => ?_) AllReady.nil)
    · go_simp
      refine hK' _ _ ?_
      clear hK' K'
      generalize hq : w7.alloc (.cells #[.int .u8 97, .int .u8 98, .int .u8 99] 5) = w24
      have Ew24 : Hid (Below w4.heap.size w4 w24) := by rw [← hq]; exact Ew7.out.alloc Ew7.out.size _
      have FAw24 : Hid (w24.heap[w7.heap.size]? = some (.cells #[.int .u8 97, .int .u8 98, .int .u8 99] 5 (0, 0))) := by rw [← hq]; exact heap_alloc_new _ _
      have HLE : Hid (w4.heap.size ≤ w7.heap.size) := Ew7.out.size
      clear hq
      refine wpAny_ready (rs := [21, 24]) (by kernel_rfl) (by simp) ?_
      refine AllReady.cons rfl (fun K' hK' => ?_) (AllReady.cons rfl (fun K' hK' => ?_) AllReady.nil)
      · obtain ⟨w25, cv, hg, hb, hsz, hk⟩ := conv43 w24 w7.heap.size #[.int .u8 97, .int .u8 98, .int .u8 99] 3 3 FAw24.out w4.heap.size w4 Ew24.out HLE.out
        clear hsz
        go_simp
        refine hK' _ _ ?_
        clear hK' K'
        have Ew25 : Hid (Below w4.heap.size w4 w25) := hb
        have FAw25 : Hid (w25.heap[w7.heap.size]? = some (.cells #[.int .u8 97, .int .u8 98, .int .u8 99] 5 (3, 4))) := hg
        clear cv hg hb hk
        refine wpAny_ready (rs := [22, 24]) (by kernel_rfl) (by simp) ?_
        refine AllReady.cons rfl (fun K' hK' => ?_) (AllReady.cons rfl (fun K' hK' => ?_) AllReady.nil)
        · go_simp
          refine (KD2.out _ _ l3 Ew25.out (has_fr _ [97, 98, 99] rfl FAw25.out) (by rw [digest_abc, H3.out.1, H2.out.1])).mono ?_
          rintro e w26 ⟨rfl, hbd⟩
          refine hK' _ _ ?_
          clear hK' K'
          have Ew26 : Hid (Below w4.heap.size w4 w26) := Below.up Ew25.out hbd
          clear hbd
          refine wpAny_ready (rs := [24]) (by kernel_rfl) (by simp) ?_
          refine AllReady.cons rfl (fun K' hK' => ?_) AllReady.nil
          go_simp
          refine hK' _ _ ?_
          clear hK' K'
          generalize hq : w26.alloc (.cells #[.slice (some ⟨g2, 0, none⟩) 32 32] 43) = w27
          have Ew27 : Hid (Below w4.heap.size w4 w27) := by rw [← hq]; exact Ew26.out.alloc Ew26.out.size _
          have FBw27 : Hid (w27.heap[w26.heap.size]? = some (.cells #[.slice (some ⟨g2, 0, none⟩) 32 32] 43 (0, 0))) := by rw [← hq]; exact heap_alloc_new _ _
          clear hq
          refine wpAny_ready (rs := [25]) (by kernel_rfl) (by simp) ?_
          refine AllReady.cons rfl (fun K' hK' => ?_) AllReady.nil
          go_simp
          refine (KS.out _ _ l2 l3 (TT.out _ Ew27.out) (hasL_one FBw27.out (G2.out _ Ew27.out)) H2.out.2.2 (by rw [H2.out.2.1]; decide) H3.out.1).mono ?_
          rintro e wz ⟨rfl, hbz⟩
          have Ewz : Hid (Below w.heap.size w wz) := Below.up HW4.out.2.2 (Below.up Ew27.out hbz)
          clear hbz
          refine hK' _ _ ?_
          clear hK' K'
          refine wpAny_take (i := 26) (v := .bool true) rfl (by kernel_rfl) (by kernel_rfl) (by kernel_rfl) (fun _ _ _ h => h) (yields_eql41 (.tmp 63) (.tmp 66) l3 H3.out.2 rfl (by kernel_rfl) rfl rfl) ?_
          refine wpAny_take (i := 27) (v := .bool true) rfl (by kernel_rfl) (by kernel_rfl) (by kernel_rfl) (fun _ _ _ h => h) (Or.inl ⟨by kernel_rfl, ?_⟩) ?_
          · intro wz; go_simp
          refine wpAny_take (i := 28) (v := .bool true) rfl (by kernel_rfl) (by kernel_rfl) (by kernel_rfl) (fun _ _ _ h => h) (Or.inl ⟨by kernel_rfl, ?_⟩) ?_
          · intro wz; go_simp
          refine wpAny_done (by kernel_rfl) ?_ _
          go_simp
          go_wp2
          go_ret
          exact ⟨rfl, Ewz.out⟩
        · go_simp
          refine hK' _ _ ?_
          clear hK' K'
          generalize hq : w25.alloc (.cells #[.slice (some ⟨g2, 0, none⟩) 32 32] 43) = w28
          have Ew28 : Hid (Below w4.heap.size w4 w28) := by rw [← hq]; exact Ew25.out.alloc Ew25.out.size _
          have FBw28 : Hid (w28.heap[w25.heap.size]? = some (.cells #[.slice (some ⟨g2, 0, none⟩) 32 32] 43 (0, 0))) := by rw [← hq]; exact heap_alloc_new _ _
          have HNE : Hid (w7.heap.size ≠ w25.heap.size ∧ w4.heap.size ≤ w7.heap.size) := ⟨by have := (Array.getElem?_eq_some_iff.1 FAw25.out).1; omega, HLE.out⟩
          have FAw28 : Hid (w28.heap[w7.heap.size]? = some (.cells #[.int .u8 97, .int .u8 98, .int .u8 99] 5 (3, 4))) := by rw [← hq]; show _ = _; rw [heap_alloc_old _ _ (Array.getElem?_eq_some_iff.1 FAw25.out).1]; exact FAw25.out
          clear hq
          refine wpAny_ready (rs := [22]) (by kernel_rfl) (by simp) ?_
          refine AllReady.cons rfl (fun K' hK' => ?_) AllReady.nil
          go_simp
          refine (KD2.out _ _ l3 Ew28.out (has_fr _ [97, 98, 99] rfl FAw28.out) (by rw [digest_abc, H3.out.1, H2.out.1])).mono ?_
          rintro e w29 ⟨rfl, hbd⟩
          refine hK' _ _ ?_
          clear hK' K'
          have Ew29 : Hid (Below w4.heap.size w4 w29) := Below.up Ew28.out hbd
          have FBw29 : Hid (w29.heap[w25.heap.size]? = some (.cells #[.slice (some ⟨g2, 0, none⟩) 32 32] 43 (0, 0))) := (hbd.block _ (Array.getElem?_eq_some_iff.1 FBw28.out).1).trans FBw28.out
          clear hbd
          refine wpAny_ready (rs := [25]) (by kernel_rfl) (by simp) ?_
          refine AllReady.cons rfl (fun K' hK' => ?_) AllReady.nil
          go_simp
          refine (KS.out _ _ l2 l3 (TT.out _ Ew29.out) (hasL_one FBw29.out (G2.out _ Ew29.out)) H2.out.2.2 (by rw [H2.out.2.1]; decide) H3.out.1).mono ?_
          rintro e wz ⟨rfl, hbz⟩
          have Ewz : Hid (Below w.heap.size w wz) := Below.up HW4.out.2.2 (Below.up Ew29.out hbz)
          clear hbz
          refine hK' _ _ ?_
          clear hK' K'
          refine wpAny_take (i := 26) (v := .bool true) rfl (by kernel_rfl) (by kernel_rfl) (by kernel_rfl) (fun _ _ _ h => h) (yields_eql41 (.tmp 63) (.tmp 66) l3 H3.out.2 rfl (by kernel_rfl) rfl rfl) ?_
          refine wpAny_take (i := 27) (v := .bool true) rfl (by kernel_rfl) (by kernel_rfl) (by kernel_rfl) (fun _ _ _ h => h) (Or.inl ⟨by kernel_rfl, ?_⟩) ?_
          · intro wz; go_simp
          refine wpAny_take (i := 28) (v := .bool true) rfl (by kernel_rfl) (by kernel_rfl) (by kernel_rfl) (fun _ _ _ h => h) (Or.inl ⟨by kernel_rfl, ?_⟩) ?_
          · intro wz; go_simp
          refine wpAny_done (by kernel_rfl) ?_ _
          go_simp
          go_wp2
          go_ret
          exact ⟨rfl, Ewz.out⟩
      · go_simp
        refine hK' _ _ ?_
        clear hK' K'
        generalize hq : w24.alloc (.cells #[.slice (some ⟨g2, 0, none⟩) 32 32] 43) = w30
        have Ew30 : Hid (Below w4.heap.size w4 w30) := by rw [← hq]; exact Ew24.out.alloc Ew24.out.size _
        have FBw30 : Hid (w30.heap[w24.heap.size]? = some (.cells #[.slice (some ⟨g2, 0, none⟩) 32 32] 43 (0, 0))) := by rw [← hq]; exact heap_alloc_new _ _
        have HNE : Hid (w7.heap.size ≠ w24.heap.size ∧ w4.heap.size ≤ w7.heap.size) := ⟨by have := (Array.getElem?_eq_some_iff.1 FAw24.out).1; omega, HLE.out⟩
        have FAw30 : Hid (w30.heap[w7.heap.size]? = some (.cells #[.int .u8 97, .int .u8 98, .int .u8 99] 5 (0, 0))) := by rw [← hq]; show _ = _; rw [heap_alloc_old _ _ (Array.getElem?_eq_some_iff.1 FAw24.out).1]; exact FAw24.out
        clear hq
        refine wpAny_ready (rs := [21]) (by kernel_rfl) (by simp) ?_
        refine AllReady.cons rfl (fun K' hK' => ?_) AllReady.nil
        obtain ⟨w31, cv, hg, hb, hsz, hk⟩ := conv43 w30 w7.heap.size #[.int .u8 97, .int .u8 98, .int .u8 99] 3 3 FAw30.out w4.heap.size w4 Ew30.out HNE.out.2
        clear hsz
        go_simp
        refine hK' _ _ ?_
        clear hK' K'
        have Ew31 : Hid (Below w4.heap.size w4 w31) := hb
        have FAw31 : Hid (w31.heap[w7.heap.size]? = some (.cells #[.int .u8 97, .int .u8 98, .int .u8 99] 5 (3, 4))) := hg
        have FBw31 : Hid (w31.heap[w24.heap.size]? = some (.cells #[.slice (some ⟨g2, 0, none⟩) 32 32] 43 (0, 0))) := (hk _ (Ne.symm HNE.out.1)).trans FBw30.out
        clear cv hg hb hk
        refine wpAny_ready (rs := [22]) (by kernel_rfl) (by simp) ?_
        refine AllReady.cons rfl (fun K' hK' => ?_) AllReady.nil
        go_simp
        refine (KD2.out _ _ l3 Ew31.out (has_fr _ [97, 98, 99] rfl FAw31.out) (by rw [digest_abc, H3.out.1, H2.out.1])).mono ?_
        rintro e w32 ⟨rfl, hbd⟩
        refine hK' _ _ ?_
        clear hK' K'
        have Ew32 : Hid (Below w4.heap.size w4 w32) := Below.up Ew31.out hbd
        have FBw32 : Hid (w32.heap[w24.heap.size]? = some (.cells #[.slice (some ⟨g2, 0, none⟩) 32 32] 43 (0, 0))) := (hbd.block _ (Array.getElem?_eq_some_iff.1 FBw31.out).1).trans FBw31.out
        clear hbd
        refine wpAny_ready (rs := [25]) (by kernel_rfl) (by simp) ?_
        refine AllReady.cons rfl (fun K' hK' => ?_) AllReady.nil
        go_simp
        refine (KS.out _ _ l2 l3 (TT.out _ Ew32.out) (hasL_one FBw32.out (G2.out _ Ew32.out)) H2.out.2.2 (by rw [H2.out.2.1]; decide) H3.out.1).mono ?_
        rintro e wz ⟨rfl, hbz⟩
        have Ewz : Hid (Below w.heap.size w wz) := Below.up HW4.out.2.2 (Below.up Ew32.out hbz)
        clear hbz
        refine hK' _ _ ?_
        clear hK' K'
        refine wpAny_take (i := 26) (v := .bool true) rfl (by kernel_rfl) (by kernel_rfl) (by kernel_rfl) (fun _ _ _ h => h) (yields_eql41 (.tmp 63) (.tmp 66) l3 H3.out.2 rfl (by kernel_rfl) rfl rfl) ?_
        refine wpAny_take (i := 27) (v := .bool true) rfl (by kernel_rfl) (by kernel_rfl) (by kernel_rfl) (fun _ _ _ h => h) (Or.inl ⟨by kernel_rfl, ?_⟩) ?_
        · intro wz; go_simp
        refine wpAny_take (i := 28) (v := .bool true) rfl (by kernel_rfl) (by kernel_rfl) (by kernel_rfl) (fun _ _ _ h => h) (Or.inl ⟨by kernel_rfl, ?_⟩) ?_
        · intro wz; go_simp
        refine wpAny_done (by kernel_rfl) ?_ _
        go_simp
        go_wp2
        go_ret
        exact ⟨rfl, Ewz.out⟩
    · go_simp
      refine hK' _ _ ?_
      clear hK' K'
      generalize hq : w7.alloc (.cells #[.slice (some ⟨g2, 0, none⟩) 32 32] 43) = w33
      have Ew33 : Hid (Below w4.heap.size w4 w33) := by rw [← hq]; exact Ew7.out.alloc Ew7.out.size _
      have FBw33 : Hid (w33.heap[w7.heap.size]? = some (.cells #[.slice (some ⟨g2, 0, none⟩) 32 32] 43 (0, 0))) := by rw [← hq]; exact heap_alloc_new _ _
      clear hq
      refine wpAny_ready (rs := [20]) (by kernel_rfl) (by simp) ?_
      refine AllReady.cons rfl (fun K' hK' => ?_) AllReady.nil
      go_simp
      refine hK' _ _ ?_
      clear hK' K'
      generalize hq : w33.alloc (.cells #[.int .u8 97, .int .u8 98, .int .u8 99] 5) = w34
      have Ew34 : Hid (Below w4.heap.size w4 w34) := by rw [← hq]; exact Ew33.out.alloc Ew33.out.size _
      have FAw34 : Hid (w34.heap[w33.heap.size]? = some (.cells #[.int .u8 97, .int .u8 98, .int .u8 99] 5 (0, 0))) := by rw [← hq]; exact heap_alloc_new _ _
      have HNE : Hid (w33.heap.size ≠ w7.heap.size ∧ w4.heap.size ≤ w33.heap.size) := ⟨by have := (Array.getElem?_eq_some_iff.1 FBw33.out).1; omega, Ew33.out.size⟩
      have FBw34 : Hid (w34.heap[w7.heap.size]? = some (.cells #[.slice (some ⟨g2, 0, none⟩) 32 32] 43 (0, 0))) := by rw [← hq]; show _ = _; rw [heap_alloc_old _ _ (Array.getElem?_eq_some_iff.1 FBw33.out).1]; exact FBw33.out
      clear hq
      refine wpAny_ready (rs := [21]) (by kernel_rfl) (by simp) ?_
      refine AllReady.cons rfl (fun K' hK' => ?_) AllReady.nil
      obtain ⟨w35, cv, hg, hb, hsz, hk⟩ := conv43 w34 w33.heap.size #[.int .u8 97, .int .u8 98, .int .u8 99] 3 3 FAw34.out w4.heap.size w4 Ew34.out HNE.out.2
      clear hsz
      go_simp
      refine hK' _ _ ?_
      clear hK' K'
      have Ew35 : Hid (Below w4.heap.size w4 w35) := hb
      have FAw35 : Hid (w35.heap[w33.heap.size]? = some (.cells #[.int .u8 97, .int .u8 98, .int .u8 99] 5 (3, 4))) := hg
      have FBw35 : Hid (w35.heap[w7.heap.size]? = some (.cells #[.slice (some ⟨g2, 0, none⟩) 32 32] 43 (0, 0))) := (hk _ (Ne.symm HNE.out.1)).trans FBw34.out
      clear cv hg hb hk
      refine wpAny_ready (rs := [22]) (by kernel_rfl) (by simp) ?_
      refine AllReady.cons rfl (fun K' hK' => ?_) AllReady.nil
      go_simp
      refine (KD2.out _ _ l3 Ew35.out (has_fr _ [97, 98, 99] rfl FAw35.out) (by rw [digest_abc, H3.out.1, H2.out.1])).mono ?_
      rintro e w36 ⟨rfl, hbd⟩
      refine hK' _ _ ?_
      clear hK' K'
      have Ew36 : Hid (Below w4.heap.size w4 w36) := Below.up Ew35.out hbd
      have FBw36 : Hid (w36.heap[w7.heap.size]? = some (.cells #[.slice (some ⟨g2, 0, none⟩) 32 32] 43 (0, 0))) := (hbd.block _ (Array.getElem?_eq_some_iff.1 FBw35.out).1).trans FBw35.out
      clear hbd
      refine wpAny_ready (rs := [25]) (by kernel_rfl) (by simp) ?_
      refine AllReady.cons rfl (fun K' hK' => ?_) AllReady.nil
      go_simp
      refine (KS.out _ _ l2 l3 (TT.out _ Ew36.out) (hasL_one FBw36.out (G2.out _ Ew36.out)) H2.out.2.2 (by rw [H2.out.2.1]; decide) H3.out.1).mono ?_
      rintro e wz ⟨rfl, hbz⟩
      have Ewz : Hid (Below w.heap.size w wz) := Below.up HW4.out.2.2 (Below.up Ew36.out hbz)
      clear hbz
      refine hK' _ _ ?_
      clear hK' K'
      refine wpAny_take (i := 26) (v := .bool true) rfl (by kernel_rfl) (by kernel_rfl) (by kernel_rfl) (fun _ _ _ h => h) (yields_eql41 (.tmp 63) (.tmp 66) l3 H3.out.2 rfl (by kernel_rfl) rfl rfl) ?_
      refine wpAny_take (i := 27) (v := .bool true) rfl (by kernel_rfl) (by kernel_rfl) (by kernel_rfl) (fun _ _ _ h => h) (Or.inl ⟨by kernel_rfl, ?_⟩) ?_
      · intro wz; go_simp
      refine wpAny_take (i := 28) (v := .bool true) rfl (by kernel_rfl) (by kernel_rfl) (by kernel_rfl) (fun _ _ _ h => h) (Or.inl ⟨by kernel_rfl, ?_⟩) ?_
      · intro wz; go_simp
      refine wpAny_done (by kernel_rfl) ?_ _
      go_simp
      go_wp2
      go_ret
      exact ⟨rfl, Ewz.out⟩
end Go.Proofs.YtmglopfjjbnfiaaDoor
