/-
  twinelaw2's side.plays by contract: no call, Len, a piece.
-/
import Derived.Test.YtmglopfjjbnfiaaDoorPlays
namespace Go.Proofs.YtmglopfjjbnfiaaDoor
open Go.RowKit

set_option maxHeartbeats 4000000 in
set_option maxRecDepth 100000 in
theorem plays_none (lo S KH KP : Nat) (bv pv ov : Value) (b p pc : List Nat) (kind which : Int) (w : World) (hs : SideAt w lo S KH KP bv pv b p) (hT : Tabs w) (n1 : kind ≠ 1) (n2 : kind ≠ 2) (n3 : kind ≠ 3) (n4 : kind ≠ 4) (n5 : kind ≠ 5) :
    Calls Tryd.prog 28 #[.pointer (some ⟨S, 0, none⟩), .agg (opCells kind which ov pc)] w fun e w' => e = .returned (.bool true) ∧ Played w w' lo S KH KP bv pv b.length p.length := by
  have hso := hs
  obtain ⟨c, hc, hcz⟩ : ∃ c, c = opCells kind which ov pc ∧ Hid (c = opCells kind which ov pc) := ⟨_, rfl, rfl⟩
  rw [← hc]
  have hc0 : c[0]? = some (.int .i64 kind) := by rw [hc]; rfl
  have hc2 : c[2]? = some ov := by rw [hc]; rfl
  have HS : Hid (SideAt w lo S KH KP bv pv b p) := hs
  have HT : Hid (Tabs w) := hT
  clear hc hs hso
  go_enter Tryd.func28, Tryd.ntmps28
  go_upto_region 1 with fail
  refine step_world (fun W => W.heap[w.heap.size]? = some (.cells c 58 (0, 0)) ∧ Below w.heap.size w W ∧ SideAt W lo S KH KP bv pv b p ∧ Tabs W) ⟨heap_alloc_new _ _, (Below.refl _ w).alloc (Nat.le_refl _) _, HS.out.below ((Below.refl _ w).alloc (Nat.le_refl _) _), HT.out.up ((Below.refl _ w).alloc (Nat.le_refl _) _)⟩ fun w0 HH0 => ?_
  have H0 : Hid (w0.heap[w.heap.size]? = some (.cells c 58 (0, 0)) ∧ Below w.heap.size w w0 ∧ SideAt w0 lo S KH KP bv pv b p ∧ Tabs w0) := HH0
  obtain ⟨O, hO⟩ : ∃ O, O = w.heap.size := ⟨_, rfl⟩
  have HO : Hid (O = w.heap.size) := hO
  rw [← hO] at HH0 ⊢
  have k0 : w0.cell? ⟨O, 0, none⟩ = some (.int .i64 kind) := (cell_of_row _ _ 0 _ _ _ HH0.1).trans hc0
  clear HH0 hO
  have HPL : Hid (Played w w0 lo S KH KP bv pv b.length p.length) := played_same HS.out H0.out.2.1 _ _ (Nat.le_refl _) (Nat.le_refl _)
  have e1 : (kind == 1) = false := by simp [n1]
  have e2 : (kind == 2) = false := by simp [n2]
  have e3 : (kind == 3) = false := by simp [n3]
  have e4 : (kind == 4) = false := by simp [n4]
  have e5 : (kind == 5) = false := by simp [n5]
  clear hc0 hc2
  go_wp2
  go_ret
  exact ⟨rfl, HPL.out⟩

set_option maxHeartbeats 4000000 in
set_option maxRecDepth 100000 in
theorem plays_len (lo S KH KP : Nat) (bv pv ov : Value) (b p pc : List Nat) (which : Int) (w : World) (hs : SideAt w lo S KH KP bv pv b p) (hT : Tabs w) :
    Calls Tryd.prog 28 #[.pointer (some ⟨S, 0, none⟩), .agg (opCells 3 which ov pc)] w fun e w' => e = .returned (.bool true) ∧ Played w w' lo S KH KP bv pv b.length p.length := by
  have hso := hs
  obtain ⟨c, hc, hcz⟩ : ∃ c, c = opCells 3 which ov pc ∧ Hid (c = opCells 3 which ov pc) := ⟨_, rfl, rfl⟩
  rw [← hc]
  have hc0 : c[0]? = some (.int .i64 3) := by rw [hc]; rfl
  have hc2 : c[2]? = some ov := by rw [hc]; rfl
  have HS : Hid (SideAt w lo S KH KP bv pv b p) := hs
  have HT : Hid (Tabs w) := hT
  clear hc hs hso
  go_enter Tryd.func28, Tryd.ntmps28
  go_upto_region 1 with fail
  refine step_world (fun W => W.heap[w.heap.size]? = some (.cells c 58 (0, 0)) ∧ Below w.heap.size w W ∧ SideAt W lo S KH KP bv pv b p ∧ Tabs W) ⟨heap_alloc_new _ _, (Below.refl _ w).alloc (Nat.le_refl _) _, HS.out.below ((Below.refl _ w).alloc (Nat.le_refl _) _), HT.out.up ((Below.refl _ w).alloc (Nat.le_refl _) _)⟩ fun w0 HH0 => ?_
  have H0 : Hid (w0.heap[w.heap.size]? = some (.cells c 58 (0, 0)) ∧ Below w.heap.size w w0 ∧ SideAt w0 lo S KH KP bv pv b p ∧ Tabs w0) := HH0
  obtain ⟨O, hO⟩ : ∃ O, O = w.heap.size := ⟨_, rfl⟩
  have HO : Hid (O = w.heap.size) := hO
  rw [← hO] at HH0 ⊢
  have k0 : w0.cell? ⟨O, 0, none⟩ = some (.int .i64 3) := (cell_of_row _ _ 0 _ _ _ HH0.1).trans hc0
  clear HH0 hO
  have K33 : Hid (∀ wz, Below w0.heap.size w0 wz → Calls Tryd.prog 33 #[.pointer (some ⟨KH, 0, none⟩)] wz fun e w' => e = .returned (.int .i64 ((b.length : Nat) : Int)) ∧ w' = wz) := fun wz hz => (hlen_any KH 98 b wz (H0.out.2.2.1.below hz).hash).mono fun _ _ ⟨q1, q2⟩ => ⟨q1, q2.symm⟩
  have s0 := H0.out.2.2.1.cell.1
  have s2 := H0.out.2.2.1.cell.2.2.1
  obtain ⟨bo, bc, hbf, _⟩ := H0.out.2.2.1.ob.has.form
  rw [hbf] at s2
  have HPL : Hid (∀ m, Played w (w0.drewN m) lo S KH KP bv pv b.length p.length) := fun m => by
    have h : Below w.heap.size w0 (w0.drewN m) := ⟨rfl, rfl, rfl, Nat.le_refl _, fun _ _ => rfl⟩
    exact played_same HS.out (H0.out.2.1.trans h) _ _ (Nat.le_refl _) (Nat.le_refl _)
  obtain ⟨bn, hbn⟩ : ∃ bn, bn = b.length := ⟨_, rfl⟩
  rw [← hbn] at K33 s2
  clear hc0 hc2 hbf hbn
  go_upto_region 16 with fail
  go_quiet ((go_at_call 33; exact Calls.quiet_of_same (K33.out _ ⟨rfl, rfl, rfl, Nat.le_refl _, fun _ _ => rfl⟩)))
  go_wp2
  go_ret
  exact ⟨rfl, HPL.out _⟩

set_option maxRecDepth 100000 in
theorem slice41_off (g o : Nat) (wz : World) : (Instr.sliceAt 41 (.pointer (some ⟨g, o, none⟩)) none none none).run Tryd.prog wz = .ok (.slice (some ⟨g, o, none⟩) 32 32) wz := by
  rw [run_sliceAt_array_all wz 41 ⟨g, o, none⟩ Tryd.underlying41]
  have h1 : (Tryd.prog.info? (Tryd.prog.elem 41)).map (·.size) = some 1 := by kernel_rfl
  cases hq : Tryd.prog.info? (Tryd.prog.elem 41) with
  | none => simp [hq] at h1
  | some i =>
    have hs : i.size = 1 := by simpa [hq] using h1
    rw [show Tryd.prog.arrayLen 41 = 32 by kernel_rfl]
    simp [sizeOf, typeInfo, hq, hs, slicedAt, Addr.add, Result.andThen]

theorem opCells_piece (kind which : Int) (ov : Value) (pc : List Nat) (j : Nat) : (opCells kind which ov pc)[3 + j]? = (pc.map vb)[j]? := by
  unfold opCells
  rw [List.getElem?_toArray, Nat.add_comm]
  rfl

/-- The new list of pieces is laid down. -/
theorem stored_p {w6 w7 : World} {lo S KH KP : Nat} {bv pv v' : Value} {b p' : List Nat} (row : w6.heap[S]? = some (.cells (sideRow KH KP bv pv) 65 (0, 0))) (hash : HashAt w6 KH 98 b) (pcs : HashAt w6 KP 100 p') (ob : Owns w6 lo bv b)
    (los : lo ≤ S ∧ lo ≤ KH ∧ lo ≤ KP) (d1 : S ≠ KH ∧ S ≠ KP ∧ KH ≠ KP) (d2 : ∀ k, bv.ownBlock = some k → k ≠ S ∧ k ≠ KH ∧ k ≠ KP ∧ pv.ownBlock ≠ some k) (d3 : ∀ k, pv.ownBlock = some k → k ≠ S ∧ k ≠ KH ∧ k ≠ KP) (bys : Bytes b ∧ Bytes p')
    (ho : Owns w7 lo v' p') (hg : w6.grownBy w7 pv.ownBlock) (hv : v'.ownBlock = pv.ownBlock ∨ v'.ownBlock = some w6.heap.size) :
    SideAt (w7.setCell ⟨S, 3, none⟩ v') lo S KH KP bv v' b p' ∧ Keep (foot S KH KP bv pv) w6 (w7.setCell ⟨S, 3, none⟩ v') ∧ ∀ k, foot S KH KP bv v' k → foot S KH KP bv pv k ∨ w6.heap.size ≤ k := by
  have hS := (Array.getElem?_eq_some_iff.1 row).1
  have hset : ∀ k, k ≠ S → (w7.setCell ⟨S, 3, none⟩ v').heap[k]? = w7.heap[k]? := fun k hk => heap_setCell_other _ _ _ _ hk
  have hgb : ∀ k, k < w6.heap.size → pv.ownBlock ≠ some k → w7.heap[k]? = w6.heap[k]? := fun k hk hn => hg.block k hk (fun e => hn e.symm)
  have hpS : pv.ownBlock ≠ some S := fun e => (d3 S e).1 rfl
  have hpH : pv.ownBlock ≠ some KH := fun e => (d3 KH e).2.1 rfl
  have hpP : pv.ownBlock ≠ some KP := fun e => (d3 KP e).2.2 rfl
  have hv' : ∀ k, v'.ownBlock = some k → k ≠ S ∧ k ≠ KH ∧ k ≠ KP ∧ bv.ownBlock ≠ some k := fun k hk => by
    rcases hv with e | e
    · rw [e] at hk
      exact ⟨(d3 k hk).1, (d3 k hk).2.1, (d3 k hk).2.2, fun q => (d2 k q).2.2.2 hk⟩
    · rw [e] at hk
      obtain rfl := Option.some.inj hk
      exact ⟨fun q => by omega, fun q => by have := hash.lt; omega, fun q => by have := pcs.lt; omega, fun q => by have := (ob.lt _ q).2; omega⟩
  have row7 : w7.heap[S]? = some (.cells (sideRow KH KP bv pv) 65 (0, 0)) := (hgb S hS hpS).trans row
  refine ⟨⟨?_, ?_, ?_, ?_, ?_, los, d1, ?_, ?_, bys⟩, ⟨hg.os, hg.tape, hg.output, ?_, ?_⟩, ?_⟩
  · rw [heap_setCell_same _ _ _ _ _ _ row7]; rfl
  · exact hash.block ((hset KH (Ne.symm d1.1)).trans (hgb KH hash.lt hpH))
  · exact pcs.block ((hset KP (Ne.symm d1.2.1)).trans (hgb KP pcs.lt hpP))
  · exact ob.block fun k hk => (hset k (d2 k hk).1).trans (hgb k (ob.lt k hk).2 (d2 k hk).2.2.2)
  · exact ho.block fun k hk => hset k (hv' k hk).1
  · exact fun k hk => ⟨(d2 k hk).1, (d2 k hk).2.1, (d2 k hk).2.2.1, fun q => (hv' k q).2.2.2 hk⟩
  · exact fun k hk => ⟨(hv' k hk).1, (hv' k hk).2.1, (hv' k hk).2.2.1⟩
  · have := hg.size; simpa [World.setCell] using this
  · exact fun k hk hn => (hset k (fun e => hn (.inl e))).trans (hgb k hk (fun e => hn (.inr (.inr (.inr (.inr e))))))
  · intro k hk
    rcases hk with h | h | h | h | h
    · exact .inl (.inl h)
    · exact .inl (.inr (.inl h))
    · exact .inl (.inr (.inr (.inl h)))
    · exact .inl (.inr (.inr (.inr (.inl h))))
    · rcases hv with e | e
      · rw [e] at h; exact .inl (.inr (.inr (.inr (.inr h))))
      · rw [e] at h; obtain rfl := Option.some.inj h; exact .inr (Nat.le_refl _)

set_option maxHeartbeats 4000000 in
set_option maxRecDepth 100000 in
theorem plays_piece (lo S KH KP : Nat) (bv pv ov : Value) (b p pc : List Nat) (which : Int) (w : World) (hs : SideAt w lo S KH KP bv pv b p) (hT : Tabs w) (hlo : 3 ≤ lo) (hp : p.length ≤ 90000) (hpc : pc.length = 32) (hpb : Bytes pc) :
    Calls Tryd.prog 28 #[.pointer (some ⟨S, 0, none⟩), .agg (opCells 4 which ov pc)] w fun e w' => e = .returned (.bool true) ∧ Played w w' lo S KH KP bv pv b.length (p.length + 32) := by
  have hso := hs
  obtain ⟨c, hc, hcz⟩ : ∃ c, c = opCells 4 which ov pc ∧ Hid (c = opCells 4 which ov pc) := ⟨_, rfl, rfl⟩
  rw [← hc]
  have hc0 : c[0]? = some (.int .i64 4) := by rw [hc]; rfl
  have hc2 : c[2]? = some ov := by rw [hc]; rfl
  have HS : Hid (SideAt w lo S KH KP bv pv b p) := hs
  have HT : Hid (Tabs w) := hT
  clear hc hs hso
  go_enter Tryd.func28, Tryd.ntmps28
  go_upto_region 1 with fail
  refine step_world (fun W => W.heap[w.heap.size]? = some (.cells c 58 (0, 0)) ∧ Below w.heap.size w W ∧ SideAt W lo S KH KP bv pv b p ∧ Tabs W) ⟨heap_alloc_new _ _, (Below.refl _ w).alloc (Nat.le_refl _) _, HS.out.below ((Below.refl _ w).alloc (Nat.le_refl _) _), HT.out.up ((Below.refl _ w).alloc (Nat.le_refl _) _)⟩ fun w0 HH0 => ?_
  have H0 : Hid (w0.heap[w.heap.size]? = some (.cells c 58 (0, 0)) ∧ Below w.heap.size w w0 ∧ SideAt w0 lo S KH KP bv pv b p ∧ Tabs w0) := HH0
  obtain ⟨O, hO⟩ : ∃ O, O = w.heap.size := ⟨_, rfl⟩
  have HO : Hid (O = w.heap.size) := hO
  rw [← hO] at HH0 ⊢
  have k0 : w0.cell? ⟨O, 0, none⟩ = some (.int .i64 4) := (cell_of_row _ _ 0 _ _ _ HH0.1).trans hc0
  clear HH0 hO
  have HC3 : Hid (∀ wz : World, wz.heap[O]? = some (.cells c 58 (0, 0)) → ∀ j v, (pc.map vb)[j]? = some v → wz.cell? ⟨O, 3 + j, none⟩ = some v) := fun wz hz j v hv => by
    rw [cell_of_row _ _ _ _ _ _ hz, hcz.out, opCells_piece]; exact hv
  have Z : Hid ((Tryd.prog.info? 41).map (·.size) = some (pc.map vb).length) := by show _ = _; rw [List.length_map, hpc]; kernel_rfl
  have HPC : Hid (pc.length = 32 ∧ Bytes pc ∧ p.length ≤ 90000 ∧ 3 ≤ lo) := ⟨hpc, hpb, hp, hlo⟩
  have HO0 : Hid (w0.heap[O]? = some (.cells c 58 (0, 0)) ∧ O < w0.heap.size ∧ ¬ foot S KH KP bv pv O) := by
    have h := H0.out.1
    rw [← HO.out] at h
    refine ⟨h, (Array.getElem?_eq_some_iff.1 h).1, fun hf => ?_⟩
    have := (HS.out.foot_lt hf).2
    rw [HO.out] at this
    omega
  have K34 : Hid (∀ wz, Below w0.heap.size w0 wz → Calls Tryd.prog 34 #[.pointer (some ⟨KP, 0, none⟩), .agg (pc.map vb).toArray] wz fun e w' => e = .returned (.tuple #[]) ∧ (HashAt w' KP 100 (p ++ pc) ∧ But KP w0 w')) := fun wz hz => by
    have h := H0.out.2.2.1.below hz
    exact (padd_any KP p pc wz h.pcs HPC.out.1 HPC.out.2.1 (H0.out.2.2.2.up hz) (by have := h.los.2.2; omega) (by omega)).mono fun e w' ⟨q1, q2, q3⟩ => ⟨q1, q2, (But.of_below hz).trans q3⟩
  have s1 := H0.out.2.2.1.cell.2.1
  have hsl := slice41_off O 3
  clear hc0 hc2 hpc hpb hp
  go_upto_region 18 with fail
  clear k0
  go_cut [] from 86 (fun wf => HashAt wf KP 100 (p ++ pc) ∧ But KP w0 wf)
  case first =>
    refine wp_region_any (by kernel_rfl) ?_
    change wpAny _ _ _ _ _ _ _ (World.drew _)
    generalize hw4 : World.drew w0 = w4
    have P4 : Hid (Below w0.heap.size w0 w4) := by rw [← hw4]; exact ⟨rfl, rfl, rfl, Nat.le_refl _, fun _ _ => rfl⟩
    have HA : Hid (w4.cell? ⟨S, 1, none⟩ = some (.pointer (some ⟨KP, 0, none⟩)) ∧ w4.heap[O]? = some (.cells c 58 (0, 0))) := by rw [← hw4]; exact ⟨s1, HO0.out.1⟩
    clear hw4 s1
    refine wpAny_take (i := 0) (v := .pointer (some ⟨S, 0, none⟩)) rfl (by kernel_rfl) (by kernel_rfl) (by kernel_rfl) (fun _ _ _ h => h) (Or.inl ⟨by kernel_rfl, ?_⟩) ?_
    · intro wz; go_simp
    refine wpAny_take (i := 1) (v := .pointer (some ⟨S, 0, none⟩)) rfl (by kernel_rfl) (by kernel_rfl) (by kernel_rfl) (fun _ _ _ h => h) (Or.inl ⟨by kernel_rfl, ?_⟩) ?_
    · intro wz; go_simp
    refine wpAny_take (i := 2) (v := .pointer (some ⟨S, 1, none⟩)) rfl (by kernel_rfl) (by kernel_rfl) (by kernel_rfl) (fun _ _ _ h => h) (Or.inl ⟨by kernel_rfl, ?_⟩) ?_
    · intro wz; go_simp
    refine wpAny_take (i := 4) (v := .pointer (some ⟨O, 3, none⟩)) rfl (by kernel_rfl) (by kernel_rfl) (by kernel_rfl) (fun _ _ _ h => h) (Or.inl ⟨by kernel_rfl, ?_⟩) ?_
    · intro wz; go_simp
    simp only [Act.put, List.getElem_toArray, List.getElem_cons_zero, List.getElem_cons_succ, List.setIfInBounds_toArray, List.set_cons_zero, List.set_cons_succ]
    refine wpAny_ready (rs := [3, 5]) (by kernel_rfl) (by simp) ?_
    refine ar_load_s rfl rfl 62 (by decide) (.tmp 88) rfl ⟨S, 1, none⟩ rfl (.pointer (some ⟨KP, 0, none⟩)) HA.out.1 ?_ (ar_load rfl (by kernel_rfl) 41 (.tmp 90) rfl O 3 rfl (pc.map vb) (.array 32 5) (HC3.out _ HA.out.2) Tryd.underlying41 rfl Z.out ?_ AllReady.nil)
    · simp only [Act.put, List.getElem_toArray, List.getElem_cons_zero, List.getElem_cons_succ, List.setIfInBounds_toArray, List.set_cons_zero, List.set_cons_succ]
      refine wpAny_ready (rs := [5]) (by kernel_rfl) (by simp) ?_
      refine ar_load rfl (by kernel_rfl) 41 (.tmp 90) rfl O 3 rfl (pc.map vb) (.array 32 5) (HC3.out _ HA.out.2) Tryd.underlying41 rfl Z.out ?_ AllReady.nil
      simp only [Act.put, List.getElem_toArray, List.getElem_cons_zero, List.getElem_cons_succ, List.setIfInBounds_toArray, List.set_cons_zero, List.set_cons_succ]
      refine wpAny_ready (rs := [6]) (by kernel_rfl) (by simp) ?_
      refine AllReady.cons rfl (fun K' hK' => ?_) AllReady.nil
      go_simp
      refine (K34.out _ P4.out).mono ?_
      rintro e w5 ⟨rfl, h5⟩
      have P5 : Hid (HashAt w5 KP 100 (p ++ pc) ∧ But KP w0 w5) := h5
      refine hK' _ _ ?_
      clear hK' K' h5
      refine wpAny_done (by kernel_rfl) ?_ _
      go_simp
      go_wp2_with fail
      go_meet
      case rel => exact P5.out
    · simp only [Act.put, List.getElem_toArray, List.getElem_cons_zero, List.getElem_cons_succ, List.setIfInBounds_toArray, List.set_cons_zero, List.set_cons_succ]
      refine wpAny_ready (rs := [3]) (by kernel_rfl) (by simp) ?_
      refine ar_load_s rfl rfl 62 (by decide) (.tmp 88) rfl ⟨S, 1, none⟩ rfl (.pointer (some ⟨KP, 0, none⟩)) HA.out.1 ?_ AllReady.nil
      simp only [Act.put, List.getElem_toArray, List.getElem_cons_zero, List.getElem_cons_succ, List.setIfInBounds_toArray, List.set_cons_zero, List.set_cons_succ]
      refine wpAny_ready (rs := [6]) (by kernel_rfl) (by simp) ?_
      refine AllReady.cons rfl (fun K' hK' => ?_) AllReady.nil
      go_simp
      refine (K34.out _ P4.out).mono ?_
      rintro e w5 ⟨rfl, h5⟩
      have P5 : Hid (HashAt w5 KP 100 (p ++ pc) ∧ But KP w0 w5) := h5
      refine hK' _ _ ?_
      clear hK' K' h5
      refine wpAny_done (by kernel_rfl) ?_ _
      go_simp
      go_wp2_with fail
      go_meet
      case rel => exact P5.out
  case rest =>
    clear s1
    have P5 : Hid (HashAt wc KP 100 (p ++ pc) ∧ But KP w0 wc) := hcut
    have Q5 : Hid (wc.heap[S]? = some (.cells (sideRow KH KP bv pv) 65 (0, 0)) ∧ HashAt wc KH 98 b ∧ Owns wc lo bv b ∧ Owns wc lo pv p) := H0.out.2.2.1.pieced hcut.2
    have QO : Hid (wc.heap[O]? = some (.cells c 58 (0, 0))) := (hcut.2.block O HO0.out.2.1 (fun e => HO0.out.2.2 (.inr (.inr (.inl e))))).trans HO0.out.1
    clear hcut K34
    go_upto_region 19 with fail
    refine wp_region_any (by kernel_rfl) ?_
    change wpAny _ _ _ _ _ _ _ (World.drew _)
    generalize hw6 : World.drew wc = w6
    have P6 : Hid (HashAt w6 KP 100 (p ++ pc) ∧ But KP w0 w6 ∧ w6.heap[S]? = some (.cells (sideRow KH KP bv pv) 65 (0, 0)) ∧ HashAt w6 KH 98 b ∧ Owns w6 lo bv b ∧ Owns w6 lo pv p ∧ w6.heap[O]? = some (.cells c 58 (0, 0))) := by
      rw [← hw6]; exact ⟨P5.out.1.block rfl, P5.out.2.trans ⟨rfl, rfl, rfl, Nat.le_refl _, fun _ _ _ => rfl⟩, Q5.out.1, Q5.out.2.1.block rfl, Q5.out.2.2.1.block fun _ _ => rfl, Q5.out.2.2.2.block fun _ _ => rfl, QO.out⟩
    have HX : Hid (Has w6 (.slice (some ⟨O, 3, none⟩) 32 32) pc) := by
      refine .inr ⟨⟨O, 3, none⟩, 32, by rw [HPC.out.1], by rw [HPC.out.1]; omega, fun i hi => ?_⟩
      rw [addr_add, HC3.out _ P6.out.2.2.2.2.2.2 i (vb (pc.getD i 0)) (by simp [List.getD, List.getElem?_eq_getElem hi])]
    clear hw6 P5 Q5 QO
    refine wpAny_take (i := 0) (v := .pointer (some ⟨S, 0, none⟩)) rfl (by kernel_rfl) (by kernel_rfl) (by kernel_rfl) (fun _ _ _ h => h) (Or.inl ⟨by kernel_rfl, ?_⟩) ?_
    · intro wz; go_simp
    refine wpAny_take (i := 1) (v := .pointer (some ⟨S, 0, none⟩)) rfl (by kernel_rfl) (by kernel_rfl) (by kernel_rfl) (fun _ _ _ h => h) (Or.inl ⟨by kernel_rfl, ?_⟩) ?_
    · intro wz; go_simp
    refine wpAny_take (i := 2) (v := .pointer (some ⟨S, 0, none⟩)) rfl (by kernel_rfl) (by kernel_rfl) (by kernel_rfl) (fun _ _ _ h => h) (Or.inl ⟨by kernel_rfl, ?_⟩) ?_
    · intro wz; go_simp
    refine wpAny_take (i := 3) (v := .pointer (some ⟨S, 3, none⟩)) rfl (by kernel_rfl) (by kernel_rfl) (by kernel_rfl) (fun _ _ _ h => h) (Or.inl ⟨by kernel_rfl, ?_⟩) ?_
    · intro wz; go_simp
    refine wpAny_take (i := 5) (v := .pointer (some ⟨O, 3, none⟩)) rfl (by kernel_rfl) (by kernel_rfl) (by kernel_rfl) (fun _ _ _ h => h) (Or.inl ⟨by kernel_rfl, ?_⟩) ?_
    · intro wz; go_simp
    refine wpAny_take (i := 6) (v := .slice (some ⟨O, 3, none⟩) 32 32) rfl (by kernel_rfl) (by kernel_rfl) (by kernel_rfl) (fun _ _ _ h => h) (Or.inl ⟨by kernel_rfl, ?_⟩) ?_
    · intro wz; go_simp
    simp only [Act.put, List.getElem_toArray, List.getElem_cons_zero, List.getElem_cons_succ, List.setIfInBounds_toArray, List.set_cons_zero, List.set_cons_succ]
    refine wpAny_ready (rs := [4]) (by kernel_rfl) (by simp) ?_
    refine ar_load_s rfl rfl 43 (by decide) (.tmp 96) rfl ⟨S, 3, none⟩ rfl pv (cell_of_row _ _ 3 _ _ _ P6.out.2.2.1) ?_ AllReady.nil
    simp only [Act.put, List.getElem_toArray, List.getElem_cons_zero, List.getElem_cons_succ, List.setIfInBounds_toArray, List.set_cons_zero, List.set_cons_succ]
    refine wpAny_ready (rs := [7]) (by kernel_rfl) (by simp) ?_
    refine ar_append_b rfl rfl (.tmp 97) (.tmp 99) rfl lo pv _ p pc rfl rfl P6.out.2.2.2.2.2.1 HX.out (by have := HPC.out; omega) (by have := (Array.getElem?_eq_some_iff.1 P6.out.2.2.1).1; have := H0.out.2.2.1.los.1; omega) (fun v' w7 ho7 hg7 hv7 => ?_) AllReady.nil
    have hst := stored_p P6.out.2.2.1 P6.out.2.2.2.1 P6.out.1 P6.out.2.2.2.2.1 H0.out.2.2.1.los H0.out.2.2.1.d1 H0.out.2.2.1.d2 H0.out.2.2.1.d3 ⟨H0.out.2.2.1.bys.1, fun x hx => (List.mem_append.1 hx).elim (H0.out.2.2.1.bys.2 x) (HPC.out.2.1 x)⟩ ho7 hg7 hv7
    have row7 : w7.heap[S]? = some (.cells (sideRow KH KP bv pv) 65 (0, 0)) := (hg7.block S (Array.getElem?_eq_some_iff.1 P6.out.2.2.1).1 (fun e => (H0.out.2.2.1.d3 S e.symm).1 rfl)).trans P6.out.2.2.1
    have c7 : w7.cell? ⟨S, 3, none⟩ = some pv := cell_of_row _ _ 3 _ _ _ row7
    have f7 : w7.frozen? ⟨S, 3, none⟩ = false := frozen_of_row _ _ 3 _ _ row7
    have HPL : Hid (Played w (w7.setCell ⟨S, 3, none⟩ v') lo S KH KP bv pv b.length (p.length + 32)) := by
      refine ⟨bv, v', b, p ++ pc, hst.1, Nat.le_refl _, by have := HPC.out.1; rw [List.length_append]; omega, ?_, fun k hk => ?_⟩
      · exact (Keep.of_below H0.out.2.1).trans ((Keep.of_but P6.out.2.1 (.inr (.inr (.inl rfl)))).trans hst.2.1)
      · rcases hst.2.2 k hk with h | h
        · exact .inl h
        · exact .inr (by have := P6.out.2.1.size; have := H0.out.2.1.size; omega)
    obtain ⟨vo, vc, e7, _⟩ := ho7.has.form
    subst e7
    clear hst row7 ho7 hg7 hv7
    simp only [Act.put, List.getElem_toArray, List.getElem_cons_zero, List.getElem_cons_succ, List.setIfInBounds_toArray, List.set_cons_zero, List.set_cons_succ]
    refine wpAny_take (i := 8) (v := .pointer (some ⟨S, 0, none⟩)) rfl (by kernel_rfl) (by kernel_rfl) (by kernel_rfl) (fun _ _ _ h => h) (Or.inl ⟨by kernel_rfl, ?_⟩) ?_
    · intro wz; go_simp
    refine wpAny_take (i := 9) (v := .pointer (some ⟨S, 3, none⟩)) rfl (by kernel_rfl) (by kernel_rfl) (by kernel_rfl) (fun _ _ _ h => h) (Or.inl ⟨by kernel_rfl, ?_⟩) ?_
    · intro wz; go_simp
    simp only [Act.put, List.getElem_toArray, List.getElem_cons_zero, List.getElem_cons_succ, List.setIfInBounds_toArray, List.set_cons_zero, List.set_cons_succ]
    refine wpAny_ready (rs := [10]) (by kernel_rfl) (by simp) ?_
    refine AllReady.cons rfl (fun K' hK' => ?_) AllReady.nil
    go_simp
    refine hK' _ _ ?_
    clear hK' K'
    refine wpAny_done (by kernel_rfl) ?_ _
    go_simp
    go_wp2
    go_ret
    exact ⟨rfl, by have h := HPL.out; rw [List.length_append] at h; exact h⟩
end Go.Proofs.YtmglopfjjbnfiaaDoor
