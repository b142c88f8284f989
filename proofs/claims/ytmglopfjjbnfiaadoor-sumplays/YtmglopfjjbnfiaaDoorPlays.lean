/-
  twinelaw2's side.plays by contract.
-/
import Derived.Test.YtmglopfjjbnfiaaDoorSide
namespace Go.Proofs.YtmglopfjjbnfiaaDoor
open Go.RowKit

/-- What a call on a side leaves. -/
def Played (w w' : World) (lo S KH KP : Nat) (bv pv : Value) (nb np : Nat) : Prop :=
  ∃ bv' pv' b' p', SideAt w' lo S KH KP bv' pv' b' p' ∧ b'.length ≤ nb ∧ p'.length ≤ np ∧ Keep (foot S KH KP bv pv) w w' ∧ ∀ k, foot S KH KP bv' pv' k → foot S KH KP bv pv k ∨ w.heap.size ≤ k

theorem played_same {w w' : World} {lo S KH KP : Nat} {bv pv : Value} {b p : List Nat} (h : SideAt w lo S KH KP bv pv b p) (hb : Below w.heap.size w w') (nb np : Nat) (h1 : b.length ≤ nb) (h2 : p.length ≤ np) : Played w w' lo S KH KP bv pv nb np :=
  ⟨bv, pv, b, p, h.below hb, h1, h2, Keep.of_below hb, fun _ hk => .inl hk⟩

set_option maxHeartbeats 4000000 in
set_option maxRecDepth 100000 in
theorem plays_sum (lo S KH KP : Nat) (bv pv ov : Value) (b p pc : List Nat) (which : Int) (w : World) (hs : SideAt w lo S KH KP bv pv b p) (hT : Tabs w) (hb : b.length ≤ 90000) :
    Calls Tryd.prog 28 #[.pointer (some ⟨S, 0, none⟩), .agg (opCells 2 which ov pc)] w fun e w' => e = .returned (.bool true) ∧ Played w w' lo S KH KP bv pv b.length p.length := by
  have hso := hs
  obtain ⟨c, hc, hcz⟩ : ∃ c, c = opCells 2 which ov pc ∧ Hid (c = opCells 2 which ov pc) := ⟨_, rfl, rfl⟩
  rw [← hc]
  have hc0 : c[0]? = some (.int .i64 2) := by rw [hc]; rfl
  have hc2 : c[2]? = some ov := by rw [hc]; rfl
  have HS : Hid (SideAt w lo S KH KP bv pv b p) := hs
  have HT : Hid (Tabs w) := hT
  clear hc hs hso
  go_enter Tryd.func28, Tryd.ntmps28
  go_upto_region 1 with fail
  refine step_world (fun W => W.heap[w.heap.size]? = some (.cells c 58 (0, 0)) ∧ Below w.heap.size w W ∧ SideAt W lo S KH KP bv pv b p ∧ Tabs W) ⟨heap_alloc_new _ _, (Below.refl _ w).alloc (Nat.le_refl _) _, HS.out.below ((Below.refl _ w).alloc (Nat.le_refl _) _), HT.out.up ((Below.refl _ w).alloc (Nat.le_refl _) _)⟩ fun w0 HH0 => ?_
  have H0 : Hid (w0.heap[w.heap.size]? = some (.cells c 58 (0, 0)) ∧ Below w.heap.size w w0 ∧ SideAt w0 lo S KH KP bv pv b p ∧ Tabs w0) := HH0
  obtain ⟨O, hO⟩ : ∃ O, O = w.heap.size := ⟨_, rfl⟩
  have HO : Hid (O = w.heap.size) := hO
  rw [← hO] at HH0 ⊢
  have k0 : w0.cell? ⟨O, 0, none⟩ = some (.int .i64 2) := (cell_of_row _ _ 0 _ _ _ HH0.1).trans hc0
  clear HH0 hO
  obtain ⟨sl, hsl⟩ : ∃ sl, sl = Sha.sha b := ⟨_, rfl⟩
  have HSL : Hid (sl.length = 32) := by show _ = _; rw [hsl]; exact sha_len _
  have K1 : Hid (∀ wz, Below w0.heap.size w0 wz → Calls Tryd.prog 32 #[.pointer (some ⟨KH, 0, none⟩)] wz fun e w' => e = .returned (.agg (sl.map vb).toArray) ∧ Below w0.heap.size w0 w') := fun wz hz => by
    have h := H0.out.2.2.1.below hz
    rw [hsl]
    exact (sum_any KH 98 b wz h.hash (H0.out.2.2.2.up hz) (by omega)).mono fun e w' ⟨q1, q2⟩ => ⟨q1, hz.trans (q2.mono hz.size)⟩
  have K2 : Hid (∀ wz, Below w0.heap.size w0 wz → Calls Tryd.prog 11 #[bv] wz fun e w' => e = .returned (.agg (sl.map vb).toArray) ∧ Below w0.heap.size w0 w') := fun wz hz => by
    have h := H0.out.2.2.1.below hz
    rw [hsl]
    exact (refSha_any bv b wz h.ob.has h.bys.1 (by omega)).mono fun e w' ⟨q1, q2⟩ => ⟨q1, hz.trans (q2.mono hz.size)⟩
  have KC : Hid (∀ wz, Below w0.heap.size w0 wz → wz.cell? ⟨S, 0, none⟩ = some (.pointer (some ⟨KH, 0, none⟩)) ∧ wz.cell? ⟨S, 2, none⟩ = some bv) := fun wz hz => by
    have h := (H0.out.2.2.1.below hz).cell
    exact ⟨h.1, h.2.2.1⟩
  have HPL : Hid (∀ wz, Below w0.heap.size w0 wz → Played w wz lo S KH KP bv pv b.length p.length) := fun wz hz => played_same HS.out (Below.up H0.out.2.1 hz) _ _ (Nat.le_refl _) (Nat.le_refl _)
  clear hsl hc0 hc2
  go_upto_region 14 with fail
  clear k0
  refine wp_region_any (by kernel_rfl) ?_
  change wpAny _ _ _ _ _ _ _ (World.drew _)
  generalize hw4 : World.drew w0 = w4
  have P4 : Hid (Below w0.heap.size w0 w4) := by rw [← hw4]; exact ⟨rfl, rfl, rfl, Nat.le_refl _, fun _ _ => rfl⟩
  clear hw4
  refine wpAny_take (i := 0) (v := .pointer (some ⟨S, 0, none⟩)) rfl (by kernel_rfl) (by kernel_rfl) (by kernel_rfl) (fun _ _ _ h => h) (Or.inl ⟨by kernel_rfl, ?_⟩) ?_
  · intro wz; go_simp
  refine wpAny_take (i := 1) (v := .pointer (some ⟨S, 0, none⟩)) rfl (by kernel_rfl) (by kernel_rfl) (by kernel_rfl) (fun _ _ _ h => h) (Or.inl ⟨by kernel_rfl, ?_⟩) ?_
  · intro wz; go_simp
  refine wpAny_take (i := 2) (v := .pointer (some ⟨S, 0, none⟩)) rfl (by kernel_rfl) (by kernel_rfl) (by kernel_rfl) (fun _ _ _ h => h) (Or.inl ⟨by kernel_rfl, ?_⟩) ?_
  · intro wz; go_simp
  refine wpAny_take (i := 5) (v := .pointer (some ⟨S, 0, none⟩)) rfl (by kernel_rfl) (by kernel_rfl) (by kernel_rfl) (fun _ _ _ h => h) (Or.inl ⟨by kernel_rfl, ?_⟩) ?_
  · intro wz; go_simp
  refine wpAny_take (i := 6) (v := .pointer (some ⟨S, 0, none⟩)) rfl (by kernel_rfl) (by kernel_rfl) (by kernel_rfl) (fun _ _ _ h => h) (Or.inl ⟨by kernel_rfl, ?_⟩) ?_
  · intro wz; go_simp
  refine wpAny_take (i := 7) (v := .pointer (some ⟨S, 2, none⟩)) rfl (by kernel_rfl) (by kernel_rfl) (by kernel_rfl) (fun _ _ _ h => h) (Or.inl ⟨by kernel_rfl, ?_⟩) ?_
  · intro wz; go_simp
  simp only [Act.put, List.getElem_toArray, List.getElem_cons_zero, List.getElem_cons_succ, List.setIfInBounds_toArray, List.set_cons_zero, List.set_cons_succ]
  refine wpAny_ready (rs := [3, 8]) (by kernel_rfl) (by simp) ?_
  refine ar_load_s rfl rfl 60 (by decide) (.tmp 62) rfl ⟨S, 0, none⟩ rfl (.pointer (some ⟨KH, 0, none⟩)) (KC.out _ P4.out).1 ?_ (ar_load_s rfl rfl 43 (by decide) (.tmp 67) rfl ⟨S, 2, none⟩ rfl bv (KC.out _ P4.out).2 ?_ AllReady.nil)
  · simp only [Act.put, List.getElem_toArray, List.getElem_cons_zero, List.getElem_cons_succ, List.setIfInBounds_toArray, List.set_cons_zero, List.set_cons_succ]
    refine wpAny_ready (rs := [4, 8]) (by kernel_rfl) (by simp) ?_
    refine AllReady.cons rfl (fun K' hK' => ?_) (ar_load_s rfl rfl 43 (by decide) (.tmp 67) rfl ⟨S, 2, none⟩ rfl bv (KC.out _ P4.out).2 ?_ AllReady.nil)
    · go_simp
      refine (K1.out _ P4.out).mono ?_
      rintro e w5 ⟨rfl, h5⟩
      have P5 : Hid (Below w0.heap.size w0 w5) := h5
      refine hK' _ _ ?_
      clear hK' K' h5
      refine wpAny_ready (rs := [8]) (by kernel_rfl) (by simp) ?_
      refine ar_load_s rfl rfl 43 (by decide) (.tmp 67) rfl ⟨S, 2, none⟩ rfl bv (KC.out _ P5.out).2 ?_ AllReady.nil
      simp only [Act.put, List.getElem_toArray, List.getElem_cons_zero, List.getElem_cons_succ, List.setIfInBounds_toArray, List.set_cons_zero, List.set_cons_succ]
      refine wpAny_ready (rs := [9]) (by kernel_rfl) (by simp) ?_
      refine AllReady.cons rfl (fun K' hK' => ?_) AllReady.nil
      go_simp
      refine (K2.out _ P5.out).mono ?_
      rintro e w6 ⟨rfl, h6⟩
      have P6 : Hid (Below w0.heap.size w0 w6) := h6
      refine hK' _ _ ?_
      clear hK' K' h6
      try simp only [Act.put, List.getElem_toArray, List.getElem_cons_zero, List.getElem_cons_succ, List.setIfInBounds_toArray, List.set_cons_zero, List.set_cons_succ]
      refine wpAny_take (i := 10) (v := .bool true) rfl (by kernel_rfl) (by kernel_rfl) (by kernel_rfl) (fun _ _ _ h => h) (yields_eql41 (.tmp 64) (.tmp 69) sl HSL.out rfl (by kernel_rfl) rfl rfl) ?_
      refine wpAny_take (i := 11) (v := .bool true) rfl (by kernel_rfl) (by kernel_rfl) (by kernel_rfl) (fun _ _ _ h => h) (Or.inl ⟨by kernel_rfl, ?_⟩) ?_
      · intro wz; go_simp
      refine wpAny_done (by kernel_rfl) ?_ _
      go_simp
      go_wp2_with fail
      go_ret
      exact ⟨rfl, HPL.out _ P6.out⟩
    · simp only [Act.put, List.getElem_toArray, List.getElem_cons_zero, List.getElem_cons_succ, List.setIfInBounds_toArray, List.set_cons_zero, List.set_cons_succ]
      refine wpAny_ready (rs := [4]) (by kernel_rfl) (by simp) ?_
      refine AllReady.cons rfl (fun K' hK' => ?_) AllReady.nil
      go_simp
      refine (K1.out _ P4.out).mono ?_
      rintro e w5 ⟨rfl, h5⟩
      have P5 : Hid (Below w0.heap.size w0 w5) := h5
      refine hK' _ _ ?_
      clear hK' K' h5
      refine wpAny_ready (rs := [9]) (by kernel_rfl) (by simp) ?_
      refine AllReady.cons rfl (fun K' hK' => ?_) AllReady.nil
      go_simp
      refine (K2.out _ P5.out).mono ?_
      rintro e w6 ⟨rfl, h6⟩
      have P6 : Hid (Below w0.heap.size w0 w6) := h6
      refine hK' _ _ ?_
      clear hK' K' h6
      try simp only [Act.put, List.getElem_toArray, List.getElem_cons_zero, List.getElem_cons_succ, List.setIfInBounds_toArray, List.set_cons_zero, List.set_cons_succ]
      refine wpAny_take (i := 10) (v := .bool true) rfl (by kernel_rfl) (by kernel_rfl) (by kernel_rfl) (fun _ _ _ h => h) (yields_eql41 (.tmp 64) (.tmp 69) sl HSL.out rfl (by kernel_rfl) rfl rfl) ?_
      refine wpAny_take (i := 11) (v := .bool true) rfl (by kernel_rfl) (by kernel_rfl) (by kernel_rfl) (fun _ _ _ h => h) (Or.inl ⟨by kernel_rfl, ?_⟩) ?_
      · intro wz; go_simp
      refine wpAny_done (by kernel_rfl) ?_ _
      go_simp
      go_wp2_with fail
      go_ret
      exact ⟨rfl, HPL.out _ P6.out⟩
  · simp only [Act.put, List.getElem_toArray, List.getElem_cons_zero, List.getElem_cons_succ, List.setIfInBounds_toArray, List.set_cons_zero, List.set_cons_succ]
    refine wpAny_ready (rs := [3]) (by kernel_rfl) (by simp) ?_
    refine ar_load_s rfl rfl 60 (by decide) (.tmp 62) rfl ⟨S, 0, none⟩ rfl (.pointer (some ⟨KH, 0, none⟩)) (KC.out _ P4.out).1 ?_ AllReady.nil
    simp only [Act.put, List.getElem_toArray, List.getElem_cons_zero, List.getElem_cons_succ, List.setIfInBounds_toArray, List.set_cons_zero, List.set_cons_succ]
    refine wpAny_ready (rs := [4]) (by kernel_rfl) (by simp) ?_
    refine AllReady.cons rfl (fun K' hK' => ?_) AllReady.nil
    go_simp
    refine (K1.out _ P4.out).mono ?_
    rintro e w5 ⟨rfl, h5⟩
    have P5 : Hid (Below w0.heap.size w0 w5) := h5
    refine hK' _ _ ?_
    clear hK' K' h5
    refine wpAny_ready (rs := [9]) (by kernel_rfl) (by simp) ?_
    refine AllReady.cons rfl (fun K' hK' => ?_) AllReady.nil
    go_simp
    refine (K2.out _ P5.out).mono ?_
    rintro e w6 ⟨rfl, h6⟩
    have P6 : Hid (Below w0.heap.size w0 w6) := h6
    refine hK' _ _ ?_
    clear hK' K' h6
    try simp only [Act.put, List.getElem_toArray, List.getElem_cons_zero, List.getElem_cons_succ, List.setIfInBounds_toArray, List.set_cons_zero, List.set_cons_succ]
    refine wpAny_take (i := 10) (v := .bool true) rfl (by kernel_rfl) (by kernel_rfl) (by kernel_rfl) (fun _ _ _ h => h) (yields_eql41 (.tmp 64) (.tmp 69) sl HSL.out rfl (by kernel_rfl) rfl rfl) ?_
    refine wpAny_take (i := 11) (v := .bool true) rfl (by kernel_rfl) (by kernel_rfl) (by kernel_rfl) (fun _ _ _ h => h) (Or.inl ⟨by kernel_rfl, ?_⟩) ?_
    · intro wz; go_simp
    refine wpAny_done (by kernel_rfl) ?_ _
    go_simp
    go_wp2_with fail
    go_ret
    exact ⟨rfl, HPL.out _ P6.out⟩

set_option maxHeartbeats 4000000 in
set_option maxRecDepth 100000 in
theorem plays_psum (lo S KH KP : Nat) (bv pv ov : Value) (b p pc : List Nat) (which : Int) (w : World) (hs : SideAt w lo S KH KP bv pv b p) (hT : Tabs w) (hp : p.length ≤ 90000) :
    Calls Tryd.prog 28 #[.pointer (some ⟨S, 0, none⟩), .agg (opCells 5 which ov pc)] w fun e w' => e = .returned (.bool true) ∧ Played w w' lo S KH KP bv pv b.length p.length := by
  have hso := hs
  obtain ⟨c, hc, hcz⟩ : ∃ c, c = opCells 5 which ov pc ∧ Hid (c = opCells 5 which ov pc) := ⟨_, rfl, rfl⟩
  rw [← hc]
  have hc0 : c[0]? = some (.int .i64 5) := by rw [hc]; rfl
  have hc2 : c[2]? = some ov := by rw [hc]; rfl
  have HS : Hid (SideAt w lo S KH KP bv pv b p) := hs
  have HT : Hid (Tabs w) := hT
  clear hc hs hso
  go_enter Tryd.func28, Tryd.ntmps28
  go_upto_region 1 with fail
  refine step_world (fun W => W.heap[w.heap.size]? = some (.cells c 58 (0, 0)) ∧ Below w.heap.size w W ∧ SideAt W lo S KH KP bv pv b p ∧ Tabs W) ⟨heap_alloc_new _ _, (Below.refl _ w).alloc (Nat.le_refl _) _, HS.out.below ((Below.refl _ w).alloc (Nat.le_refl _) _), HT.out.up ((Below.refl _ w).alloc (Nat.le_refl _) _)⟩ fun w0 HH0 => ?_
  have H0 : Hid (w0.heap[w.heap.size]? = some (.cells c 58 (0, 0)) ∧ Below w.heap.size w w0 ∧ SideAt w0 lo S KH KP bv pv b p ∧ Tabs w0) := HH0
  obtain ⟨O, hO⟩ : ∃ O, O = w.heap.size := ⟨_, rfl⟩
  have HO : Hid (O = w.heap.size) := hO
  rw [← hO] at HH0 ⊢
  have k0 : w0.cell? ⟨O, 0, none⟩ = some (.int .i64 5) := (cell_of_row _ _ 0 _ _ _ HH0.1).trans hc0
  clear HH0 hO
  obtain ⟨sl, hsl⟩ : ∃ sl, sl = Sha.sha p := ⟨_, rfl⟩
  have HSL : Hid (sl.length = 32) := by show _ = _; rw [hsl]; exact sha_len _
  have K1 : Hid (∀ wz, Below w0.heap.size w0 wz → Calls Tryd.prog 35 #[.pointer (some ⟨KP, 0, none⟩)] wz fun e w' => e = .returned (.agg (sl.map vb).toArray) ∧ Below w0.heap.size w0 w') := fun wz hz => by
    have h := H0.out.2.2.1.below hz
    rw [hsl]
    exact (psum_any KP 100 p wz h.pcs (H0.out.2.2.2.up hz) (by omega)).mono fun e w' ⟨q1, q2⟩ => ⟨q1, hz.trans (q2.mono hz.size)⟩
  have K2 : Hid (∀ wz, Below w0.heap.size w0 wz → Calls Tryd.prog 11 #[pv] wz fun e w' => e = .returned (.agg (sl.map vb).toArray) ∧ Below w0.heap.size w0 w') := fun wz hz => by
    have h := H0.out.2.2.1.below hz
    rw [hsl]
    exact (refSha_any pv p wz h.op.has h.bys.2 (by omega)).mono fun e w' ⟨q1, q2⟩ => ⟨q1, hz.trans (q2.mono hz.size)⟩
  have KC : Hid (∀ wz, Below w0.heap.size w0 wz → wz.cell? ⟨S, 1, none⟩ = some (.pointer (some ⟨KP, 0, none⟩)) ∧ wz.cell? ⟨S, 3, none⟩ = some pv) := fun wz hz => by
    have h := (H0.out.2.2.1.below hz).cell
    exact ⟨h.2.1, h.2.2.2⟩
  have HPL : Hid (∀ wz, Below w0.heap.size w0 wz → Played w wz lo S KH KP bv pv b.length p.length) := fun wz hz => played_same HS.out (Below.up H0.out.2.1 hz) _ _ (Nat.le_refl _) (Nat.le_refl _)
  clear hsl hc0 hc2
  go_upto_region 21 with fail
  clear k0
  refine wp_region_any (by kernel_rfl) ?_
  change wpAny _ _ _ _ _ _ _ (World.drew _)
  generalize hw4 : World.drew w0 = w4
  have P4 : Hid (Below w0.heap.size w0 w4) := by rw [← hw4]; exact ⟨rfl, rfl, rfl, Nat.le_refl _, fun _ _ => rfl⟩
  clear hw4
  refine wpAny_take (i := 0) (v := .pointer (some ⟨S, 0, none⟩)) rfl (by kernel_rfl) (by kernel_rfl) (by kernel_rfl) (fun _ _ _ h => h) (Or.inl ⟨by kernel_rfl, ?_⟩) ?_
  · intro wz; go_simp
  refine wpAny_take (i := 1) (v := .pointer (some ⟨S, 0, none⟩)) rfl (by kernel_rfl) (by kernel_rfl) (by kernel_rfl) (fun _ _ _ h => h) (Or.inl ⟨by kernel_rfl, ?_⟩) ?_
  · intro wz; go_simp
  refine wpAny_take (i := 2) (v := .pointer (some ⟨S, 1, none⟩)) rfl (by kernel_rfl) (by kernel_rfl) (by kernel_rfl) (fun _ _ _ h => h) (Or.inl ⟨by kernel_rfl, ?_⟩) ?_
  · intro wz; go_simp
  refine wpAny_take (i := 5) (v := .pointer (some ⟨S, 0, none⟩)) rfl (by kernel_rfl) (by kernel_rfl) (by kernel_rfl) (fun _ _ _ h => h) (Or.inl ⟨by kernel_rfl, ?_⟩) ?_
  · intro wz; go_simp
  refine wpAny_take (i := 6) (v := .pointer (some ⟨S, 0, none⟩)) rfl (by kernel_rfl) (by kernel_rfl) (by kernel_rfl) (fun _ _ _ h => h) (Or.inl ⟨by kernel_rfl, ?_⟩) ?_
  · intro wz; go_simp
  refine wpAny_take (i := 7) (v := .pointer (some ⟨S, 3, none⟩)) rfl (by kernel_rfl) (by kernel_rfl) (by kernel_rfl) (fun _ _ _ h => h) (Or.inl ⟨by kernel_rfl, ?_⟩) ?_
  · intro wz; go_simp
  simp only [Act.put, List.getElem_toArray, List.getElem_cons_zero, List.getElem_cons_succ, List.setIfInBounds_toArray, List.set_cons_zero, List.set_cons_succ]
  refine wpAny_ready (rs := [3, 8]) (by kernel_rfl) (by simp) ?_
  refine ar_load_s rfl rfl 62 (by decide) (.tmp 107) rfl ⟨S, 1, none⟩ rfl (.pointer (some ⟨KP, 0, none⟩)) (KC.out _ P4.out).1 ?_ (ar_load_s rfl rfl 43 (by decide) (.tmp 112) rfl ⟨S, 3, none⟩ rfl pv (KC.out _ P4.out).2 ?_ AllReady.nil)
  · simp only [Act.put, List.getElem_toArray, List.getElem_cons_zero, List.getElem_cons_succ, List.setIfInBounds_toArray, List.set_cons_zero, List.set_cons_succ]
    refine wpAny_ready (rs := [4, 8]) (by kernel_rfl) (by simp) ?_
    refine AllReady.cons rfl (fun K' hK' => ?_) (ar_load_s rfl rfl 43 (by decide) (.tmp 112) rfl ⟨S, 3, none⟩ rfl pv (KC.out _ P4.out).2 ?_ AllReady.nil)
    · go_simp
      refine (K1.out _ P4.out).mono ?_
      rintro e w5 ⟨rfl, h5⟩
      have P5 : Hid (Below w0.heap.size w0 w5) := h5
      refine hK' _ _ ?_
      clear hK' K' h5
      refine wpAny_ready (rs := [8]) (by kernel_rfl) (by simp) ?_
      refine ar_load_s rfl rfl 43 (by decide) (.tmp 112) rfl ⟨S, 3, none⟩ rfl pv (KC.out _ P5.out).2 ?_ AllReady.nil
      simp only [Act.put, List.getElem_toArray, List.getElem_cons_zero, List.getElem_cons_succ, List.setIfInBounds_toArray, List.set_cons_zero, List.set_cons_succ]
      refine wpAny_ready (rs := [9]) (by kernel_rfl) (by simp) ?_
      refine AllReady.cons rfl (fun K' hK' => ?_) AllReady.nil
      go_simp
      refine (K2.out _ P5.out).mono ?_
      rintro e w6 ⟨rfl, h6⟩
      have P6 : Hid (Below w0.heap.size w0 w6) := h6
      refine hK' _ _ ?_
      clear hK' K' h6
      try simp only [Act.put, List.getElem_toArray, List.getElem_cons_zero, List.getElem_cons_succ, List.setIfInBounds_toArray, List.set_cons_zero, List.set_cons_succ]
      refine wpAny_take (i := 10) (v := .bool true) rfl (by kernel_rfl) (by kernel_rfl) (by kernel_rfl) (fun _ _ _ h => h) (yields_eql41 (.tmp 109) (.tmp 114) sl HSL.out rfl (by kernel_rfl) rfl rfl) ?_
      refine wpAny_take (i := 11) (v := .bool true) rfl (by kernel_rfl) (by kernel_rfl) (by kernel_rfl) (fun _ _ _ h => h) (Or.inl ⟨by kernel_rfl, ?_⟩) ?_
      · intro wz; go_simp
      refine wpAny_done (by kernel_rfl) ?_ _
      go_simp
      go_wp2_with fail
      go_ret
      exact ⟨rfl, HPL.out _ P6.out⟩
    · simp only [Act.put, List.getElem_toArray, List.getElem_cons_zero, List.getElem_cons_succ, List.setIfInBounds_toArray, List.set_cons_zero, List.set_cons_succ]
      refine wpAny_ready (rs := [4]) (by kernel_rfl) (by simp) ?_
      refine AllReady.cons rfl (fun K' hK' => ?_) AllReady.nil
      go_simp
      refine (K1.out _ P4.out).mono ?_
      rintro e w5 ⟨rfl, h5⟩
      have P5 : Hid (Below w0.heap.size w0 w5) := h5
      refine hK' _ _ ?_
      clear hK' K' h5
      refine wpAny_ready (rs := [9]) (by kernel_rfl) (by simp) ?_
      refine AllReady.cons rfl (fun K' hK' => ?_) AllReady.nil
      go_simp
      refine (K2.out _ P5.out).mono ?_
      rintro e w6 ⟨rfl, h6⟩
      have P6 : Hid (Below w0.heap.size w0 w6) := h6
      refine hK' _ _ ?_
      clear hK' K' h6
      try simp only [Act.put, List.getElem_toArray, List.getElem_cons_zero, List.getElem_cons_succ, List.setIfInBounds_toArray, List.set_cons_zero, List.set_cons_succ]
      refine wpAny_take (i := 10) (v := .bool true) rfl (by kernel_rfl) (by kernel_rfl) (by kernel_rfl) (fun _ _ _ h => h) (yields_eql41 (.tmp 109) (.tmp 114) sl HSL.out rfl (by kernel_rfl) rfl rfl) ?_
      refine wpAny_take (i := 11) (v := .bool true) rfl (by kernel_rfl) (by kernel_rfl) (by kernel_rfl) (fun _ _ _ h => h) (Or.inl ⟨by kernel_rfl, ?_⟩) ?_
      · intro wz; go_simp
      refine wpAny_done (by kernel_rfl) ?_ _
      go_simp
      go_wp2_with fail
      go_ret
      exact ⟨rfl, HPL.out _ P6.out⟩
  · simp only [Act.put, List.getElem_toArray, List.getElem_cons_zero, List.getElem_cons_succ, List.setIfInBounds_toArray, List.set_cons_zero, List.set_cons_succ]
    refine wpAny_ready (rs := [3]) (by kernel_rfl) (by simp) ?_
    refine ar_load_s rfl rfl 62 (by decide) (.tmp 107) rfl ⟨S, 1, none⟩ rfl (.pointer (some ⟨KP, 0, none⟩)) (KC.out _ P4.out).1 ?_ AllReady.nil
    simp only [Act.put, List.getElem_toArray, List.getElem_cons_zero, List.getElem_cons_succ, List.setIfInBounds_toArray, List.set_cons_zero, List.set_cons_succ]
    refine wpAny_ready (rs := [4]) (by kernel_rfl) (by simp) ?_
    refine AllReady.cons rfl (fun K' hK' => ?_) AllReady.nil
    go_simp
    refine (K1.out _ P4.out).mono ?_
    rintro e w5 ⟨rfl, h5⟩
    have P5 : Hid (Below w0.heap.size w0 w5) := h5
    refine hK' _ _ ?_
    clear hK' K' h5
    refine wpAny_ready (rs := [9]) (by kernel_rfl) (by simp) ?_
    refine AllReady.cons rfl (fun K' hK' => ?_) AllReady.nil
    go_simp
    refine (K2.out _ P5.out).mono ?_
    rintro e w6 ⟨rfl, h6⟩
    have P6 : Hid (Below w0.heap.size w0 w6) := h6
    refine hK' _ _ ?_
    clear hK' K' h6
    try simp only [Act.put, List.getElem_toArray, List.getElem_cons_zero, List.getElem_cons_succ, List.setIfInBounds_toArray, List.set_cons_zero, List.set_cons_succ]
    refine wpAny_take (i := 10) (v := .bool true) rfl (by kernel_rfl) (by kernel_rfl) (by kernel_rfl) (fun _ _ _ h => h) (yields_eql41 (.tmp 109) (.tmp 114) sl HSL.out rfl (by kernel_rfl) rfl rfl) ?_
    refine wpAny_take (i := 11) (v := .bool true) rfl (by kernel_rfl) (by kernel_rfl) (by kernel_rfl) (fun _ _ _ h => h) (Or.inl ⟨by kernel_rfl, ?_⟩) ?_
    · intro wz; go_simp
    refine wpAny_done (by kernel_rfl) ?_ _
    go_simp
    go_wp2_with fail
    go_ret
    exact ⟨rfl, HPL.out _ P6.out⟩

end Go.Proofs.YtmglopfjjbnfiaaDoor
