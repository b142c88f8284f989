/-
  THE ROOM'S Chunks and Hold by contract, and what the law needs of the list that it answered.
-/
import Derived.Test.YtmglopfjjbnfiaaDoorHoldC
import Derived.Test.YtmglopfjjbnfiaaDoorTurned
namespace Go.Proofs.YtmglopfjjbnfiaaDoor
open Go.RowKit

/-- Where everything of one list of lists in a Room lies. -/
structure Spots where
  ls : List Rl
  hB : Value
  hA : Value
  gv : Nat
  capv : Nat
  ms : List Nat
  bc : Nat
  cc : Nat
  ba : Nat
  ca : Nat

structure InC (w : World) (lo R n : Nat) (s : Spots) (qs : List (List Nat)) : Prop where
  len : qs.length = n
  mlen : s.ms.length = 40
  full : FullM w lo R (zC (.slice (some ⟨s.bc, 0, none⟩) 1 s.cc) (.slice (some ⟨s.ba, 0, none⟩) 1 s.ca)) s.ls s.hB s.hA (.slice (some ⟨s.gv, 0, none⟩) (n + 40) s.capv) qs s.ms
  cbc : w.cell? ⟨s.bc, 0, none⟩ = some (.slice (some ⟨s.gv, 0, none⟩) (n + 40) s.capv)
  cba : w.cell? ⟨s.ba, 0, none⟩ = some (.int .i64 n)
  nx : ∀ x ∈ s.ls, x.g ≠ s.bc ∧ x.g ≠ s.ba

theorem InC.all {w w' : World} {lo R n : Nat} {s : Spots} {qs : List (List Nat)} (h : InC w lo R n s qs) (hb : Below w.heap.size w w') : InC w' lo R n s qs := by
  have r := h.full.room
  have hR := hb.block R r.lt
  exact ⟨h.len, h.mlen, h.full.stow hb.size (fun b hb' _ => hb.block b hb') (frozen_blockA hR r.fz) (cell_block hR r.c0) (cell_block hR r.c1) (fun i h2 h3 => cell_block hR (r.idle i h2 h3)), cell_block (hb.block _ (block_lt_of_cell h.cbc)) h.cbc, cell_block (hb.block _ (block_lt_of_cell h.cba)) h.cba, h.nx⟩

theorem InC.at {w : World} {lo R n : Nat} {s : Spots} {qs : List (List Nat)} (h : InC w lo R n s qs) {i : Nat} (hi : i < n) :
    ∃ g, w.cell? ⟨s.gv, i, none⟩ = some (.slice (some ⟨g, 0, none⟩) (qs.getD i []).length ((qs.getD i []).length + 4)) ∧ lo ≤ g ∧ (∀ k, k < (qs.getD i []).length → w.cell? ⟨g, k, none⟩ = some (vb ((qs.getD i []).getD k 0)) ∧ w.frozen? ⟨g, k, none⟩ = false) ∧
      ∀ k y, k < (qs.getD i []).length → InC (w.setCell ⟨g, k, none⟩ (vb y)) lo R n s (qs.set i ((qs.getD i []).set k y)) := by
  have hl : i < s.ls.length := by rw [h.full.len, h.len]; exact hi
  obtain ⟨q1, q2⟩ := h.full.part i hl
  have r := h.full.room
  have hm := List.getElem_mem hl
  obtain ⟨e1, e2, e3, e4, e5, e6, e7, e8⟩ := r.each _ hm
  have hv := h.full.nv _ hm
  have hxx := h.nx _ hm
  obtain ⟨x, hx⟩ : ∃ x, x = s.ls[i] := ⟨_, rfl⟩
  rw [← hx] at q1 q2 e1 e2 e3 e4 e5 e6 e7 e8 hv hxx hm
  obtain ⟨p, hp⟩ : ∃ p, p = qs.getD i [] := ⟨_, rfl⟩
  rw [← hp] at q1 q2 ⊢
  have hcells : ∀ k, k < p.length → w.cell? ⟨x.g, k, none⟩ = some (vb (p.getD k 0)) := fun k hk => by
    have := World.ownsRow.cells q2 (g := x.g) rfl k (vb (p.getD k 0)) (by rw [List.getElem?_map, List.getElem?_append_left hk]; simp [List.getD, List.getElem?_eq_getElem hk])
    rw [add_g] at this
    exact this
  refine ⟨x.g, ?_, e1, fun k hk => ⟨hcells k hk, ?_⟩, fun k y hk => ?_⟩
  · have := World.ownsRow.cells h.full.row (g := s.gv) rfl i (x.ans) (by rw [List.getElem?_append_left (by simpa using hl), List.getElem?_map, List.getElem?_eq_getElem hl, ← hx]; rfl)
    rw [add_g] at this
    rw [this, ← q1]; rfl
  · exact row_frozen (show w.ownsRow lo 5 1 (.slice (some ⟨x.g, 0, none⟩) (x.n + 4) x.cap) (x.n + 4) ((p ++ lotsL 4).map vb) by have := q2; unfold Owns at this; simpa [Rl.row, lotsL_len, q1] using this) k
  · have hk4 : ∀ b, b ≠ x.g → (w.setCell ⟨x.g, k, none⟩ (vb y)).heap[b]? = w.heap[b]? := fun b hb => set_block hb
    have hR := hk4 R (Ne.symm e3)
    have cb : ∀ b o z, b ≠ x.g → w.cell? ⟨b, o, none⟩ = some z → (w.setCell ⟨x.g, k, none⟩ (vb y)).cell? ⟨b, o, none⟩ = some z := fun b o z hb hc => cell_block (hk4 b hb) hc
    refine ⟨by simp [h.len], h.mlen, ⟨⟨r.loR, by rw [size_set]; exact r.lt, frozen_blockA hR r.fz, fun i h2 h3 => cell_block hR (r.idle i h2 h3), cell_block hR r.c0, cell_block hR r.c1, row_block r.rows fun b hb => hk4 b (fun e => e4 (by rw [hb, e])), row_block r.ats fun b hb => hk4 b (fun e => e5 (by rw [hb, e])), r.nB, r.nA, r.nAB, fun u hu => ?_⟩,
      row_block h.full.row fun b hb => hk4 b (fun e => hv (by rw [hb, e])), by simp [h.full.len], h.full.nR, h.full.nBA, h.full.nv, fun j hj => ?_, h.full.inj, fun j hj => ?_⟩, cb _ _ _ (Ne.symm hxx.1) h.cbc, cb _ _ _ (Ne.symm hxx.2) h.cba, h.nx⟩
    · obtain ⟨f1, f2, f3, f4, f5, f6, f7, f8⟩ := r.each u hu
      refine ⟨f1, by rw [size_set]; exact f2, f3, f4, f5, f6, f7, fun o ho => ?_⟩
      by_cases hug : u.g = x.g
      · obtain ⟨j, hj, hju⟩ := List.getElem_of_mem hu
        have hij : j = i := by
          rcases Nat.lt_trichotomy j i with q | q | q
          · exact absurd (by rw [hju, ← hx]; exact hug) (List.pairwise_iff_getElem.1 h.full.inj j i hj hl q)
          · exact q
          · exact absurd (by rw [hju, ← hx]; exact hug.symm) (List.pairwise_iff_getElem.1 h.full.inj i j hl hj q)
        subst hij
        have hux : u = x := by rw [← hju, hx]
        subst hux
        exact (World.cell?_setCell_other _ _ _ _ (by simp <;> omega)).trans (f8 o ho)
      · exact cb _ _ _ hug (f8 o ho)
    · by_cases hji : j = i
      · subst hji
        have e : (qs.set j (p.set k y)).getD j [] = p.set k y := by simp [List.getD, show j < qs.length by rw [h.len]; exact hi]
        rw [e, ← hx]
        refine ⟨by simp [q1], ?_⟩
        have hs := q2.set k y (by simp; omega)
        rw [List.set_append_left _ _ hk] at hs
        obtain ⟨g', cap', eg, _, _, _, hs, _⟩ := hs
        have hgg : g' = x.g := by simp only [Rl.row, Value.slice.injEq, Option.some.injEq, Addr.mk.injEq] at eg; exact eg.1.1.symm
        rw [hgg] at hs
        exact hs
      · have e : (qs.set i (p.set k y)).getD j [] = qs.getD j [] := by simp [List.getD, Ne.symm hji]
        rw [e]
        obtain ⟨g1, g2⟩ := h.full.part j hj
        refine ⟨g1, g2.block fun b hb => hk4 b ?_⟩
        have hbg : b = s.ls[j].g := by simp only [Rl.row, Value.ownBlock] at hb; simpa using hb.symm
        rw [hbg, hx]
        rcases Nat.lt_or_gt_of_ne hji with q | q
        · exact List.pairwise_iff_getElem.1 h.full.inj j i hj hl q
        · exact (List.pairwise_iff_getElem.1 h.full.inj i j hl hj q).symm
    · obtain ⟨f1, f2, f3, f4, f5, f6, f7⟩ := h.full.marks j hj
      exact ⟨by rw [size_set]; exact f1, f2, f3, f4, f5, f6, cb _ _ _ (f6 x hm).symm f7⟩

theorem InC.hasL {w : World} {lo R n : Nat} {s : Spots} {qs : List (List Nat)} (h : InC w lo R n s qs) : HasL w (.slice (some ⟨s.gv, 0, none⟩) n (n + 40)) qs := by
  refine .inr ⟨⟨s.gv, 0, none⟩, n + 40, by rw [h.len], by rw [h.len]; omega, fun i hi => ?_⟩
  obtain ⟨g, hc, _, hcc, _⟩ := h.at (i := i) (by rw [← h.len]; exact hi)
  refine ⟨_, by rw [add_g]; exact hc, .inr ⟨⟨g, 0, none⟩, _, rfl, by omega, fun k hk => ?_⟩⟩
  rw [add_g]
  exact (hcc k hk).1

set_option maxHeartbeats 1600000 in
set_option maxRecDepth 100000 in
theorem roomHoldC_any (lo R n : Nat) (s : Spots) (qs : List (List Nat)) (w : World) (h : InC w lo R n s qs) (hn : n ≤ 1000000) :
    Calls Tryd.prog 16 #[.pointer (some ⟨R, 0, none⟩)] w fun e w' => e = .returned (.bool true) ∧ ∃ j, w' = w.drewN j := by
  have r := h.full.room
  have idl : ∀ i, 2 ≤ i → i < 26 → i ≠ 16 → i ≠ 17 → w.cell? ⟨R, i, none⟩ = some (.slice none 0 0) := fun i h2 h3 h6 h7 => by
    have := r.idle i h2 h3
    simpa [zC, h6, h7] using this
  have C44 := holdBytesM_any lo R _ s.ls s.hB s.hA w r (by rw [h.full.len, h.len]; omega)
  have C45 := hold45_idle R w (idl 2 (by decide) (by decide) (by decide) (by decide))
  have C46 := hold46_idle R w (idl 4 (by decide) (by decide) (by decide) (by decide))
  have C47 := hold47_idle R w (idl 6 (by decide) (by decide) (by decide) (by decide))
  have C48 := hold48_idle R w (idl 8 (by decide) (by decide) (by decide) (by decide))
  have C49 := hold49_idle R w (idl 10 (by decide) (by decide) (by decide) (by decide))
  have C50 := hold50_idle R w (idl 12 (by decide) (by decide) (by decide) (by decide))
  have C51 := hold51_idle R w (idl 14 (by decide) (by decide) (by decide) (by decide))
  have C52 : Hid (Calls Tryd.prog 52 #[.pointer (some ⟨R, 0, none⟩)] w fun e w' => e = .returned (.bool true) ∧ ∃ j, w' = w.drewN j) := holdChunks_any R s.gv n s.capv s.bc s.cc s.ba s.ca w (r.idle 16 (by decide) (by decide)) (r.idle 17 (by decide) (by decide)) h.cbc h.cba (fun i hi => by
    have hm : i < s.ms.length := by rw [h.mlen]; exact hi
    obtain ⟨_, _, _, _, _, _, f7⟩ := h.full.marks i hm
    refine ⟨s.ms[i], ?_, f7⟩
    have hll : s.ls.length = n := by rw [h.full.len, h.len]
    have := World.ownsRow.cells h.full.row (g := s.gv) rfl (n + i) (markV s.ms[i]) (by rw [List.getElem?_append_right (by simp; omega)]; simp [hll, List.getElem?_eq_getElem hm])
    rw [add_g] at this
    exact this) (by omega)
  have C53 := fun j => hold53_idle R (w.drewN j) (idl 18 (by decide) (by decide) (by decide) (by decide))
  have C54 := fun j => hold54_idle R (w.drewN j) (idl 20 (by decide) (by decide) (by decide) (by decide))
  have C55 := fun j => hold55_idle R (w.drewN j) (idl 22 (by decide) (by decide) (by decide) (by decide))
  have C56 := fun j => hold56_idle R (w.drewN j) (idl 24 (by decide) (by decide) (by decide) (by decide))
  clear h r idl
  go_enter Tryd.func16, Tryd.ntmps16
  go_wp2_with (first
    | (go_at_call 44; refine C44.mono ?_; rintro e w2 ⟨rfl, e2⟩; subst e2)
    | (go_at_call 45; refine C45.mono ?_; rintro e w2 ⟨rfl, e2⟩; subst e2)
    | (go_at_call 46; refine C46.mono ?_; rintro e w2 ⟨rfl, e2⟩; subst e2)
    | (go_at_call 47; refine C47.mono ?_; rintro e w2 ⟨rfl, e2⟩; subst e2)
    | (go_at_call 48; refine C48.mono ?_; rintro e w2 ⟨rfl, e2⟩; subst e2)
    | (go_at_call 49; refine C49.mono ?_; rintro e w2 ⟨rfl, e2⟩; subst e2)
    | (go_at_call 50; refine C50.mono ?_; rintro e w2 ⟨rfl, e2⟩; subst e2)
    | (go_at_call 51; refine C51.mono ?_; rintro e w2 ⟨rfl, e2⟩; subst e2)
    | (go_at_call 52; refine C52.out.mono ?_; rintro e w3 ⟨rfl, j, e3⟩; subst e3)
    | (go_at_call 53; refine (C53 j).mono ?_; rintro e w4 ⟨rfl, e4⟩; subst e4)
    | (go_at_call 54; refine (C54 j).mono ?_; rintro e w4 ⟨rfl, e4⟩; subst e4)
    | (go_at_call 55; refine (C55 j).mono ?_; rintro e w4 ⟨rfl, e4⟩; subst e4)
    | (go_at_call 56; refine (C56 j).mono ?_; rintro e w4 ⟨rfl, e4⟩; subst e4))
  go_ret
  exact ⟨rfl, j, rfl⟩

set_option maxHeartbeats 800000 in
set_option maxRecDepth 100000 in
theorem roomChunks_any (vl : Value) (ps : List (List Nat)) (w0 : World) (hv : HasL w0 vl ps) (hn : ps.length ≤ 32768) (hp : ∀ p ∈ ps, p.length ≤ 32768) :
    Calls Tryd.prog 10 #[.pointer (some ⟨w0.heap.size, 0, none⟩), vl] (w0.alloc roomObj) fun e w' => ∃ s : Spots, e = .returned (.slice (some ⟨s.gv, 0, none⟩) ps.length (ps.length + 40)) ∧ InC w' w0.heap.size w0.heap.size ps.length s ps ∧ Below w0.heap.size w0 w' := by
  have hb0 : Below w0.heap.size w0 (w0.alloc roomObj) := (Below.refl _ w0).alloc (Nat.le_refl _) _
  have hr : RoomM (w0.alloc roomObj) w0.heap.size w0.heap.size z0 [] (.slice none 0 0) (.slice none 0 0) :=
    ⟨Nat.le_refl _, by simp, (room_new w0).2, fun i _ h => (room_new w0).1 i h, (room_new w0).1 0 (by decide), (room_new w0).1 1 (by decide), World.ownsRow_nil _ _ _ _, World.ownsRow_nil _ _ _ _, by simp [Value.ownBlock], by simp [Value.ownBlock], fun b h => by simp [Value.ownBlock] at h, fun x hx => by simp at hx⟩
  have C : Hid (Calls Tryd.prog 39 #[.pointer (some ⟨w0.heap.size, 0, none⟩), vl, .int .i64 40] (w0.alloc roomObj) fun e w' => ∃ s : Spots, e = .returned (.slice (some ⟨s.gv, 0, none⟩) ps.length (ps.length + 40)) ∧ (InC w' w0.heap.size w0.heap.size ps.length s ps ∧ Below w0.heap.size w0 w')) :=
    (layC_any w0.heap.size w0.heap.size vl ps w0 (w0.alloc roomObj) rfl hb0 hr hv hn hp).mono fun e w' ⟨ls, hB, hA, v, gv, capv, ms, bc, cc, ba, ca, q1, q2, q3, q4, q5, q6, q7, q8⟩ => by
      subst q2
      exact ⟨⟨ls, hB, hA, gv, capv, ms, bc, cc, ba, ca⟩, q1, ⟨rfl, q3, q4, q5, q6, q7⟩, hb0.trans q8⟩
  clear hr hv hp hb0 hn
  go_enter Tryd.func10, Tryd.ntmps10
  go_wp2_with (go_at_call 39; refine C.out.mono ?_; rintro e w1 ⟨s, rfl, h⟩; have HX : Hid (InC w1 w0.heap.size w0.heap.size ps.length s ps ∧ Below w0.heap.size w0 w1) := h; clear h)
  go_ret
  exact ⟨s, rfl, HX.out⟩
end Go.Proofs.YtmglopfjjbnfiaaDoor
