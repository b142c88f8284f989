/-
  twinelaw2's side.plays by contract: bytes are added.
-/
import Derived.Test.YtmglopfjjbnfiaaDoorPlays2
namespace Go.Proofs.YtmglopfjjbnfiaaDoor
open Go.RowKit

/-- The new list of bytes is laid down. -/
theorem stored_b {w6 w7 : World} {lo S KH KP : Nat} {bv pv v' : Value} {b' p : List Nat} (row : w6.heap[S]? = some (.cells (sideRow KH KP bv pv) 65 (0, 0))) (hash : HashAt w6 KH 98 b') (pcs : HashAt w6 KP 100 p) (op : Owns w6 lo pv p)
    (los : lo ≤ S ∧ lo ≤ KH ∧ lo ≤ KP) (d1 : S ≠ KH ∧ S ≠ KP ∧ KH ≠ KP) (d2 : ∀ k, bv.ownBlock = some k → k ≠ S ∧ k ≠ KH ∧ k ≠ KP ∧ pv.ownBlock ≠ some k) (d3 : ∀ k, pv.ownBlock = some k → k ≠ S ∧ k ≠ KH ∧ k ≠ KP) (bys : Bytes b' ∧ Bytes p)
    (ho : Owns w7 lo v' b') (hg : w6.grownBy w7 bv.ownBlock) (hv : v'.ownBlock = bv.ownBlock ∨ v'.ownBlock = some w6.heap.size) :
    SideAt (w7.setCell ⟨S, 2, none⟩ v') lo S KH KP v' pv b' p ∧ Keep (foot S KH KP bv pv) w6 (w7.setCell ⟨S, 2, none⟩ v') ∧ ∀ k, foot S KH KP v' pv k → foot S KH KP bv pv k ∨ w6.heap.size ≤ k := by
  have hS := (Array.getElem?_eq_some_iff.1 row).1
  have hset : ∀ k, k ≠ S → (w7.setCell ⟨S, 2, none⟩ v').heap[k]? = w7.heap[k]? := fun k hk => heap_setCell_other _ _ _ _ hk
  have hgb : ∀ k, k < w6.heap.size → bv.ownBlock ≠ some k → w7.heap[k]? = w6.heap[k]? := fun k hk hn => hg.block k hk (fun e => hn e.symm)
  have hpS : bv.ownBlock ≠ some S := fun e => (d2 S e).1 rfl
  have hpH : bv.ownBlock ≠ some KH := fun e => (d2 KH e).2.1 rfl
  have hpP : bv.ownBlock ≠ some KP := fun e => (d2 KP e).2.2.1 rfl
  have hv' : ∀ k, v'.ownBlock = some k → k ≠ S ∧ k ≠ KH ∧ k ≠ KP ∧ pv.ownBlock ≠ some k := fun k hk => by
    rcases hv with e | e
    · rw [e] at hk; exact d2 k hk
    · rw [e] at hk
      obtain rfl := Option.some.inj hk
      exact ⟨fun q => by omega, fun q => by have := hash.lt; omega, fun q => by have := pcs.lt; omega, fun q => by have := (op.lt _ q).2; omega⟩
  have row7 : w7.heap[S]? = some (.cells (sideRow KH KP bv pv) 65 (0, 0)) := (hgb S hS hpS).trans row
  refine ⟨⟨?_, ?_, ?_, ?_, ?_, los, d1, hv', d3, bys⟩, ⟨hg.os, hg.tape, hg.output, ?_, ?_⟩, ?_⟩
  · rw [heap_setCell_same _ _ _ _ _ _ row7]; rfl
  · exact hash.block ((hset KH (Ne.symm d1.1)).trans (hgb KH hash.lt hpH))
  · exact pcs.block ((hset KP (Ne.symm d1.2.1)).trans (hgb KP pcs.lt hpP))
  · exact ho.block fun k hk => hset k (hv' k hk).1
  · exact op.block fun k hk => (hset k (d3 k hk).1).trans (hgb k (op.lt k hk).2 (fun q => (d2 k q).2.2.2 hk))
  · have := hg.size; simpa [World.setCell] using this
  · exact fun k hk hn => (hset k (fun e => hn (.inl e))).trans (hgb k hk (fun e => hn (.inr (.inr (.inr (.inl e))))))
  · intro k hk
    rcases hk with h | h | h | h | h
    · exact .inl (.inl h)
    · exact .inl (.inr (.inl h))
    · exact .inl (.inr (.inr (.inl h)))
    · rcases hv with e | e
      · rw [e] at h; exact .inl (.inr (.inr (.inr (.inl h))))
      · rw [e] at h; obtain rfl := Option.some.inj h; exact .inr (Nat.le_refl _)
    · exact .inl (.inr (.inr (.inr (.inr h))))

theorem Has.high {w w' : World} {g n c : Nat} {M : List Nat} (h : Has w (.slice (some ⟨g, 0, none⟩) n c) M) (hb : g < w.heap.size → w'.heap[g]? = w.heap[g]?) : Has w' (.slice (some ⟨g, 0, none⟩) n c) M := by
  rcases h with ⟨q, _⟩ | ⟨a, cap, hv, hc, hcell⟩
  · cases q
  · simp only [Value.slice.injEq, Option.some.injEq] at hv
    obtain ⟨rfl, rfl, rfl⟩ := hv
    refine .inr ⟨⟨g, 0, none⟩, c, rfl, hc, fun i hi => ?_⟩
    have h1 := hcell i hi
    rw [add_g] at h1 ⊢
    rw [World.cell?_of_block (hb (World.block_lt_of_cell? w ⟨g, i, none⟩ h1))]
    exact h1

/-- Where a side stands once bytes were added: the side, the Room, the list that was handed in. -/
structure Added (w w2 wf : World) (lo S KH KP R g n : Nat) (bv pv : Value) (b p ob : List Nat) (O : Nat) (c : Array Value) : Prop where
  side : ∃ bv', SideAt wf lo S KH KP bv' pv (b ++ ob) p ∧ (∀ k, foot S KH KP bv' pv k → foot S KH KP bv pv k ∨ R ≤ k) ∧ (∀ k, foot S KH KP bv' pv k → k ≠ g)
  keep : Keep (foot S KH KP bv pv) w wf
  room : RoomB wf R g n
  has : ∃ M : List Nat, M.length = n ∧ Bytes M ∧ Has wf (.slice (some ⟨g, 0, none⟩) n (n + 600)) M
  size : w2.heap.size ≤ wf.heap.size

set_option maxHeartbeats 4000000 in
set_option maxRecDepth 100000 in
theorem plays_add (lo S KH KP : Nat) (bv pv ov : Value) (b p pc ob : List Nat) (which : Int) (wi w : World) (hs : SideAt w lo S KH KP bv pv b p) (hT : Tabs w) (hlo : 3 ≤ lo) (hwi : wi.heap.size ≤ lo) (hov : Has wi ov ob) (hbi : Below wi.heap.size wi w) (hob : Bytes ob) (hb : b.length + ob.length ≤ 90000) (hol : ob.length ≤ 32768) :
    Calls Tryd.prog 28 #[.pointer (some ⟨S, 0, none⟩), .agg (opCells 1 which ov pc)] w fun e w' => e = .returned (.bool true) ∧ Played w w' lo S KH KP bv pv (b.length + ob.length) p.length := by
  obtain ⟨oo, oc, hof, _⟩ := hov.form
  obtain ⟨n, hn⟩ : ∃ n, n = ob.length := ⟨_, rfl⟩
  rw [← hn] at hof hol
  have HN : Hid (n = ob.length ∧ b.length + ob.length ≤ 90000 ∧ Bytes ob ∧ 3 ≤ lo) := ⟨hn, hb, hob, hlo⟩
  have HOV : Hid (∀ wz, Below lo w wz → Has wz (.slice oo n oc) ob) := fun wz hz => by
    rw [← hof]; exact hov.below (hbi.trans (hz.mono hwi))
  rw [hof]
  clear hof hov hbi hob hb hn hwi hlo
  have hso := hs
  obtain ⟨c, hc, hcz⟩ : ∃ c, c = opCells 1 which (.slice oo n oc) pc ∧ Hid (c = opCells 1 which (.slice oo n oc) pc) := ⟨_, rfl, rfl⟩
  rw [← hc]
  have hc0 : c[0]? = some (.int .i64 1) := by rw [hc]; rfl
  have hc2 : c[2]? = some (.slice oo n oc) := by rw [hc]; rfl
  have HS : Hid (SideAt w lo S KH KP bv pv b p) := hs
  have HT : Hid (Tabs w) := hT
  clear hc hs hso
  go_enter Tryd.func28, Tryd.ntmps28
  go_upto_region 1 with fail
  refine step_world (fun W => W.heap[w.heap.size]? = some (.cells c 58 (0, 0)) ∧ Below w.heap.size w W ∧ SideAt W lo S KH KP bv pv b p ∧ Tabs W) ⟨heap_alloc_new _ _, (Below.refl _ w).alloc (Nat.le_refl _) _, HS.out.below ((Below.refl _ w).alloc (Nat.le_refl _) _), HT.out.up ((Below.refl _ w).alloc (Nat.le_refl _) _)⟩ fun w0 HH0 => ?_
  have H0 : Hid (w0.heap[w.heap.size]? = some (.cells c 58 (0, 0)) ∧ Below w.heap.size w w0 ∧ SideAt w0 lo S KH KP bv pv b p ∧ Tabs w0) := HH0
  obtain ⟨O, hO⟩ : ∃ O, O = w.heap.size := ⟨_, rfl⟩
  have HO : Hid (O = w.heap.size) := hO
  rw [← hO] at HH0 ⊢
  have k0 : w0.cell? ⟨O, 0, none⟩ = some (.int .i64 1) := (cell_of_row _ _ 0 _ _ _ HH0.1).trans hc0
  clear HH0 hO
  have k2 : w0.cell? ⟨O, 2, none⟩ = some (.slice oo n oc) := by
    have h := H0.out.1
    rw [← HO.out] at h
    exact (cell_of_row _ _ 2 _ _ _ h).trans hc2
  have hOl : O < w0.heap.size := by have h := H0.out.1; rw [← HO.out] at h; exact (Array.getElem?_eq_some_iff.1 h).1
  have k2' : (w0.alloc roomObj).cell? ⟨O, 2, none⟩ = some (.slice oo n oc) := by rw [((Below.refl w0.heap.size w0).alloc (Nat.le_refl _) roomObj).cell (p := ⟨O, 2, none⟩) hOl]; exact k2
  have HFL : Hid (∀ k, foot S KH KP bv pv k → lo ≤ k ∧ k < w0.heap.size ∧ k ≠ O) := fun k hk => ⟨(HS.out.foot_lt hk).1, (H0.out.2.2.1.foot_lt hk).2, fun e => by have := (HS.out.foot_lt hk).2; rw [e, HO.out] at this; omega⟩
  have hlo0 : lo ≤ w.heap.size := by have := (HS.out.foot_lt (k := S) (.inl rfl)); omega
  have C17 : Hid (Calls Tryd.prog 17 #[.pointer (some ⟨w0.heap.size, 0, none⟩), .slice oo n oc] (w0.alloc roomObj) fun e w' => ∃ g, e = .returned (.slice (some ⟨g, 0, none⟩) n (n + 600)) ∧ (w0.heap.size ≤ g ∧ Has w' (.slice (some ⟨g, 0, none⟩) n (n + 600)) ob ∧ RoomB w' w0.heap.size g n ∧ Below w0.heap.size w0 w')) := by
    have hb : Below w0.heap.size w0 (w0.alloc roomObj) := (Below.refl _ w0).alloc (Nat.le_refl _) _
    have hh : Has (w0.alloc roomObj) (.slice oo n oc) ob := HOV.out _ ((Below.up H0.out.2.1 hb).mono hlo0)
    have e := HN.out.1
    refine (roomBytes_any w0.heap.size w0.heap.size (.slice oo n oc) ob (w0.alloc roomObj) (Nat.le_refl _) (by simp) (room_new w0).1 (room_new w0).2 hh (by omega)).mono fun e' w' ⟨g, q1, q2, q3, q4, q5⟩ => ?_
    rw [← e] at q1 q3 q4
    exact ⟨g, q1, q2, q3, q4, hb.trans q5⟩
  have e11 : ((1 : Int) == 1) = true := rfl
  clear hc0 hc2
  go_upto_region 5 with (go_at_call 17; refine C17.out.mono ?_; rintro e w1 ⟨g, rfl, h1⟩; have H1 : Hid (w0.heap.size ≤ g ∧ Has w1 (.slice (some ⟨g, 0, none⟩) n (n + 600)) ob ∧ RoomB w1 w0.heap.size g n ∧ Below w0.heap.size w0 w1) := h1; clear h1)
  obtain ⟨R, hR⟩ : ∃ R, R = w0.heap.size := ⟨_, rfl⟩
  have HRR : Hid (R = w0.heap.size) := hR
  rw [← hR] at H1 HFL hOl ⊢
  have hs1 : SideAt w1 lo S KH KP bv pv b p := H0.out.2.2.1.below (by rw [← hR]; exact H1.out.2.2.2)
  have HS1 : Hid (SideAt w1 lo S KH KP bv pv b p) := hs1
  have s0 := hs1.cell.1
  have C31 : Hid (Calls Tryd.prog 31 #[.pointer (some ⟨KH, 0, none⟩), .slice (some ⟨g, 0, none⟩) n (n + 600)] w1 fun e w' => e = .returned (.tuple #[]) ∧ (HashAt w' KH 98 (b ++ ob) ∧ But KH w1 w')) := by
    have hKH := HFL.out KH (.inr (.inl rfl))
    refine add_any KH 98 b ob _ w1 hs1.hash H1.out.2.1 ?_ HN.out.2.2.1 (H0.out.2.2.2.up (by rw [← hR]; exact H1.out.2.2.2)) (by have := HN.out.2.2.2; omega) (by have := HN.out.2.1; omega)
    intro a n' c' e' _
    simp only [Value.slice.injEq, Option.some.injEq] at e'
    rw [← e'.1]
    show g ≠ KH
    have := H1.out.1; omega
  clear k0 k2 k2' hR C17 hs1
  go_upto_region 6 with (go_at_call 31; refine C31.out.mono ?_; rintro e w2 ⟨rfl, h2⟩; have H2 : Hid (HashAt w2 KH 98 (b ++ ob) ∧ But KH w1 w2) := h2; clear h2)
  clear s0 C31
  go_cut [] from 24 (fun wf => Added w w2 wf lo S KH KP R g n bv pv b p ob O c ∧ wf.heap[O]? = some (.cells c 58 (0, 0)) ∧ Has wf (.slice (some ⟨g, 0, none⟩) n (n + 600)) ob)
  case first =>
    have hKH := HFL.out KH (.inr (.inl rfl))
    have hO1 : w1.heap[O]? = some (.cells c 58 (0, 0)) := by
      have h := H0.out.1
      rw [← HO.out] at h
      rw [H1.out.2.2.2.block O hOl]; exact h
    have hOs1 : O < w1.heap.size := (Array.getElem?_eq_some_iff.1 hO1).1
    have hsd := HS1.out.added H2.out.2
    have hx2 : Has w2 (.slice oo n oc) ob := HOV.out _ (by
      have q1 : Below lo w w1 := (H0.out.2.1.trans (H1.out.2.2.2.mono (by have := H0.out.2.1.size; rw [HRR.out]; omega))).mono hlo0
      exact q1.trans (H2.out.2.below hKH.1 (by have := q1.size; omega)))
    have hO2 : w2.heap[O]? = some (.cells c 58 (0, 0)) := by rw [H2.out.2.block O hOs1 (fun e => hKH.2.2 e.symm)]; exact hO1
    have hr2 : RoomB w2 R g n := H1.out.2.2.1.high H1.out.1 fun k hk hl => H2.out.2.block k hl (by omega)
    have hg2 : Has w2 (.slice (some ⟨g, 0, none⟩) n (n + 600)) ob := H1.out.2.1.high fun hl => H2.out.2.block g hl (by have := H1.out.1; omega)
    have hk2 : Keep (foot S KH KP bv pv) w w2 := (Keep.of_below (Below.up H0.out.2.1 (by rw [← HRR.out]; exact H1.out.2.2.2))).trans (Keep.of_but H2.out.2 (.inr (.inl rfl)))
    refine wp_region_any (by kernel_rfl) ?_
    change wpAny _ _ _ _ _ _ _ (World.drew _)
    generalize hw6 : World.drew w2 = w6
    have P6 : Hid (w6.heap = w2.heap ∧ w6.os = w2.os ∧ w6.tape = w2.tape ∧ w6.output = w2.output) := by rw [← hw6]; exact ⟨rfl, rfl, rfl, rfl⟩
    have P7 : Hid (w6.heap[S]? = some (.cells (sideRow KH KP bv pv) 65 (0, 0)) ∧ HashAt w6 KH 98 (b ++ ob) ∧ HashAt w6 KP 100 p ∧ Owns w6 lo bv b ∧ Owns w6 lo pv p ∧ w6.heap[O]? = some (.cells c 58 (0, 0)) ∧ Has w6 (.slice oo n oc) ob) := by
      rw [← hw6]; exact ⟨hsd.1, H2.out.1.block rfl, hsd.2.1.block rfl, hsd.2.2.1.block fun _ _ => rfl, hsd.2.2.2.block fun _ _ => rfl, hO2, hx2.heap rfl⟩
    have P8 : Hid (RoomB w2 R g n ∧ Has w2 (.slice (some ⟨g, 0, none⟩) n (n + 600)) ob ∧ Keep (foot S KH KP bv pv) w w2 ∧ g < w2.heap.size ∧ R ≤ w2.heap.size) := ⟨hr2, hg2, hk2, by have := World.block_lt_of_cell? w2 ⟨g, n + 0, none⟩ (hr2.marks 0 (by omega)); exact this, by have := H1.out.2.2.2.size; have := H2.out.2.size; rw [HRR.out]; omega⟩
    have hc2 : c[2]? = some (.slice oo n oc) := by rw [hcz.out]; rfl
    have HC2 : Hid (w6.cell? ⟨O, 2, none⟩ = some (.slice oo n oc)) := (cell_of_row _ _ 2 _ _ _ P7.out.2.2.2.2.2.1).trans hc2
    clear hw6 hsd hx2 hO2 hr2 hg2 hk2 hO1 hOs1 hc2
    refine wpAny_take (i := 0) (v := .pointer (some ⟨S, 0, none⟩)) rfl (by kernel_rfl) (by kernel_rfl) (by kernel_rfl) (fun _ _ _ h => h) (Or.inl ⟨by kernel_rfl, ?_⟩) ?_
    · intro wz; go_simp
    refine wpAny_take (i := 1) (v := .pointer (some ⟨S, 0, none⟩)) rfl (by kernel_rfl) (by kernel_rfl) (by kernel_rfl) (fun _ _ _ h => h) (Or.inl ⟨by kernel_rfl, ?_⟩) ?_
    · intro wz; go_simp
    refine wpAny_take (i := 2) (v := .pointer (some ⟨S, 0, none⟩)) rfl (by kernel_rfl) (by kernel_rfl) (by kernel_rfl) (fun _ _ _ h => h) (Or.inl ⟨by kernel_rfl, ?_⟩) ?_
    · intro wz; go_simp
    refine wpAny_take (i := 3) (v := .pointer (some ⟨S, 2, none⟩)) rfl (by kernel_rfl) (by kernel_rfl) (by kernel_rfl) (fun _ _ _ h => h) (Or.inl ⟨by kernel_rfl, ?_⟩) ?_
    · intro wz; go_simp
    refine wpAny_take (i := 5) (v := .pointer (some ⟨O, 2, none⟩)) rfl (by kernel_rfl) (by kernel_rfl) (by kernel_rfl) (fun _ _ _ h => h) (Or.inl ⟨by kernel_rfl, ?_⟩) ?_
    · intro wz; go_simp
    simp only [Act.put, List.getElem_toArray, List.getElem_cons_zero, List.getElem_cons_succ, List.setIfInBounds_toArray, List.set_cons_zero, List.set_cons_succ]
    refine wpAny_ready (rs := [4, 6]) (by kernel_rfl) (by simp) ?_
    refine ar_load_s rfl rfl 43 (by decide) (.tmp 27) rfl ⟨S, 2, none⟩ rfl bv (cell_of_row _ _ 2 _ _ _ P7.out.1) ?_ (ar_load_s rfl rfl 43 (by decide) (.tmp 29) rfl ⟨O, 2, none⟩ rfl (.slice oo n oc) HC2.out ?_ AllReady.nil)
    · simp only [Act.put, List.getElem_toArray, List.getElem_cons_zero, List.getElem_cons_succ, List.setIfInBounds_toArray, List.set_cons_zero, List.set_cons_succ]
      refine wpAny_ready (rs := [6]) (by kernel_rfl) (by simp) ?_
      refine ar_load_s rfl rfl 43 (by decide) (.tmp 29) rfl ⟨O, 2, none⟩ rfl (.slice oo n oc) HC2.out ?_ AllReady.nil
      simp only [Act.put, List.getElem_toArray, List.getElem_cons_zero, List.getElem_cons_succ, List.setIfInBounds_toArray, List.set_cons_zero, List.set_cons_succ]
      refine wpAny_ready (rs := [7]) (by kernel_rfl) (by simp) ?_
      refine ar_append_b rfl rfl (.tmp 28) (.tmp 30) rfl lo bv _ b ob rfl rfl P7.out.2.2.2.1 P7.out.2.2.2.2.2.2 (by have := HN.out.2.1; omega) (by have := (Array.getElem?_eq_some_iff.1 P7.out.1).1; have := HS1.out.los.1; omega) (fun v' w7 ho7 hg7 hv7 => ?_) AllReady.nil
      have hst := stored_b P7.out.1 P7.out.2.1 P7.out.2.2.1 P7.out.2.2.2.2.1 HS1.out.los HS1.out.d1 HS1.out.d2 HS1.out.d3 ⟨fun x hx => (List.mem_append.1 hx).elim (HS1.out.bys.1 x) (HN.out.2.2.1 x), HS1.out.bys.2⟩ ho7 hg7 hv7
      have row7 : w7.heap[S]? = some (.cells (sideRow KH KP bv pv) 65 (0, 0)) := (hg7.block S (Array.getElem?_eq_some_iff.1 P7.out.1).1 (fun e => (HS1.out.d2 S e.symm).1 rfl)).trans P7.out.1
      have c7 : w7.cell? ⟨S, 2, none⟩ = some bv := cell_of_row _ _ 2 _ _ _ row7
      have f7 : w7.frozen? ⟨S, 2, none⟩ = false := frozen_of_row _ _ 2 _ _ row7
      have HADD : Hid (Added w w2 (w7.setCell ⟨S, 2, none⟩ v') lo S KH KP R g n bv pv b p ob O c ∧ (w7.setCell ⟨S, 2, none⟩ v').heap[O]? = some (.cells c 58 (0, 0)) ∧ Has (w7.setCell ⟨S, 2, none⟩ v') (.slice (some ⟨g, 0, none⟩) n (n + 600)) ob) := by
        have h62 := P6.out.1
        have hfree : ∀ k, k < w2.heap.size → ¬ foot S KH KP bv pv k → (w7.setCell ⟨S, 2, none⟩ v').heap[k]? = w2.heap[k]? := fun k hk hn => by
          rw [hst.2.1.block k (by rw [h62]; exact hk) hn, h62]
        have hhigh : ∀ k, R ≤ k → ¬ foot S KH KP bv pv k := fun k hk hf => by have := (HFL.out k hf).2.1; omega
        have hgR := H1.out.1
        refine ⟨⟨⟨v', hst.1, fun k hk => ?_, fun k hk => ?_⟩, ?_, ?_, ⟨ob, HN.out.1.symm, HN.out.2.2.1, ?_⟩, ?_⟩, ?_, ?_⟩
        · rcases hst.2.2 k hk with h | h
          · exact .inl h
          · refine .inr ?_
            rw [h62] at h
            have := P8.out.2.2.2.2; omega
        · rcases hst.2.2 k hk with h | h
          · intro e; exact hhigh k (by omega) h
          · rw [h62] at h; have := P8.out.2.2.2.1; omega
        · refine P8.out.2.2.1.trans ⟨hst.2.1.os.trans P6.out.2.1, hst.2.1.tape.trans P6.out.2.2.1, hst.2.1.output.trans P6.out.2.2.2, by have := hst.2.1.size; rw [h62] at this; exact this, hfree⟩
        · exact P8.out.1.high hgR fun k hk hl => hfree k hl (hhigh k hk)
        · exact P8.out.2.1.high fun hl => hfree g hl (hhigh g hgR)
        · have := hst.2.1.size; rw [h62] at this; exact this
        · have hO6 := P7.out.2.2.2.2.2.1
          rw [h62] at hO6
          exact (hfree O (Array.getElem?_eq_some_iff.1 hO6).1 (fun hf => (HFL.out O hf).2.2 rfl)).trans hO6
        · exact P8.out.2.1.high fun hl => hfree g hl (hhigh g hgR)
      obtain ⟨vo, vc, e7, _⟩ := ho7.has.form
      subst e7
      clear hst row7 ho7 hg7 hv7
      simp only [Act.put, List.getElem_toArray, List.getElem_cons_zero, List.getElem_cons_succ, List.setIfInBounds_toArray, List.set_cons_zero, List.set_cons_succ]
      refine wpAny_take (i := 8) (v := .pointer (some ⟨S, 0, none⟩)) rfl (by kernel_rfl) (by kernel_rfl) (by kernel_rfl) (fun _ _ _ h => h) (Or.inl ⟨by kernel_rfl, ?_⟩) ?_
      · intro wz; go_simp
      refine wpAny_take (i := 9) (v := .pointer (some ⟨S, 2, none⟩)) rfl (by kernel_rfl) (by kernel_rfl) (by kernel_rfl) (fun _ _ _ h => h) (Or.inl ⟨by kernel_rfl, ?_⟩) ?_
      · intro wz; go_simp
      simp only [Act.put, List.getElem_toArray, List.getElem_cons_zero, List.getElem_cons_succ, List.setIfInBounds_toArray, List.set_cons_zero, List.set_cons_succ]
      refine wpAny_ready (rs := [10]) (by kernel_rfl) (by simp) ?_
      refine AllReady.cons rfl (fun K' hK' => ?_) AllReady.nil
      go_simp
      refine hK' _ _ ?_
      clear hK' K'
      refine wpAny_done (by kernel_rfl) ?_ _
      go_simp
      go_wp2_with fail
      go_meet
      case rel => have h := HADD.out; rw [List.length_append] at h; exact h
    · simp only [Act.put, List.getElem_toArray, List.getElem_cons_zero, List.getElem_cons_succ, List.setIfInBounds_toArray, List.set_cons_zero, List.set_cons_succ]
      refine wpAny_ready (rs := [4]) (by kernel_rfl) (by simp) ?_
      refine ar_load_s rfl rfl 43 (by decide) (.tmp 27) rfl ⟨S, 2, none⟩ rfl bv (cell_of_row _ _ 2 _ _ _ P7.out.1) ?_ AllReady.nil
      simp only [Act.put, List.getElem_toArray, List.getElem_cons_zero, List.getElem_cons_succ, List.setIfInBounds_toArray, List.set_cons_zero, List.set_cons_succ]
      refine wpAny_ready (rs := [7]) (by kernel_rfl) (by simp) ?_
      refine ar_append_b rfl rfl (.tmp 28) (.tmp 30) rfl lo bv _ b ob rfl rfl P7.out.2.2.2.1 P7.out.2.2.2.2.2.2 (by have := HN.out.2.1; omega) (by have := (Array.getElem?_eq_some_iff.1 P7.out.1).1; have := HS1.out.los.1; omega) (fun v' w7 ho7 hg7 hv7 => ?_) AllReady.nil
      have hst := stored_b P7.out.1 P7.out.2.1 P7.out.2.2.1 P7.out.2.2.2.2.1 HS1.out.los HS1.out.d1 HS1.out.d2 HS1.out.d3 ⟨fun x hx => (List.mem_append.1 hx).elim (HS1.out.bys.1 x) (HN.out.2.2.1 x), HS1.out.bys.2⟩ ho7 hg7 hv7
      have row7 : w7.heap[S]? = some (.cells (sideRow KH KP bv pv) 65 (0, 0)) := (hg7.block S (Array.getElem?_eq_some_iff.1 P7.out.1).1 (fun e => (HS1.out.d2 S e.symm).1 rfl)).trans P7.out.1
      have c7 : w7.cell? ⟨S, 2, none⟩ = some bv := cell_of_row _ _ 2 _ _ _ row7
      have f7 : w7.frozen? ⟨S, 2, none⟩ = false := frozen_of_row _ _ 2 _ _ row7
      have HADD : Hid (Added w w2 (w7.setCell ⟨S, 2, none⟩ v') lo S KH KP R g n bv pv b p ob O c ∧ (w7.setCell ⟨S, 2, none⟩ v').heap[O]? = some (.cells c 58 (0, 0)) ∧ Has (w7.setCell ⟨S, 2, none⟩ v') (.slice (some ⟨g, 0, none⟩) n (n + 600)) ob) := by
        have h62 := P6.out.1
        have hfree : ∀ k, k < w2.heap.size → ¬ foot S KH KP bv pv k → (w7.setCell ⟨S, 2, none⟩ v').heap[k]? = w2.heap[k]? := fun k hk hn => by
          rw [hst.2.1.block k (by rw [h62]; exact hk) hn, h62]
        have hhigh : ∀ k, R ≤ k → ¬ foot S KH KP bv pv k := fun k hk hf => by have := (HFL.out k hf).2.1; omega
        have hgR := H1.out.1
        refine ⟨⟨⟨v', hst.1, fun k hk => ?_, fun k hk => ?_⟩, ?_, ?_, ⟨ob, HN.out.1.symm, HN.out.2.2.1, ?_⟩, ?_⟩, ?_, ?_⟩
        · rcases hst.2.2 k hk with h | h
          · exact .inl h
          · refine .inr ?_
            rw [h62] at h
            have := P8.out.2.2.2.2; omega
        · rcases hst.2.2 k hk with h | h
          · intro e; exact hhigh k (by omega) h
          · rw [h62] at h; have := P8.out.2.2.2.1; omega
        · refine P8.out.2.2.1.trans ⟨hst.2.1.os.trans P6.out.2.1, hst.2.1.tape.trans P6.out.2.2.1, hst.2.1.output.trans P6.out.2.2.2, by have := hst.2.1.size; rw [h62] at this; exact this, hfree⟩
        · exact P8.out.1.high hgR fun k hk hl => hfree k hl (hhigh k hk)
        · exact P8.out.2.1.high fun hl => hfree g hl (hhigh g hgR)
        · have := hst.2.1.size; rw [h62] at this; exact this
        · have hO6 := P7.out.2.2.2.2.2.1
          rw [h62] at hO6
          exact (hfree O (Array.getElem?_eq_some_iff.1 hO6).1 (fun hf => (HFL.out O hf).2.2 rfl)).trans hO6
        · exact P8.out.2.1.high fun hl => hfree g hl (hhigh g hgR)
      obtain ⟨vo, vc, e7, _⟩ := ho7.has.form
      subst e7
      clear hst row7 ho7 hg7 hv7
      simp only [Act.put, List.getElem_toArray, List.getElem_cons_zero, List.getElem_cons_succ, List.setIfInBounds_toArray, List.set_cons_zero, List.set_cons_succ]
      refine wpAny_take (i := 8) (v := .pointer (some ⟨S, 0, none⟩)) rfl (by kernel_rfl) (by kernel_rfl) (by kernel_rfl) (fun _ _ _ h => h) (Or.inl ⟨by kernel_rfl, ?_⟩) ?_
      · intro wz; go_simp
      refine wpAny_take (i := 9) (v := .pointer (some ⟨S, 2, none⟩)) rfl (by kernel_rfl) (by kernel_rfl) (by kernel_rfl) (fun _ _ _ h => h) (Or.inl ⟨by kernel_rfl, ?_⟩) ?_
      · intro wz; go_simp
      simp only [Act.put, List.getElem_toArray, List.getElem_cons_zero, List.getElem_cons_succ, List.setIfInBounds_toArray, List.set_cons_zero, List.set_cons_succ]
      refine wpAny_ready (rs := [10]) (by kernel_rfl) (by simp) ?_
      refine AllReady.cons rfl (fun K' hK' => ?_) AllReady.nil
      go_simp
      refine hK' _ _ ?_
      clear hK' K'
      refine wpAny_done (by kernel_rfl) ?_ _
      go_simp
      go_wp2_with fail
      go_meet
      case rel => have h := HADD.out; rw [List.length_append] at h; exact h
  case rest =>
    obtain ⟨hA, hOc, hG⟩ := hcut
    have HA : Hid (Added w w2 wc lo S KH KP R g n bv pv b p ob O c) := hA
    have hc2 : c[2]? = some (.slice oo n oc) := by rw [hcz.out]; rfl
    have k2 : wc.cell? ⟨O, 2, none⟩ = some (.slice oo n oc) := (cell_of_row _ _ 2 _ _ _ hOc).trans hc2
    have hgR := H1.out.1
    have K22 : Hid (Calls Tryd.prog 22 #[.slice (some ⟨g, 0, none⟩) n (n + 600), .slice oo n oc] wc fun e w' => e = .returned (.bool true) ∧ ∃ m, w' = wc.drewN m) := by
      have hx : Has wc (.slice oo n oc) ob := HOV.out _ (hA.keep.below hlo0 fun k hk => (HFL.out k hk).1)
      refine (same_any _ _ ob ob wc hG hx (by have := HN.out.2.1; omega) (by have := HN.out.2.1; omega)).mono fun e w' ⟨q1, q2⟩ => ⟨by rw [q1, decide_eq_true rfl], q2⟩
    have K16 : Hid (∀ m, Calls Tryd.prog 16 #[.pointer (some ⟨R, 0, none⟩)] (wc.drewN m) fun e w' => e = .returned (.bool true) ∧ w' = wc.drewN m) := fun m => roomHold_any R g n (wc.drewN m) (hA.room.high hgR fun _ _ _ => rfl) (by omega)
    clear hA hOc hc2 hG
    go_upto_region 9 with (first
      | (go_at_call 22; refine K22.out.mono ?_; rintro e w3 ⟨rfl, ⟨m3, rfl⟩⟩)
      | (go_at_call 16; refine (K16.out _).mono ?_; rintro e w4 ⟨rfl, e4⟩; subst e4))
    clear K22 K16 k2
    refine step_world (fun W => Added w w2 W lo S KH KP R g n bv pv b p ob O c) ?_ fun w5 HH5 => ?_
    · obtain ⟨⟨bv', a1, a2, a3⟩, a4, a5, ⟨M, a6, a7, a8⟩, a9⟩ := HA.out
      exact ⟨⟨bv', a1.keep fun _ _ => rfl, a2, a3⟩, a4.trans ⟨rfl, rfl, rfl, Nat.le_refl _, fun _ _ _ => rfl⟩, a5.high hgR fun _ _ _ => rfl, ⟨M, a6, a7, a8.heap rfl⟩, a9⟩
    have H5 : Hid (Added w w2 w5 lo S KH KP R g n bv pv b p ob O c) := HH5
    clear HH5 HA
    go_wp2_with fail
    go_loopw [7] (fun i wr => ∃ (k : Nat), k ≤ n ∧ i = .int .i64 k ∧ Hid (Added w w2 wr lo S KH KP R g n bv pv b p ob O c)) (fun i _ => n - (intOf i).toNat)
    case atStart => exact ⟨0, by omega, rfl, H5.out⟩
    case round =>
      clear H5
      obtain ⟨k, hk, rfl, HA⟩ := hrel
      by_cases hlt : k < n
      · have hkI : (k : Int) < (n : Int) := by omega
        obtain ⟨M, hM, hMB, hMH⟩ := HA.out.has
        have hkM : k < M.length := by omega
        obtain ⟨x, hx⟩ : ∃ x, x = M.getD k 0 := ⟨_, rfl⟩
        have hxl : x < 256 := by rw [hx]; exact hMB _ (by simp [List.getD, List.getElem?_eq_getElem hkM])
        have hcx : wr.cell? ⟨g, k, none⟩ = some (.int .u8 (x : Int)) := by rw [cellG hMH hkM, hx]; rfl
        have hfx : wr.frozen? ⟨g, k, none⟩ = false := HA.out.room.fz k hlt
        have HA2 : Hid (Added w w2 (wr.setCell ⟨g, k, none⟩ (.int .u8 (((x : Int) + 1) % 256))) lo S KH KP R g n bv pv b p ob O c) := by
          have hy : (((x + 1) % 256 : Nat) : Int) = ((x : Int) + 1) % 256 := by omega
          have hoth : ∀ j, j ≠ g → (wr.setCell ⟨g, k, none⟩ (.int .u8 (((x : Int) + 1) % 256))).heap[j]? = wr.heap[j]? := fun j hj => heap_setCell_other _ _ _ _ hj
          obtain ⟨⟨bv', a1, a2, a3⟩, a4, a5, _, a9⟩ := HA.out
          have hnf : ¬ foot S KH KP bv pv g := fun hf => by have := (HFL.out g hf).2.1; omega
          refine ⟨⟨bv', a1.keep fun j hj => hoth j (a3 j hj), a2, a3⟩, ?_, a5.set hlt _, ⟨M.set k ((x + 1) % 256), by rw [List.length_set]; exact hM, fun u hu => ?_, ?_⟩, by simpa [World.setCell] using a9⟩
          · refine ⟨a4.os, a4.tape, a4.output, by simpa [World.setCell] using a4.size, fun j hj hn => ?_⟩
            have hgw : w.heap.size ≤ g := by have := H0.out.2.1.size; rw [HRR.out] at hgR; omega
            exact (hoth j (by omega)).trans (a4.block j hj hn)
          · rcases List.mem_or_eq_of_mem_set hu with h | h
            · exact hMB u h
            · rw [h]; omega
          · have := setG (y := (x + 1) % 256) hMH hkM
            unfold vb at this
            rw [hy] at this
            exact this
        clear hx hM hMB hMH hkM HA
        go_wp2_with fail
        go_roundw
        case rel => exact ⟨k + 1, by omega, by go_num, HA2.out⟩
        case measure => simp [intOf]; omega
      · have hkI : ¬ (k : Int) < (n : Int) := by omega
        have HPL : Hid (Played w wr lo S KH KP bv pv (b.length + ob.length) p.length) := by
          obtain ⟨⟨bv', a1, a2, a3⟩, a4, _⟩ := HA.out
          refine ⟨bv', pv, b ++ ob, p, a1, by rw [List.length_append]; exact Nat.le_refl _, Nat.le_refl _, a4, fun j hj => ?_⟩
          rcases a2 j hj with h | h
          · exact .inl h
          · refine .inr ?_
            have := H0.out.2.1.size
            rw [HRR.out] at h
            omega
        go_wp2
        go_ret
        exact ⟨rfl, HPL.out⟩
end Go.Proofs.YtmglopfjjbnfiaaDoor
