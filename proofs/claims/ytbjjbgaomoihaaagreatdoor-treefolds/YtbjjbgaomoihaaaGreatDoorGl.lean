import Derived.Test.YtbjjbgaomoihaaaGreatDoorGj
set_option maxRecDepth 100000
set_option maxHeartbeats 8000000
namespace Go.Proofs.YtbjjbgaomoihaaaGreatDoor
open Go.RowKit Ch
structure Lc where
  c : Array Value
  W : World
def MT (B : Nat) (W : World) (FA : Array Value → World → Prop) (r : Lc) (done : Nat → Bool) (w : World) : Prop :=
  (done 13 = false → w = W) ∧ (done 13 = true → FA r.c r.W ∧ (done 14 = false → w = r.W) ∧ (done 14 = true → w = r.W.setRow (B + 1) r.c))
theorem MT.step {B : Nat} {W : World} {FA : Array Value → World → Prop} {r : Lc} {done : Nat → Bool} {w : World} (h : MT B W FA r done w) {j : Nat} (h1 : j ≠ 13) (h2 : j ≠ 14) : MT B W FA r (upd done j) w := by
  unfold MT at *
  rw [upd_ne done (Ne.symm h1), upd_ne done (Ne.symm h2)]
  exact h
theorem MT.mk13 {B : Nat} {W : World} {FA : Array Value → World → Prop} {r : Lc} {done : Nat → Bool} (h : FA r.c r.W) (h14 : done 14 = false) : MT B W FA r (upd done 13) r.W := by
  unfold MT
  rw [upd_same, upd_ne done (by decide : 14 ≠ 13)]
  exact ⟨fun e => (by cases e), fun _ => ⟨h, fun _ => rfl, fun e => (by rw [h14] at e; cases e)⟩⟩
theorem MT.mk14 {B : Nat} {W : World} {FA : Array Value → World → Prop} {r : Lc} {done : Nat → Bool} (h13 : done 13 = true) (h : FA r.c r.W) : MT B W FA r (upd done 14) (r.W.setRow (B + 1) r.c) := by
  unfold MT
  rw [upd_same, upd_ne done (by decide : 13 ≠ 14)]
  exact ⟨fun e => (by rw [h13] at e; cases e), fun _ => ⟨h, fun e => (by cases e), fun _ => rfl⟩⟩
theorem backT : backB (opsAt Tryz.f21 2) = true := by kernel_rfl
theorem dstT : dstB (opsAt Tryz.f21 2) 31 = true := by kernel_rfl
theorem sizeT : (opsAt Tryz.f21 2).size = 15 := by kernel_rfl
theorem freeT1 : freeB (opsAt Tryz.f21 2) 1 = true := by kernel_rfl
theorem freeT2 : freeB (opsAt Tryz.f21 2) 2 = true := by kernel_rfl
theorem freeT3 : freeB (opsAt Tryz.f21 2) 3 = true := by kernel_rfl
theorem freeT6 : freeB (opsAt Tryz.f21 2) 6 = true := by kernel_rfl
theorem freeT7 : freeB (opsAt Tryz.f21 2) 7 = true := by kernel_rfl
theorem freeT8 : freeB (opsAt Tryz.f21 2) 8 = true := by kernel_rfl
theorem sT_0 : say (opsAt Tryz.f21 2) 0 = some (some 17, .fieldAddr 80 (.tmp 3) 0, none) := by kernel_rfl
theorem dT_0 : slotB (opsAt Tryz.f21 2) 0 = some 17 := by kernel_rfl
theorem sT_1 : say (opsAt Tryz.f21 2) 1 = some (some 18, .load 60 (.tmp 17), none) := by kernel_rfl
theorem dT_1 : slotB (opsAt Tryz.f21 2) 1 = some 18 := by kernel_rfl
theorem sT_2 : say (opsAt Tryz.f21 2) 2 = some (some 19, .move (.tmp 1), none) := by kernel_rfl
theorem dT_2 : slotB (opsAt Tryz.f21 2) 2 = some 19 := by kernel_rfl
theorem sT_3 : say (opsAt Tryz.f21 2) 3 = some (some 20, .move (.tmp 2), none) := by kernel_rfl
theorem dT_3 : slotB (opsAt Tryz.f21 2) 3 = some 20 := by kernel_rfl
theorem sT_4 : say (opsAt Tryz.f21 2) 4 = some (some 21, .nilCheck (.tmp 20), none) := by kernel_rfl
theorem dT_4 : slotB (opsAt Tryz.f21 2) 4 = some 21 := by kernel_rfl
theorem sT_5 : say (opsAt Tryz.f21 2) 5 = some (some 22, .fieldAddr 78 (.tmp 21) 0, none) := by kernel_rfl
theorem dT_5 : slotB (opsAt Tryz.f21 2) 5 = some 22 := by kernel_rfl
theorem sT_6 : say (opsAt Tryz.f21 2) 6 = some (some 23, .load 24 (.tmp 22), none) := by kernel_rfl
theorem dT_6 : slotB (opsAt Tryz.f21 2) 6 = some 23 := by kernel_rfl
theorem sT_7 : say (opsAt Tryz.f21 2) 7 = some (some 24, .move (.tmp 2), none) := by kernel_rfl
theorem dT_7 : slotB (opsAt Tryz.f21 2) 7 = some 24 := by kernel_rfl
theorem sT_8 : say (opsAt Tryz.f21 2) 8 = some (some 25, .nilCheck (.tmp 24), none) := by kernel_rfl
theorem dT_8 : slotB (opsAt Tryz.f21 2) 8 = some 25 := by kernel_rfl
theorem sT_9 : say (opsAt Tryz.f21 2) 9 = some (some 26, .fieldAddr 78 (.tmp 25) 1, none) := by kernel_rfl
theorem dT_9 : slotB (opsAt Tryz.f21 2) 9 = some 26 := by kernel_rfl
theorem sT_10 : say (opsAt Tryz.f21 2) 10 = some (some 27, .load 27 (.tmp 26), none) := by kernel_rfl
theorem dT_10 : slotB (opsAt Tryz.f21 2) 10 = some 27 := by kernel_rfl
theorem sT_11 : say (opsAt Tryz.f21 2) 11 = some (some 28, .move (.tmp 7), none) := by kernel_rfl
theorem dT_11 : slotB (opsAt Tryz.f21 2) 11 = some 28 := by kernel_rfl
theorem sT_12 : say (opsAt Tryz.f21 2) 12 = some (some 29, .move (.tmp 8), none) := by kernel_rfl
theorem dT_12 : slotB (opsAt Tryz.f21 2) 12 = some 29 := by kernel_rfl
theorem sT_13 : say (opsAt Tryz.f21 2) 13 = some (some 30, .call { callee := .value (.tmp 18), args := #[.tmp 19, .tmp 23, .tmp 27, .tmp 28, .tmp 29], argTypes := #[9, 24, 27, 56, 28] }, none) := by kernel_rfl
theorem dT_13 : slotB (opsAt Tryz.f21 2) 13 = some 30 := by kernel_rfl
theorem sT_14 : say (opsAt Tryz.f21 2) 14 = some (none, .store 30 (.tmp 6) (.tmp 30), none) := by kernel_rfl
def VT (B p _Mb : Nat) (q : ByteArray) (X Mx : Array Value) (un ut fv : Value) (r : Lc) : Nat → Value
  | 0 => .pointer (some ⟨B, 0, none⟩)
  | 1 => fv
  | 2 => .string q
  | 3 => .pointer (some ⟨p, 0, none⟩)
  | 4 => .pointer (some ⟨p, 0, none⟩)
  | 5 => .pointer (some ⟨p, 0, none⟩)
  | 6 => .agg X
  | 7 => .pointer (some ⟨p, 0, none⟩)
  | 8 => .pointer (some ⟨p, 0, none⟩)
  | 9 => .pointer (some ⟨p, 35, none⟩)
  | 10 => .agg Mx
  | 11 => un
  | 12 => ut
  | 13 => .agg r.c
  | 14 => undef
  | _ => undef
theorem regT (B p Mb : Nat) (q : ByteArray) (X Mx : Array Value) (un ut fv : Value) (FA : Array Value → World → Prop) (t0 : Array Value) (wr : World) {Q : Exit → Act → World → Prop} (ht : t0.size = 31) (h1 : t0.getD 1 undef = .string q) (h2 : t0.getD 2 undef = .pointer (some ⟨p, 0, none⟩)) (h3 : t0.getD 3 undef = .pointer (some ⟨B, 0, none⟩)) (h6 : t0.getD 6 undef = .pointer (some ⟨B + 1, 0, none⟩)) (h7 : t0.getD 7 undef = un) (h8 : t0.getD 8 undef = ut)
    (hfv : fv = .func (.func 8) #[.pointer (some ⟨Mb, 0, none⟩)] #[]) (cF : wr.drew.cell? ⟨B, 0, none⟩ = some fv) (hX : X.size = 35) (hMx : Mx.size = 4) (lX : Lies wr.drew p 0 X) (lM : Lies wr.drew p 35 Mx)
    (hC : Calls Tryz.prog 8 #[.pointer (some ⟨Mb, 0, none⟩), .string q, .agg X, .agg Mx, un, ut] wr.drew fun e w' => ∃ c', e = .returned (.agg c') ∧ FA c' w') (hV : ∀ r : Lc, FA r.c r.W → Var r.W (B + 1) z30 ∧ r.c.size = 41 ∧ r.c.all (·.oneCell') = true)
    (hQ : ∀ r : Lc, FA r.c r.W → Q .normal ⟨fold (opsAt Tryz.f21 2) (VT B p Mb q X Mx un ut fv r) t0 15, []⟩ (r.W.setRow (B + 1) r.c)) : (Code.region 2 (opsAt Tryz.f21 2) true).wp Tryz.prog Q ⟨t0, []⟩ wr := by
  have hB : dstB (opsAt Tryz.f21 2) t0.size = true := by rw [ht]; exact dstT
  refine inv_region (by kernel_rfl) (IE (opsAt Tryz.f21 2) (VT B p Mb q X Mx un ut fv) t0 ((MT B wr.drew FA) )) backT ⟨⟨#[], wr.drew⟩, t0, rfl, ⟨rfl, fun _ _ => rfl, fun _ _ _ _ _ h => by cases h⟩, ⟨fun _ => rfl, fun h => by cases h⟩⟩ ?_ ?_
  rotate_left 1
  · rintro done a w ⟨r, t, rfl, hS, hM⟩ hall
    rw [hS.end hB hall, sizeT]
    have hF := hM.2 (hall 13 (by rw [sizeT]; decide))
    obtain rfl := hF.2.2 (hall 14 (by rw [sizeT]; decide))
    exact hQ r hF.1
  · rintro jz op done a w ho ⟨r, t, rfl, hS, hM⟩ hnd hdep hcl
    have e1 : t[1]?.getD undef = .string q := (hS.old freeT1).trans h1
    have e2 : t[2]?.getD undef = .pointer (some ⟨p, 0, none⟩) := (hS.old freeT2).trans h2
    have e3 : t[3]?.getD undef = .pointer (some ⟨B, 0, none⟩) := (hS.old freeT3).trans h3
    have e6 : t[6]?.getD undef = .pointer (some ⟨B + 1, 0, none⟩) := (hS.old freeT6).trans h6
    have e7 : t[7]?.getD undef = un := (hS.old freeT7).trans h7
    have e8 : t[8]?.getD undef = ut := (hS.old freeT8).trans h8
    have hlt : jz < 15 := by rw [← sizeT]; exact (Array.getElem?_eq_some_iff.1 ho).1
    match jz, hlt, ho, hnd, hdep with
    | 0, _, ho, hnd, hdep =>
      obtain ⟨hd, hop, hgd⟩ := say_of sT_0 ho
      refine ie_val r hB ho (wanted_none hgd) hd hS (hM.step (by decide) (by decide)) ?_
      unfold execOp
      simp only [hop]
      simp [e3, VT, go_sem]
    | 1, _, ho, hnd, hdep =>
      obtain ⟨hd, hop, hgd⟩ := say_of sT_1 ho
      have x17 : t[17]?.getD undef = _ := hS.at dT_0 (waits (j := 0) (by kernel_rfl) ho hdep)
      simp only [VT] at x17
      have ny13 : done 13 = false := not_yet (k := 1) (j := 13) (by kernel_rfl) hcl hnd
      have hw := hM.1 ny13
      have cz := (by rw [hw]; exact cF : w.cell? ⟨B, 0, none⟩ = some fv)
      refine ie_val r hB ho (wanted_none hgd) hd hS (hM.step (by decide) (by decide)) ?_
      unfold execOp
      simp only [hop]
      simp [x17, VT, cz, go_sem]
    | 2, _, ho, hnd, hdep =>
      obtain ⟨hd, hop, hgd⟩ := say_of sT_2 ho
      refine ie_val r hB ho (wanted_none hgd) hd hS (hM.step (by decide) (by decide)) ?_
      unfold execOp
      simp only [hop]
      simp [e1, VT, go_sem]
    | 3, _, ho, hnd, hdep =>
      obtain ⟨hd, hop, hgd⟩ := say_of sT_3 ho
      refine ie_val r hB ho (wanted_none hgd) hd hS (hM.step (by decide) (by decide)) ?_
      unfold execOp
      simp only [hop]
      simp [e2, VT, go_sem]
    | 4, _, ho, hnd, hdep =>
      obtain ⟨hd, hop, hgd⟩ := say_of sT_4 ho
      have x20 : t[20]?.getD undef = _ := hS.at dT_3 (waits (j := 3) (by kernel_rfl) ho hdep)
      simp only [VT] at x20
      refine ie_val r hB ho (wanted_none hgd) hd hS (hM.step (by decide) (by decide)) ?_
      unfold execOp
      simp only [hop]
      simp [x20, VT, go_sem]
    | 5, _, ho, hnd, hdep =>
      obtain ⟨hd, hop, hgd⟩ := say_of sT_5 ho
      have x21 : t[21]?.getD undef = _ := hS.at dT_4 (waits (j := 4) (by kernel_rfl) ho hdep)
      simp only [VT] at x21
      refine ie_val r hB ho (wanted_none hgd) hd hS (hM.step (by decide) (by decide)) ?_
      unfold execOp
      simp only [hop]
      simp [x21, VT, go_sem]
    | 6, _, ho, hnd, hdep =>
      obtain ⟨hd, hop, hgd⟩ := say_of sT_6 ho
      have x22 : t[22]?.getD undef = _ := hS.at dT_5 (waits (j := 5) (by kernel_rfl) ho hdep)
      simp only [VT] at x22
      have ny13 : done 13 = false := not_yet (k := 6) (j := 13) (by kernel_rfl) hcl hnd
      have hw := hM.1 ny13
      refine ie_val r hB ho (wanted_none hgd) hd hS (hM.step (by decide) (by decide)) ?_
      exact exec_load24 _ hop p 0 (by show t.getD 22 undef = _; rw [Array.getD_eq_getD_getElem?]; exact x22) X hX (by rw [hw]; exact lX)
    | 7, _, ho, hnd, hdep =>
      obtain ⟨hd, hop, hgd⟩ := say_of sT_7 ho
      refine ie_val r hB ho (wanted_none hgd) hd hS (hM.step (by decide) (by decide)) ?_
      unfold execOp
      simp only [hop]
      simp [e2, VT, go_sem]
    | 8, _, ho, hnd, hdep =>
      obtain ⟨hd, hop, hgd⟩ := say_of sT_8 ho
      have x24 : t[24]?.getD undef = _ := hS.at dT_7 (waits (j := 7) (by kernel_rfl) ho hdep)
      simp only [VT] at x24
      refine ie_val r hB ho (wanted_none hgd) hd hS (hM.step (by decide) (by decide)) ?_
      unfold execOp
      simp only [hop]
      simp [x24, VT, go_sem]
    | 9, _, ho, hnd, hdep =>
      obtain ⟨hd, hop, hgd⟩ := say_of sT_9 ho
      have x25 : t[25]?.getD undef = _ := hS.at dT_8 (waits (j := 8) (by kernel_rfl) ho hdep)
      simp only [VT] at x25
      refine ie_val r hB ho (wanted_none hgd) hd hS (hM.step (by decide) (by decide)) ?_
      unfold execOp
      simp only [hop]
      simp [x25, VT, go_sem]
    | 10, _, ho, hnd, hdep =>
      obtain ⟨hd, hop, hgd⟩ := say_of sT_10 ho
      have x26 : t[26]?.getD undef = _ := hS.at dT_9 (waits (j := 9) (by kernel_rfl) ho hdep)
      simp only [VT] at x26
      have ny13 : done 13 = false := not_yet (k := 10) (j := 13) (by kernel_rfl) hcl hnd
      have hw := hM.1 ny13
      refine ie_val r hB ho (wanted_none hgd) hd hS (hM.step (by decide) (by decide)) ?_
      exact exec_load27 _ hop p 35 (by show t.getD 26 undef = _; rw [Array.getD_eq_getD_getElem?]; exact x26) Mx hMx (by rw [hw]; exact lM)
    | 11, _, ho, hnd, hdep =>
      obtain ⟨hd, hop, hgd⟩ := say_of sT_11 ho
      refine ie_val r hB ho (wanted_none hgd) hd hS (hM.step (by decide) (by decide)) ?_
      unfold execOp
      simp only [hop]
      simp [e7, VT, go_sem]
    | 12, _, ho, hnd, hdep =>
      obtain ⟨hd, hop, hgd⟩ := say_of sT_12 ho
      refine ie_val r hB ho (wanted_none hgd) hd hS (hM.step (by decide) (by decide)) ?_
      unfold execOp
      simp only [hop]
      simp [e8, VT, go_sem]
    | 13, _, ho, hnd, hdep =>
      obtain ⟨hd, hop, hgd⟩ := say_of sT_13 ho
      have x18 : t[18]?.getD undef = _ := hS.at dT_1 (waits (j := 1) (by kernel_rfl) ho hdep)
      simp only [VT] at x18
      have x19 : t[19]?.getD undef = _ := hS.at dT_2 (waits (j := 2) (by kernel_rfl) ho hdep)
      simp only [VT] at x19
      have x23 : t[23]?.getD undef = _ := hS.at dT_6 (waits (j := 6) (by kernel_rfl) ho hdep)
      simp only [VT] at x23
      have x27 : t[27]?.getD undef = _ := hS.at dT_10 (waits (j := 10) (by kernel_rfl) ho hdep)
      simp only [VT] at x27
      have x28 : t[28]?.getD undef = _ := hS.at dT_11 (waits (j := 11) (by kernel_rfl) ho hdep)
      simp only [VT] at x28
      have x29 : t[29]?.getD undef = _ := hS.at dT_12 (waits (j := 12) (by kernel_rfl) ho hdep)
      simp only [VT] at x29
      have ny14 : done 14 = false := not_yet (k := 13) (j := 14) (by kernel_rfl) hcl hnd
      refine ie_call r 8 #[.pointer (some ⟨Mb, 0, none⟩), .string q, .agg X, .agg Mx, un, ut] hB ho (wanted_none hgd) hd hS ?_ ?_
      · skip
        unfold execOp
        simp only [hop]
        simp [x18, x19, x23, x27, x28, x29, hfv, go_sem]
      · skip
        have hw := hM.1 hnd
        rw [hw]
        refine hC.mono ?_
        rintro e w2 ⟨c', rfl, hF⟩
        refine ⟨⟨c', w2⟩, rfl, fun k hk => ?_, MT.mk13 hF ny14⟩
        have h13 : k ≠ 13 := fun e => by rw [e, hnd] at hk; cases hk
        unfold VT
        split <;> first | rfl | exact absurd rfl h13
    | 14, _, ho, hnd, hdep =>
      obtain ⟨hd, hop, hgd⟩ := say_of sT_14 ho
      have x30 : t[30]?.getD undef = _ := hS.at dT_13 (waits (j := 13) (by kernel_rfl) ho hdep)
      simp only [VT] at x30
      have a13 : done 13 = true := waits (j := 13) (by kernel_rfl) ho hdep
      have hF := hM.2 a13
      obtain rfl := hF.2.1 hnd
      exact ie_store (w' := r.W.setRow (B + 1) r.c) r ho (wanted_none hgd) hd hS (MT.mk14 a13 hF.1) (exec_store30 _ _ hop (B + 1) r.c z30 (by show t.getD 6 undef = _; rw [Array.getD_eq_getD_getElem?]; exact e6) (by show t.getD 30 undef = _; rw [Array.getD_eq_getD_getElem?]; exact x30) _ (hV _ hF.1).1 (hV _ hF.1).2.1 z30_size (hV _ hF.1).2.2)
theorem foldT (B p Mb : Nat) (q : ByteArray) (X Mx : Array Value) (un ut fv : Value) (r : Lc) (t0 : Array Value) : fold (opsAt Tryz.f21 2) (VT B p Mb q X Mx un ut fv r) t0 15 = ((((((((((((((t0.setIfInBounds 17 (.pointer (some ⟨B, 0, none⟩))).setIfInBounds 18 (fv)).setIfInBounds 19 (.string q)).setIfInBounds 20 (.pointer (some ⟨p, 0, none⟩))).setIfInBounds 21 (.pointer (some ⟨p, 0, none⟩))).setIfInBounds 22 (.pointer (some ⟨p, 0, none⟩))).setIfInBounds 23 (.agg X)).setIfInBounds 24 (.pointer (some ⟨p, 0, none⟩))).setIfInBounds 25 (.pointer (some ⟨p, 0, none⟩))).setIfInBounds 26 (.pointer (some ⟨p, 35, none⟩))).setIfInBounds 27 (.agg Mx)).setIfInBounds 28 (un)).setIfInBounds 29 (ut)).setIfInBounds 30 (.agg r.c)) := by kernel_rfl
end Go.Proofs.YtbjjbgaomoihaaaGreatDoor
namespace Go.Proofs.YtbjjbgaomoihaaaGreatDoor
open Go.RowKit
theorem thing_step (w0 : World) (Mb Kb : Nat) (k : K) (hG : GatherOk w0 Mb Kb k) : ThingOk w0 Mb Kb k := by
  intro p v m q pre M pv Bp w hT hGw hMt hnm hkv hkd hqs hsz hpl
  obtain ⟨pk, hT1, hT2⟩ := hT.grow hGw
  obtain ⟨X, hX⟩ : ∃ X, X = (vx v).toArray := ⟨_, rfl⟩
  obtain ⟨Mx, hMx⟩ : ∃ M, M = (mx m).toArray := ⟨_, rfl⟩
  have HX : Hid (X.size = 35 ∧ Mx.size = 4 ∧ X = (vx v).toArray ∧ Mx = (mx m).toArray) := ⟨by rw [hX]; simp [vx_len], by rw [hMx]; simp [mx_len], hX, hMx⟩
  have HLX : Hid (Lies w p 0 X ∧ Lies w p 35 Mx) := by
    have h1 := hT1.part 0 35
    have h2 := hT1.part 35 39
    rw [tc_val, ← hX] at h1
    rw [tc_marks, ← hMx] at h2
    rw [Nat.zero_add] at h2
    exact ⟨h1, h2⟩
  have hp : p < w0.heap.size := by obtain ⟨_, h1, _⟩ := hT; exact World.block_lt_of_cell? w0 _ (lies_cell h1 39 _ (tc_kids ..))
  clear hX hMx hT1 hT2
  obtain ⟨B, hB⟩ : ∃ B, w.heap.size = B := ⟨_, rfl⟩
  obtain ⟨fv, hfv⟩ : ∃ fv, fvc Mb = fv := ⟨_, rfl⟩
  have hG1 : G w ((w.alloc (.cells #[fv] 80)).alloc (.cells z30 30)) := (G.alloc _ _).trans (G.alloc _ _)
  have C37 := hG p v m q pre M pv Bp ((w.alloc (.cells #[fv] 80)).alloc (.cells z30 30)) hT (hGw.trans hG1) (hMt.up hG1) hnm hkd hqs hsz hpl
  unfold yvc at C37
  rw [hfv] at C37
  have C37 := hid C37
  have H1 : Hid (G w ((w.alloc (.cells #[fv] 80)).alloc (.cells z30 30)) ∧ ((w.alloc (.cells #[fv] 80)).alloc (.cells z30 30)).heap[B]? = some (.cells #[fv] 80 (0, 0)) ∧ Var ((w.alloc (.cells #[fv] 80)).alloc (.cells z30 30)) (B + 1) z30 ∧ ((w.alloc (.cells #[fv] 80)).alloc (.cells z30 30)).heap.size = B + 2) := by
    refine ⟨hG1, ?_, ?_, by rw [World.size_alloc, World.size_alloc, hB]⟩
    · rw [Below.heap_alloc _ _ _ (by rw [World.size_alloc]; omega), ← hB]; exact World.alloc_heap_new w _
    · have h := Var.new (w.alloc (.cells #[fv] 80)) z30
      rw [World.size_alloc, hB] at h
      exact h
  have HA := hid (⟨hGw, hMt, hnm, hkv, hkd, hsz, hpl, hp, hfv, hB⟩ : _ ∧ _ ∧ _ ∧ _ ∧ _ ∧ _ ∧ _ ∧ _ ∧ _ ∧ _)
  have hcB : ((w.alloc (.cells #[fv] 80)).alloc (.cells z30 30)).cell? ⟨B, 0, none⟩ = some fv := Boxed.cell (t := 80) H1.out.2.1
  unfold yvc fvc at *
  rw [hfv]
  have hs1 : (w.alloc (.cells #[fv] 80)).heap.size = B + 1 := by rw [World.size_alloc, hB]
  clear hT hGw hMt hnm hkv hkd hqs hsz hpl hp hG1 hG hfv
  go_enter Tryz.func21, Tryz.ntmps21
  go_upto_region 1 with (with_reducible refine wpList_execW (.pointer (some ⟨B + 1, 0, none⟩)) ((w.alloc (.cells #[fv] 80)).alloc (.cells z30 30)) ?_ ?_ ?_; exact exec_alloc30e rfl _ _ hs1; kernel_rfl)
  try simp only [Act.put, List.setIfInBounds_toArray, List.set_cons_zero, List.set_cons_succ]
  try rw [hB]
  generalize (w.alloc (.cells #[fv] 80)).alloc (.cells z30 30) = W1 at *
  clear hB hs1
  go_upto_region 2 with (go_at_call 37; refine C37.out.mono ?_; rintro e W2 ⟨un, ut, xs, T, M2, pv2, B2, rfl, hk2, hst2, hon, hot, hrc, htt, hmm⟩; obtain ⟨bo, vc, eut⟩ := owns_form hot; subst eut; have HR := hid (⟨hk2, hst2, hon, hot, hrc, htt, hmm⟩ : _ ∧ _ ∧ _ ∧ _ ∧ _ ∧ _ ∧ _); clear hk2 hst2 hon hot hrc htt hmm C37)
  have HD : Hid (G w W1 ∧ G W1 W1 ∧ Kw M W1 W2.drew ∧ G W2 W2.drew) := ⟨H1.out.1, G.refl _, HR.out.1.trans (Kw.of (S := M) (G.drew W2)) fun _ _ e => e, G.drew W2⟩
  have hnB : ∀ b, B ≤ b → ¬ M b := fun b hb e => by have := HA.out.2.1.lt e; have := HA.out.2.2.2.2.2.2.2.2.2; omega
  have hs1 := H1.out.2.2.2
  have hbB : W2.drew.heap[B]? = some (.cells #[fv] 80 (0, 0)) := (HD.out.2.2.1.block B (by omega) (hnB B (Nat.le_refl _))).trans H1.out.2.1
  have hbV : Var W2.drew (B + 1) z30 := (HD.out.2.2.1.block (B + 1) (by omega) (hnB _ (by omega))).trans H1.out.2.2.1
  have hpM : ¬ M p := fun e => by have := (HA.out.2.1.cls e).2; have := HA.out.2.2.2.2.2.2.2.1; omega
  have hLX : Lies W2.drew p 0 X := HD.out.2.2.1.lies (HD.out.1.lies HLX.out.1) hpM
  have hLM : Lies W2.drew p 35 Mx := HD.out.2.2.1.lies (HD.out.1.lies HLX.out.2) hpM
  have hst := HR.out.2.1.up (G.drew W2)
  have hlen : (pre ++ behF k.flat q).length = pre.length + k.flat.size := by rw [List.length_append, behF_len]
  have CF := folds_any w0.heap.size Mb Kb (pre ++ behF k.flat q).length (pre ++ behF k.flat q) M2 pv2 B2 q v m un bo k.flat.len vc k.flat.nameL k.flat.blank xs T W2.drew hst (F.nameL_len _) (F.blank_len _) (by have := k.flat.len_le_size; have := HA.out.2.2.2.2.2.1; omega) (by rw [hlen]; have := HA.out.2.2.2.2.2.2.1; omega) (by rw [hlen]; have := HA.out.2.2.2.2.2.2.1; omega)
    (HA.out.2.2.2.1.imp id fun e => by rw [e]; rfl) (by unfold OwnsT; rw [F.nameL_len]; exact owns_low (owns_growR HR.out.2.2.1 (G.drew W2)) (by have := HA.out.1.size; have := HA.out.2.2.2.2.2.2.2.2.2; omega)) (fun b e hb => (HR.out.2.2.2.2.2.2 b hb).2.1 e) (owns_low (owns_growR HR.out.2.2.2.1 (G.drew W2)) (by have := HA.out.1.size; have := HA.out.2.2.2.2.2.2.2.2.2; omega)) (fun b e hb => (HR.out.2.2.2.2.2.2 b hb).2.2 e)
    (RCells.keep (fun b hb => ⟨Below.block (G.drew W2) b (HR.out.2.2.2.2.2.1 b hb).2.1.lt, hb⟩) HR.out.2.2.2.2.1) (fun b hb => by
      obtain ⟨t1, t2, t3, t4, t5⟩ := HR.out.2.2.2.2.2.1 b hb
      exact ⟨t2.of (Below.block (G.drew W2) b t2.lt), t3, t4, t5⟩) (by have := HA.out.1.size; have := HA.out.2.2.2.2.2.2.2.2.2; have := HD.out.2.2.1.size; omega)
  rw [F.pair_blank, ← HX.out.2.2.1, ← HX.out.2.2.2] at CF
  have key : Hid (∀ r : Lc, FOut w0.heap.size Mb Kb ((pre ++ behF k.flat q).length + 1) ((pre ++ behF k.flat q) ++ [q]) (fun b => M2 b ∨ un.ownBlock = some b ∨ (Value.slice bo k.flat.len vc).ownBlock = some b) M2 T un v m k.flat W2.drew (.returned (.agg r.c)) r.W → Var r.W (B + 1) z30 ∧ r.c.size = 41 ∧ r.c.all (·.oneCell') = true) := by
    rintro r ⟨c', M', pv', B', e1, ⟨kv, e2, hk⟩, h3, h4, h5⟩
    injection e1 with e1
    injection e1 with e1
    refine ⟨(h4.block (B + 1) (by have := HD.out.2.2.1.size; omega) ?_).trans hbV, by rw [e1, e2]; exact nc_size .., ?_⟩
    · rintro (e | e | e)
      · rcases (HR.out.2.2.2.2.2.2 _ e).1 with q1 | q1
        · exact hnB _ (by omega) q1
        · omega
      · have := (own_obj HR.out.2.2.1 e).1; omega
      · have := (own_obj HR.out.2.2.2.1 e).1; omega
    · obtain ⟨a1, c1, rfl, _⟩ := hk
      rw [e1, e2]
      exact nc_one _ _ _ _ rfl
  go_wp2_with fail
  refine regT B p Mb q X Mx un (.slice bo k.flat.len vc) fv (fun c w' => FOut w0.heap.size Mb Kb ((pre ++ behF k.flat q).length + 1) ((pre ++ behF k.flat q) ++ [q]) (fun b => M2 b ∨ un.ownBlock = some b ∨ (Value.slice bo k.flat.len vc).ownBlock = some b) M2 T un v m k.flat W2.drew (.returned (.agg c)) w') _ W2 rfl rfl rfl rfl rfl rfl rfl HA.out.2.2.2.2.2.2.2.2.1.symm (Boxed.cell (t := 80) hbB) HX.out.1 HX.out.2.1 hLX hLM (CF.mono fun e w' h => ?hC) ?hV ?hQ
  case hC =>
    obtain ⟨c', M', pv', B', rfl, h2⟩ := h
    exact ⟨c', rfl, c', M', pv', B', rfl, h2⟩
  case hV => exact fun r h => key.out r h
  case hQ =>
    rintro r h
    rw [foldT]
    simp only [List.setIfInBounds_toArray, List.set_cons_zero, List.set_cons_succ]
    have hK := hid (key.out r h)
    obtain ⟨c', M', pv', B', e1, ⟨kv, e2, hk⟩, h3, h4, h5⟩ := h
    injection e1 with e1
    injection e1 with e1
    subst e1
    have HF := hid (⟨e2, hk, h3, h4, h5⟩ : _ ∧ _ ∧ _ ∧ _ ∧ _)
    clear e2 hk h3 h4 h5 key CF hLM hLX hbV hbB hcB
    go_wp2_with fail
    refine bodyPost_ret (results_cell_row (P := Tryz.prog) (p := 6) (ty := 30) rfl _ _ (B + 1) 30 r.c (0, 0) _ rfl hK.out.1.set under30 rfl (by rw [size30, hK.out.2.1])) rfl ?_
    obtain ⟨e2, hk, h3, h4, h5⟩ := HF.out
    have hoth : ∀ b, b ≠ B + 1 → (r.W.setRow (B + 1) r.c).heap[b]? = r.W.heap[b]? := fun b hb => setRow_other _ (B + 1) b _ hb
    have hK14 : Kw (fun b => b = B + 1) r.W (r.W.setRow (B + 1) r.c) := ⟨rfl, rfl, rfl, by simp, fun b _ hb => hoth b hb⟩
    have hBw := HA.out.2.2.2.2.2.2.2.2.2
    have hz := HD.out.2.2.1.size
    have hun : ∀ b, un.ownBlock = some b → B + 4 ≤ b := fun b e => by have := (own_obj HR.out.2.2.1 e).1; omega
    have hut : ∀ b, (Value.slice bo k.flat.len vc).ownBlock = some b → B + 4 ≤ b := fun b e => by have := (own_obj HR.out.2.2.2.1 e).1; omega
    have hM2 : ∀ b, M2 b → M b ∨ B + 2 ≤ b := fun b e => (HR.out.2.2.2.2.2.2 b e).1.imp id fun q => by omega
    have hM' : ∀ b, M' b → M b ∨ B + 2 ≤ b := fun b e => by
      rcases h5 b e with q1 | q1 | q1
      · exact hM2 b q1
      · have := hun b q1; exact .inr (by omega)
      · exact .inr (by omega)
    have hB1 : ¬ M' (B + 1) := fun e => by
      rcases hM' _ e with q1 | q1
      · exact hnB _ (by omega) q1
      · omega
    refine ⟨r.c, M', pv', B', rfl, ⟨kv, e2, hk.keep fun b ⟨k1, k2, k3⟩ => ?_⟩, ?_, ?_, fun b e => (hM' b e).imp id fun q => by omega⟩
    · have hb : B + 2 ≤ b := by
        rcases k1 with k1 | k1
        · have := (HR.out.2.2.2.2.2.1 b k1).1; omega
        · omega
      exact ⟨hoth b (by omega), by omega, k2, k3.of (hoth b (by omega))⟩
    · rw [← List.append_assoc, List.length_append (bs := [q])]
      exact h3.keep hK14 (fun b e => by rw [e]; exact hB1) (fun b e => by have := HA.out.1.size; omega)
    · refine (((Kw.of (S := M) HD.out.1).trans HD.out.2.2.1 fun _ _ e => e).trans h4 fun b hb e => ?_).trans hK14 fun b hb e => by omega
      rcases e with e | e | e
      · rcases hM2 b e with q1 | q1
        · exact q1
        · omega
      · have := hun b e; omega
      · have := hut b e; omega
theorem exec_store80 {o : Oper} {a : Act} (x y : Operand) (ho : o.op = .store 80 x y) (g : Nat) (f f0 : Value) (hx : a.eval x = .pointer (some ⟨g, 0, none⟩)) (hy : a.eval y = .agg #[f]) (w W : World) (hW : W = w.setRow g #[f]) (hg : w.heap[g]? = some (.cells #[f0] 80 (0, 0)))
    (h1 : f.oneCell' = true) : (execOp a.eval o).run Tryz.prog w = .ok .skip W := by
  unfold execOp
  simp only [ho, hx, hy, Instr.storeAt, Instr.sureAddr, Sem.run_bind, Sem.run_pure, Result.andThen_ok, hW, run_storeVar_row (P := Tryz.prog) w g 80 80 #[f0] #[f] hg (by kernel_rfl) rfl (by simp [h1])]
theorem thing_any (w0 : World) (Mb Kb : Nat) : ∀ (Z : Nat) (k : K), k.flat.size < Z → ThingOk w0 Mb Kb k
  | 0, _, h => absurd h (Nat.not_lt_zero _)
  | Z + 1, k, h => thing_step w0 Mb Kb k (gather_step w0 Mb Kb k fun k' hk => thing_any w0 Mb Kb Z k' (by omega))
theorem fold_any (w0 : World) (Mb Kb p : Nat) (v : Vd) (m : Md) (k : K) (pre : List ByteArray) (M : Nat → Prop) (pv : Value) (Bp : Nat → Prop) (w : World) (hT : AtT w0 p v m k) (hGw : G w0 w) (hMt : Mt w0.heap.size Mb Kb pre.length pre M w pv Bp) (hnm : namesF k.flat) (hkv : v.kind = 1 ∨ k.flat = .nil) (hkd : kindsF k.flat) (hd : 256 * k.flat.depth ≤ 1000000) (hsz : k.flat.size ≤ 1000) (hpl : pre.length + k.flat.size ≤ 50000) :
    Calls Tryz.prog 7 #[.pointer (some ⟨p, 0, none⟩), fvc Mb] w (TOut w0.heap.size Mb Kb (pre ++ (behF k.flat ⟨#[]⟩ ++ [⟨#[]⟩])) M v m k.flat w) := by
  obtain ⟨B, hB⟩ : ∃ B, w.heap.size = B := ⟨_, rfl⟩
  obtain ⟨fv, hfv⟩ : ∃ fv, fvc Mb = fv := ⟨_, rfl⟩
  obtain ⟨W1, hW1⟩ : ∃ W1, W1 = ((w.alloc (.cells z30 30)).alloc (.cells #[.nilFunc] 80)).setRow (B + 1) #[fv] := ⟨_, rfl⟩
  have hs1 : (w.alloc (.cells z30 30)).heap.size = B + 1 := by rw [World.size_alloc, hB]
  have hG1 : G w W1 := by
    rw [hW1, ← hs1]
    exact (G.alloc w _).trans ((But.setRow (K := (w.alloc (.cells z30 30)).heap.size) ((But.refl _ (w.alloc (.cells z30 30))).alloc (.cells #[.nilFunc] 80)) #[fv]).below (Nat.le_refl _) (Nat.le_refl _))
  have C21 := thing_any w0 Mb Kb (k.flat.size + 1) k (Nat.lt_succ_self _) p v m ⟨#[]⟩ pre M pv Bp W1 hT (hGw.trans hG1) (hMt.up hG1) hnm hkv hkd (by show 0 + _ ≤ _; omega) hsz hpl
  rw [hfv] at C21 ⊢
  have C21 := hid C21
  have H1 : Hid (G w W1 ∧ Var W1 B z30 ∧ W1.heap.size = B + 2) := by
    refine ⟨hG1, ?_, by rw [hW1]; simp [hB]⟩
    have h := Var.new w z30
    rw [hB] at h
    rw [hW1]
    exact (setRow_other _ (B + 1) B _ (by omega)).trans (h.grow (G.alloc _ _))
  have HA := hid (⟨hGw, hMt, hB, hfv⟩ : _ ∧ _ ∧ _ ∧ _)
  unfold fvc at hfv
  have hone : fv.oneCell' = true := by rw [← hfv]; rfl
  have hnew : ((w.alloc (.cells z30 30)).alloc (.cells #[.nilFunc] 80)).heap[B + 1]? = some (.cells #[.nilFunc] 80 (0, 0)) := by
    have h := World.alloc_heap_new (w.alloc (.cells z30 30)) (.cells #[.nilFunc] 80)
    rw [hs1] at h
    exact h
  clear hT hGw hMt hnm hkv hkd hd hsz hpl hG1
  subst hfv
  go_enter Tryz.func7, Tryz.ntmps7
  go_upto_region 2 with (first
    | ((with_reducible refine wpList_execW (.pointer (some ⟨B, 0, none⟩)) (w.alloc (.cells z30 30)) ?_ ?_ ?_); exact exec_alloc30e rfl _ _ hB; kernel_rfl)
    | ((with_reducible refine wpList_skipW W1 ?_ ?_ ?_); exact exec_store80 _ _ rfl (B + 1) _ .nilFunc rfl rfl _ W1 hW1 hnew hone; kernel_rfl))
  have hcB : W1.cell? ⟨B + 1, 0, none⟩ = some (.func (.func 8) #[.pointer (some ⟨Mb, 0, none⟩)] #[]) := by
    refine Boxed.cell (t := 80) ?_
    rw [hW1]; exact setRow_heap _ (B + 1) _ _ 80 _ hnew
  clear hW1 hnew hs1
  go_wp2_with (first
    | (go_at_call 21; refine C21.out.mono ?_; rintro e W3 ⟨c', M', pv', B', rfl, ⟨kv, e2, hk⟩, h3, h4, h5⟩
       have HV : Hid (Var W3 B z30 ∧ c'.size = 41 ∧ c'.all (·.oneCell') = true) := by
         refine ⟨(h4.block B (by have := H1.out.2.2; omega) fun e => ?_).trans H1.out.2.1, by rw [e2]; exact nc_size .., ?_⟩
         · have := HA.out.2.1.lt e; have := HA.out.2.2.1; omega
         · obtain ⟨a1, c1, rfl, _⟩ := hk
           rw [e2]
           exact nc_one _ _ _ _ rfl
       have HN := hid (⟨e2, hk, h3, h4, h5⟩ : _ ∧ _ ∧ _ ∧ _ ∧ _); clear e2 hk h3 h4 h5)
    | ((with_reducible refine wpList_skipW (W3.setRow B c') ?_ ?_ ?_); exact exec_store30 _ _ rfl B c' z30 rfl rfl _ HV.out.1 HV.out.2.1 z30_size HV.out.2.2; kernel_rfl))
  refine bodyPost_ret (results_cell_row (P := Tryz.prog) (p := 4) (ty := 30) rfl _ _ B 30 c' (0, 0) _ rfl HV.out.1.set under30 rfl (by rw [size30, HV.out.2.1])) rfl ?_
  obtain ⟨e2, hk, h3, h4, h5⟩ := HN.out
  have hoth : ∀ b, b ≠ B → (W3.setRow B c').heap[b]? = W3.heap[b]? := fun b hb => setRow_other _ B b _ hb
  have hK14 : Kw (fun b => b = B) W3 (W3.setRow B c') := ⟨rfl, rfl, rfl, by simp, fun b _ hb => hoth b hb⟩
  have hBw := HA.out.2.2.1
  have hs2 := H1.out.2.2
  have hM' : ∀ b, M' b → M b ∨ B + 2 ≤ b := fun b e => (h5 b e).imp id fun q => by omega
  have hB1 : ¬ M' B := fun e => by
    rcases hM' _ e with q1 | q1
    · have := HA.out.2.1.lt q1; omega
    · omega
  refine ⟨c', M', pv', B', rfl, ⟨kv, e2, hk.keep fun b ⟨k1, k2, k3⟩ => ?_⟩, ?_, ?_, fun b e => (hM' b e).imp id fun q => by omega⟩
  · exact ⟨hoth b (by omega), by omega, k2, k3.of (hoth b (by omega))⟩
  · exact h3.keep hK14 (fun b e => by rw [e]; exact hB1) (fun b e => by have := HA.out.1.size; omega)
  · exact (((Kw.of (S := M) H1.out.1).trans h4 fun _ _ e => e).trans hK14 fun b hb e => by omega)
end Go.Proofs.YtbjjbgaomoihaaaGreatDoor
