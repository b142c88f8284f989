/-
  diff.Then (15) by contract.
-/
import Derived.Test.YthioflehpifflaaGreatDoorSide2
namespace Go.Proofs.YthioflehpifflaaGreatDoor
open Go.RowKit

theorem backUX : backB (opsAt Tryz.f15 8) = true := by kernel_rfl
theorem dstUX : dstB (opsAt Tryz.f15 8) 77 = true := by kernel_rfl
theorem sizeUX : (opsAt Tryz.f15 8).size = 7 := by kernel_rfl
theorem freeUX6 : freeB (opsAt Tryz.f15 8) 6 = true := by kernel_rfl
theorem freeUX7 : freeB (opsAt Tryz.f15 8) 7 = true := by kernel_rfl
def VUX (g o B : Nat) (v v2 : Value) (Z : Array Value) : Nat → Value
  | 0 => v
  | 1 => .pointer (some ⟨g, o, none⟩)
  | 2 => .pointer (some ⟨g, o, none⟩)
  | 3 => .agg Z
  | 4 => .slice (some ⟨B, 0, none⟩) 1 1
  | 5 => v2
  | 6 => undef
  | _ => undef
theorem sUX_0 : say (opsAt Tryz.f15 8) 0 = some (some 25, .load 22 (.tmp 6), none) := by kernel_rfl
theorem dUX_0 : slotB (opsAt Tryz.f15 8) 0 = some 25 := by kernel_rfl
theorem sUX_1 : say (opsAt Tryz.f15 8) 1 = some (some 26, .move (.tmp 7), none) := by kernel_rfl
theorem dUX_1 : slotB (opsAt Tryz.f15 8) 1 = some 26 := by kernel_rfl
theorem sUX_2 : say (opsAt Tryz.f15 8) 2 = some (some 27, .nilCheck (.tmp 26), none) := by kernel_rfl
theorem dUX_2 : slotB (opsAt Tryz.f15 8) 2 = some 27 := by kernel_rfl
theorem sUX_3 : say (opsAt Tryz.f15 8) 3 = some (some 28, .load 55 (.tmp 27), none) := by kernel_rfl
theorem dUX_3 : slotB (opsAt Tryz.f15 8) 3 = some 28 := by kernel_rfl
theorem sUX_4 : say (opsAt Tryz.f15 8) 4 = some (some 29, .buildSlice 22 1 #[(0, .tmp 28)], none) := by kernel_rfl
theorem dUX_4 : slotB (opsAt Tryz.f15 8) 4 = some 29 := by kernel_rfl
theorem sUX_5 : say (opsAt Tryz.f15 8) 5 = some (some 30, .call { callee := .builtin .append, args := #[.tmp 25, .tmp 29], argTypes := #[22, 22] }, none) := by kernel_rfl
theorem dUX_5 : slotB (opsAt Tryz.f15 8) 5 = some 30 := by kernel_rfl
theorem sUX_6 : say (opsAt Tryz.f15 8) 6 = some (none, .store 22 (.tmp 6) (.tmp 30), none) := by kernel_rfl
set_option maxHeartbeats 4000000 in
set_option maxRecDepth 100000 in
theorem regUX (g o B : Nat) (v v2 : Value) (Z : Array Value) (l nn T6 : Nat) (wB wC wD : World) (t0 : Array Value) (wr : World) {Q : Exit → Act → World → Prop} (ht : t0.size = 77) (h6 : t0.getD 6 undef = .pointer (some ⟨T6, 0, none⟩)) (h7 : t0.getD 7 undef = .pointer (some ⟨g, o, none⟩))
    (c0 : wr.drew.cell? ⟨T6, 0, none⟩ = some v) (lz : Lies wr.drew g o Z) (sZ : Z.size = 71) (hwB : wr.drew.alloc (.cells Z 55) = wB) (hB0 : wr.drew.heap.size = B) (cB : wB.cell? ⟨T6, 0, none⟩ = some v) (hA : (Builtin.append_ #[22, 22] 22 #[v, .slice (some ⟨B, 0, none⟩) 1 1]).run Tryz.prog wB = .ok v2 wC) (hv2 : ∃ p a b, v2 = .slice p a b) (cC : wC.cell? ⟨T6, 0, none⟩ = some v) (fC : wC.frozen? ⟨T6, 0, none⟩ = false) (hwD : wC.setCell ⟨T6, 0, none⟩ v2 = wD)
    (hQ : Q .normal ⟨fold (opsAt Tryz.f15 8) (VUX g o B v v2 Z) t0 7, []⟩ wD) : (Code.region 8 (opsAt Tryz.f15 8) true).wpIn (Fence.wide.inRound l) nn Tryz.prog Q ⟨t0, []⟩ wr := by
  have hB : dstB (opsAt Tryz.f15 8) t0.size = true := by rw [ht]; exact dstUX
  refine inv_regionIn (by kernel_rfl) (IV (opsAt Tryz.f15 8) (VUX g o B v v2 Z) t0 (fun done w => w = (if done 6 = true then wD else (if done 5 = true then wC else (if done 4 = true then wB else wr.drew))))) backUX ⟨t0, rfl, ⟨rfl, fun _ _ => rfl, fun _ _ _ _ _ h => by cases h⟩, by simp⟩ ?_ ?_
  rotate_left 1
  · rintro done a w ⟨t, rfl, hS, hw⟩ hall
    rw [hS.end hB hall, sizeUX]
    rw [hall 6 (by rw [sizeUX]; decide), if_pos rfl] at hw
    rw [hw]
    exact hQ
  · rintro jz op done a w ho ⟨t, rfl, hS, hw⟩ hnd hdep hcl
    have e6 : t[6]?.getD undef = .pointer (some ⟨T6, 0, none⟩) := (hS.old freeUX6).trans h6
    have e7 : t[7]?.getD undef = .pointer (some ⟨g, o, none⟩) := (hS.old freeUX7).trans h7
    have hlt : jz < 7 := by rw [← sizeUX]; exact (Array.getElem?_eq_some_iff.1 ho).1
    match jz, hlt, ho, hnd, hdep with
    | 0, _, ho, hnd, hdep =>
      obtain ⟨hd, hop, hgd⟩ := say_of sUX_0 ho
      have ny5 : done 5 = false := not_yet (k := 0) (j := 5) (by kernel_rfl) hcl hnd
      have ny6 : done 6 = false := not_yet (k := 5) (j := 6) (by kernel_rfl) hcl ny5
      refine iv_valI (fun _ => trivial) hB ho (wanted_none hgd) hd hS (by intro c; rw [hop]; intro h; cases h) (by simpa [upd] using hw) ?_
      have c6 : w.cell? ⟨T6, 0, none⟩ = some v := by rw [hw]; by_cases h4 : done 4 = true <;> simp [h4, ny5, ny6, c0, cB]
      unfold execOp
      simp only [hop]
      simp [e6, c6, VUX, go_sem]
    | 1, _, ho, hnd, hdep =>
      obtain ⟨hd, hop, hgd⟩ := say_of sUX_1 ho
      refine iv_valI (fun _ => trivial) hB ho (wanted_none hgd) hd hS (by intro c; rw [hop]; intro h; cases h) (by simpa [upd] using hw) ?_
      unfold execOp
      simp only [hop]
      simp [e7, VUX, go_sem]
    | 2, _, ho, hnd, hdep =>
      obtain ⟨hd, hop, hgd⟩ := say_of sUX_2 ho
      have x26 : t[26]?.getD undef = _ := hS.at dUX_1 (waits (j := 1) (by kernel_rfl) ho hdep)
      simp only [VUX] at x26
      refine iv_valI (fun _ => trivial) hB ho (wanted_none hgd) hd hS (by intro c; rw [hop]; intro h; cases h) (by simpa [upd] using hw) ?_
      unfold execOp
      simp only [hop]
      simp [x26, VUX, go_sem]
    | 3, _, ho, hnd, hdep =>
      obtain ⟨hd, hop, hgd⟩ := say_of sUX_3 ho
      have x27 : t[27]?.getD undef = _ := hS.at dUX_2 (waits (j := 2) (by kernel_rfl) ho hdep)
      simp only [VUX] at x27
      have ny4 : done 4 = false := not_yet (k := 3) (j := 4) (by kernel_rfl) hcl hnd
      have ny5 : done 5 = false := not_yet (k := 4) (j := 5) (by kernel_rfl) hcl ny4
      have ny6 : done 6 = false := not_yet (k := 5) (j := 6) (by kernel_rfl) hcl ny5
      have hw0 : w = wr.drew := by rw [hw]; simp [ny4, ny5, ny6]
      refine iv_valI (fun _ => trivial) hB ho (wanted_none hgd) hd hS (by intro c; rw [hop]; intro h; cases h) (by simpa [upd] using hw) ?_
      exact exec_load (a := ⟨t, []⟩) 55 _ hop g o (by show t.getD 27 undef = _; rw [Array.getD_eq_getD_getElem?]; exact x27) Z _ (by rw [hw0]; exact lz) under55 rfl (by rw [size55, sZ])
    | 4, _, ho, hnd, hdep =>
      obtain ⟨hd, hop, hgd⟩ := say_of sUX_4 ho
      have x28 : t[28]?.getD undef = _ := hS.at dUX_3 (waits (j := 3) (by kernel_rfl) ho hdep)
      simp only [VUX] at x28
      have ny5 : done 5 = false := not_yet (k := 4) (j := 5) (by kernel_rfl) hcl hnd
      have ny6 : done 6 = false := not_yet (k := 5) (j := 6) (by kernel_rfl) hcl ny5
      have hw0 : w = wr.drew := by rw [hw]; simp [hnd, ny5, ny6]
      subst hw0
      refine iv_valI (fun _ => trivial) (w' := wB) hB ho (wanted_none hgd) hd hS (by intro c; rw [hop]; intro h; cases h) (by simp [upd, ny5, ny6]) ?_
      rw [← hwB]
      exact exec_slice55 (a := ⟨t, []⟩) _ hop Z (by show t.getD 28 undef = _; rw [Array.getD_eq_getD_getElem?]; exact x28) sZ _ B hB0
    | 5, _, ho, hnd, hdep =>
      obtain ⟨hd, hop, hgd⟩ := say_of sUX_5 ho
      have x25 : t[25]?.getD undef = _ := hS.at dUX_0 (waits (j := 0) (by kernel_rfl) ho hdep)
      simp only [VUX] at x25
      have x29 : t[29]?.getD undef = _ := hS.at dUX_4 (waits (j := 4) (by kernel_rfl) ho hdep)
      simp only [VUX] at x29
      have ny6 : done 6 = false := not_yet (k := 5) (j := 6) (by kernel_rfl) hcl hnd
      have yes : done 4 = true := waits (j := 4) (by kernel_rfl) ho hdep
      have hw0 : w = wB := by rw [hw]; simp [hnd, ny6, yes]
      subst hw0
      refine iv_valI (fun _ => trivial) (w' := wC) hB ho (wanted_none hgd) hd hS (by intro c; rw [hop]; intro h; cases h) (by simp [upd, ny6]) ?_
      refine exec_app (a := ⟨t, []⟩) (v := v) (src := .slice (some ⟨B, 0, none⟩) 1 1) hop (by show t.getD 25 undef = _; rw [Array.getD_eq_getD_getElem?]; exact x25) (by show t.getD 29 undef = _; rw [Array.getD_eq_getD_getElem?]; exact x29) ?_
      rw [show op.type = 22 from by have := congrArg (·.map (·.type)) ho; simpa using this.symm.trans (show _ = some 22 from by kernel_rfl)]
      exact hA
    | 6, _, ho, hnd, hdep =>
      obtain ⟨hd, hop, hgd⟩ := say_of sUX_6 ho
      have x30 : t[30]?.getD undef = _ := hS.at dUX_5 (waits (j := 5) (by kernel_rfl) ho hdep)
      simp only [VUX] at x30
      have yes : done 5 = true := waits (j := 5) (by kernel_rfl) ho hdep
      have hw0 : w = wC := by rw [hw]; simp [hnd, yes]
      subst hw0
      refine iv_storeI (fun _ => trivial) (w' := wD) ho (wanted_none hgd) hd hS (by intro c; rw [hop]; intro h; cases h) (by simp [upd]) ?_
      obtain ⟨sp, sa, sb, rfl⟩ := hv2
      unfold execOp
      simp only [hop]
      simp [e6, x30, cC, fC, hwD, go_sem]
theorem foldUX (g o B : Nat) (v v2 : Value) (Z : Array Value) (t0 : Array Value) : fold (opsAt Tryz.f15 8) (VUX g o B v v2 Z) t0 7 = ((((((t0.setIfInBounds 25 (v)).setIfInBounds 26 (.pointer (some ⟨g, o, none⟩))).setIfInBounds 27 (.pointer (some ⟨g, o, none⟩))).setIfInBounds 28 (.agg Z)).setIfInBounds 29 (.slice (some ⟨B, 0, none⟩) 1 1)).setIfInBounds 30 (v2)) := by kernel_rfl
theorem backUY : backB (opsAt Tryz.f15 10) = true := by kernel_rfl
theorem dstUY : dstB (opsAt Tryz.f15 10) 77 = true := by kernel_rfl
theorem sizeUY : (opsAt Tryz.f15 10).size = 7 := by kernel_rfl
theorem freeUY6 : freeB (opsAt Tryz.f15 10) 6 = true := by kernel_rfl
theorem freeUY8 : freeB (opsAt Tryz.f15 10) 8 = true := by kernel_rfl
def VUY (g o B : Nat) (v v2 : Value) (Z : Array Value) : Nat → Value
  | 0 => v
  | 1 => .pointer (some ⟨g, o, none⟩)
  | 2 => .pointer (some ⟨g, o, none⟩)
  | 3 => .agg Z
  | 4 => .slice (some ⟨B, 0, none⟩) 1 1
  | 5 => v2
  | 6 => undef
  | _ => undef
theorem sUY_0 : say (opsAt Tryz.f15 10) 0 = some (some 34, .load 22 (.tmp 6), none) := by kernel_rfl
theorem dUY_0 : slotB (opsAt Tryz.f15 10) 0 = some 34 := by kernel_rfl
theorem sUY_1 : say (opsAt Tryz.f15 10) 1 = some (some 35, .move (.tmp 8), none) := by kernel_rfl
theorem dUY_1 : slotB (opsAt Tryz.f15 10) 1 = some 35 := by kernel_rfl
theorem sUY_2 : say (opsAt Tryz.f15 10) 2 = some (some 36, .nilCheck (.tmp 35), none) := by kernel_rfl
theorem dUY_2 : slotB (opsAt Tryz.f15 10) 2 = some 36 := by kernel_rfl
theorem sUY_3 : say (opsAt Tryz.f15 10) 3 = some (some 37, .load 55 (.tmp 36), none) := by kernel_rfl
theorem dUY_3 : slotB (opsAt Tryz.f15 10) 3 = some 37 := by kernel_rfl
theorem sUY_4 : say (opsAt Tryz.f15 10) 4 = some (some 38, .buildSlice 22 1 #[(0, .tmp 37)], none) := by kernel_rfl
theorem dUY_4 : slotB (opsAt Tryz.f15 10) 4 = some 38 := by kernel_rfl
theorem sUY_5 : say (opsAt Tryz.f15 10) 5 = some (some 39, .call { callee := .builtin .append, args := #[.tmp 34, .tmp 38], argTypes := #[22, 22] }, none) := by kernel_rfl
theorem dUY_5 : slotB (opsAt Tryz.f15 10) 5 = some 39 := by kernel_rfl
theorem sUY_6 : say (opsAt Tryz.f15 10) 6 = some (none, .store 22 (.tmp 6) (.tmp 39), none) := by kernel_rfl
set_option maxHeartbeats 4000000 in
set_option maxRecDepth 100000 in
theorem regUY (g o B : Nat) (v v2 : Value) (Z : Array Value) (l nn T6 : Nat) (wB wC wD : World) (t0 : Array Value) (wr : World) {Q : Exit → Act → World → Prop} (ht : t0.size = 77) (h6 : t0.getD 6 undef = .pointer (some ⟨T6, 0, none⟩)) (h8 : t0.getD 8 undef = .pointer (some ⟨g, o, none⟩))
    (c0 : wr.drew.cell? ⟨T6, 0, none⟩ = some v) (lz : Lies wr.drew g o Z) (sZ : Z.size = 71) (hwB : wr.drew.alloc (.cells Z 55) = wB) (hB0 : wr.drew.heap.size = B) (cB : wB.cell? ⟨T6, 0, none⟩ = some v) (hA : (Builtin.append_ #[22, 22] 22 #[v, .slice (some ⟨B, 0, none⟩) 1 1]).run Tryz.prog wB = .ok v2 wC) (hv2 : ∃ p a b, v2 = .slice p a b) (cC : wC.cell? ⟨T6, 0, none⟩ = some v) (fC : wC.frozen? ⟨T6, 0, none⟩ = false) (hwD : wC.setCell ⟨T6, 0, none⟩ v2 = wD)
    (hQ : Q .normal ⟨fold (opsAt Tryz.f15 10) (VUY g o B v v2 Z) t0 7, []⟩ wD) : (Code.region 10 (opsAt Tryz.f15 10) true).wpIn (Fence.wide.inRound l) nn Tryz.prog Q ⟨t0, []⟩ wr := by
  have hB : dstB (opsAt Tryz.f15 10) t0.size = true := by rw [ht]; exact dstUY
  refine inv_regionIn (by kernel_rfl) (IV (opsAt Tryz.f15 10) (VUY g o B v v2 Z) t0 (fun done w => w = (if done 6 = true then wD else (if done 5 = true then wC else (if done 4 = true then wB else wr.drew))))) backUY ⟨t0, rfl, ⟨rfl, fun _ _ => rfl, fun _ _ _ _ _ h => by cases h⟩, by simp⟩ ?_ ?_
  rotate_left 1
  · rintro done a w ⟨t, rfl, hS, hw⟩ hall
    rw [hS.end hB hall, sizeUY]
    rw [hall 6 (by rw [sizeUY]; decide), if_pos rfl] at hw
    rw [hw]
    exact hQ
  · rintro jz op done a w ho ⟨t, rfl, hS, hw⟩ hnd hdep hcl
    have e6 : t[6]?.getD undef = .pointer (some ⟨T6, 0, none⟩) := (hS.old freeUY6).trans h6
    have e8 : t[8]?.getD undef = .pointer (some ⟨g, o, none⟩) := (hS.old freeUY8).trans h8
    have hlt : jz < 7 := by rw [← sizeUY]; exact (Array.getElem?_eq_some_iff.1 ho).1
    match jz, hlt, ho, hnd, hdep with
    | 0, _, ho, hnd, hdep =>
      obtain ⟨hd, hop, hgd⟩ := say_of sUY_0 ho
      have ny5 : done 5 = false := not_yet (k := 0) (j := 5) (by kernel_rfl) hcl hnd
      have ny6 : done 6 = false := not_yet (k := 5) (j := 6) (by kernel_rfl) hcl ny5
      refine iv_valI (fun _ => trivial) hB ho (wanted_none hgd) hd hS (by intro c; rw [hop]; intro h; cases h) (by simpa [upd] using hw) ?_
      have c6 : w.cell? ⟨T6, 0, none⟩ = some v := by rw [hw]; by_cases h4 : done 4 = true <;> simp [h4, ny5, ny6, c0, cB]
      unfold execOp
      simp only [hop]
      simp [e6, c6, VUY, go_sem]
    | 1, _, ho, hnd, hdep =>
      obtain ⟨hd, hop, hgd⟩ := say_of sUY_1 ho
      refine iv_valI (fun _ => trivial) hB ho (wanted_none hgd) hd hS (by intro c; rw [hop]; intro h; cases h) (by simpa [upd] using hw) ?_
      unfold execOp
      simp only [hop]
      simp [e8, VUY, go_sem]
    | 2, _, ho, hnd, hdep =>
      obtain ⟨hd, hop, hgd⟩ := say_of sUY_2 ho
      have x35 : t[35]?.getD undef = _ := hS.at dUY_1 (waits (j := 1) (by kernel_rfl) ho hdep)
      simp only [VUY] at x35
      refine iv_valI (fun _ => trivial) hB ho (wanted_none hgd) hd hS (by intro c; rw [hop]; intro h; cases h) (by simpa [upd] using hw) ?_
      unfold execOp
      simp only [hop]
      simp [x35, VUY, go_sem]
    | 3, _, ho, hnd, hdep =>
      obtain ⟨hd, hop, hgd⟩ := say_of sUY_3 ho
      have x36 : t[36]?.getD undef = _ := hS.at dUY_2 (waits (j := 2) (by kernel_rfl) ho hdep)
      simp only [VUY] at x36
      have ny4 : done 4 = false := not_yet (k := 3) (j := 4) (by kernel_rfl) hcl hnd
      have ny5 : done 5 = false := not_yet (k := 4) (j := 5) (by kernel_rfl) hcl ny4
      have ny6 : done 6 = false := not_yet (k := 5) (j := 6) (by kernel_rfl) hcl ny5
      have hw0 : w = wr.drew := by rw [hw]; simp [ny4, ny5, ny6]
      refine iv_valI (fun _ => trivial) hB ho (wanted_none hgd) hd hS (by intro c; rw [hop]; intro h; cases h) (by simpa [upd] using hw) ?_
      exact exec_load (a := ⟨t, []⟩) 55 _ hop g o (by show t.getD 36 undef = _; rw [Array.getD_eq_getD_getElem?]; exact x36) Z _ (by rw [hw0]; exact lz) under55 rfl (by rw [size55, sZ])
    | 4, _, ho, hnd, hdep =>
      obtain ⟨hd, hop, hgd⟩ := say_of sUY_4 ho
      have x37 : t[37]?.getD undef = _ := hS.at dUY_3 (waits (j := 3) (by kernel_rfl) ho hdep)
      simp only [VUY] at x37
      have ny5 : done 5 = false := not_yet (k := 4) (j := 5) (by kernel_rfl) hcl hnd
      have ny6 : done 6 = false := not_yet (k := 5) (j := 6) (by kernel_rfl) hcl ny5
      have hw0 : w = wr.drew := by rw [hw]; simp [hnd, ny5, ny6]
      subst hw0
      refine iv_valI (fun _ => trivial) (w' := wB) hB ho (wanted_none hgd) hd hS (by intro c; rw [hop]; intro h; cases h) (by simp [upd, ny5, ny6]) ?_
      rw [← hwB]
      exact exec_slice55 (a := ⟨t, []⟩) _ hop Z (by show t.getD 37 undef = _; rw [Array.getD_eq_getD_getElem?]; exact x37) sZ _ B hB0
    | 5, _, ho, hnd, hdep =>
      obtain ⟨hd, hop, hgd⟩ := say_of sUY_5 ho
      have x34 : t[34]?.getD undef = _ := hS.at dUY_0 (waits (j := 0) (by kernel_rfl) ho hdep)
      simp only [VUY] at x34
      have x38 : t[38]?.getD undef = _ := hS.at dUY_4 (waits (j := 4) (by kernel_rfl) ho hdep)
      simp only [VUY] at x38
      have ny6 : done 6 = false := not_yet (k := 5) (j := 6) (by kernel_rfl) hcl hnd
      have yes : done 4 = true := waits (j := 4) (by kernel_rfl) ho hdep
      have hw0 : w = wB := by rw [hw]; simp [hnd, ny6, yes]
      subst hw0
      refine iv_valI (fun _ => trivial) (w' := wC) hB ho (wanted_none hgd) hd hS (by intro c; rw [hop]; intro h; cases h) (by simp [upd, ny6]) ?_
      refine exec_app (a := ⟨t, []⟩) (v := v) (src := .slice (some ⟨B, 0, none⟩) 1 1) hop (by show t.getD 34 undef = _; rw [Array.getD_eq_getD_getElem?]; exact x34) (by show t.getD 38 undef = _; rw [Array.getD_eq_getD_getElem?]; exact x38) ?_
      rw [show op.type = 22 from by have := congrArg (·.map (·.type)) ho; simpa using this.symm.trans (show _ = some 22 from by kernel_rfl)]
      exact hA
    | 6, _, ho, hnd, hdep =>
      obtain ⟨hd, hop, hgd⟩ := say_of sUY_6 ho
      have x39 : t[39]?.getD undef = _ := hS.at dUY_5 (waits (j := 5) (by kernel_rfl) ho hdep)
      simp only [VUY] at x39
      have yes : done 5 = true := waits (j := 5) (by kernel_rfl) ho hdep
      have hw0 : w = wC := by rw [hw]; simp [hnd, yes]
      subst hw0
      refine iv_storeI (fun _ => trivial) (w' := wD) ho (wanted_none hgd) hd hS (by intro c; rw [hop]; intro h; cases h) (by simp [upd]) ?_
      obtain ⟨sp, sa, sb, rfl⟩ := hv2
      unfold execOp
      simp only [hop]
      simp [e6, x39, cC, fC, hwD, go_sem]
theorem foldUY (g o B : Nat) (v v2 : Value) (Z : Array Value) (t0 : Array Value) : fold (opsAt Tryz.f15 10) (VUY g o B v v2 Z) t0 7 = ((((((t0.setIfInBounds 34 (v)).setIfInBounds 35 (.pointer (some ⟨g, o, none⟩))).setIfInBounds 36 (.pointer (some ⟨g, o, none⟩))).setIfInBounds 37 (.agg Z)).setIfInBounds 38 (.slice (some ⟨B, 0, none⟩) 1 1)).setIfInBounds 39 (v2)) := by kernel_rfl
theorem backUN : backB (opsAt Tryz.f15 11) = true := by kernel_rfl
theorem dstUN : dstB (opsAt Tryz.f15 11) 77 = true := by kernel_rfl
theorem sizeUN : (opsAt Tryz.f15 11).size = 10 := by kernel_rfl
theorem freeUN7 : freeB (opsAt Tryz.f15 11) 7 = true := by kernel_rfl
theorem freeUN8 : freeB (opsAt Tryz.f15 11) 8 = true := by kernel_rfl
theorem sUN_0 : say (opsAt Tryz.f15 11) 0 = some (some 41, .move (.tmp 7), none) := by kernel_rfl
theorem dUN_0 : slotB (opsAt Tryz.f15 11) 0 = some 41 := by kernel_rfl
theorem sUN_1 : say (opsAt Tryz.f15 11) 1 = some (some 42, .nilCheck (.tmp 41), none) := by kernel_rfl
theorem dUN_1 : slotB (opsAt Tryz.f15 11) 1 = some 42 := by kernel_rfl
theorem sUN_2 : say (opsAt Tryz.f15 11) 2 = some (some 43, .fieldAddr 55 (.tmp 42) 2, none) := by kernel_rfl
theorem dUN_2 : slotB (opsAt Tryz.f15 11) 2 = some 43 := by kernel_rfl
theorem sUN_3 : say (opsAt Tryz.f15 11) 3 = some (some 44, .load 53 (.tmp 43), none) := by kernel_rfl
theorem dUN_3 : slotB (opsAt Tryz.f15 11) 3 = some 44 := by kernel_rfl
theorem sUN_4 : say (opsAt Tryz.f15 11) 4 = some (some 45, .move (.tmp 8), none) := by kernel_rfl
theorem dUN_4 : slotB (opsAt Tryz.f15 11) 4 = some 45 := by kernel_rfl
theorem sUN_5 : say (opsAt Tryz.f15 11) 5 = some (some 46, .nilCheck (.tmp 45), none) := by kernel_rfl
theorem dUN_5 : slotB (opsAt Tryz.f15 11) 5 = some 46 := by kernel_rfl
theorem sUN_6 : say (opsAt Tryz.f15 11) 6 = some (some 47, .fieldAddr 55 (.tmp 46) 1, none) := by kernel_rfl
theorem dUN_6 : slotB (opsAt Tryz.f15 11) 6 = some 47 := by kernel_rfl
theorem sUN_7 : say (opsAt Tryz.f15 11) 7 = some (some 48, .load 53 (.tmp 47), none) := by kernel_rfl
theorem dUN_7 : slotB (opsAt Tryz.f15 11) 7 = some 48 := by kernel_rfl
theorem sUN_8 : say (opsAt Tryz.f15 11) 8 = some (some 49, .binOp .neq 53 (.tmp 44) (.tmp 48) 53, none) := by kernel_rfl
theorem dUN_8 : slotB (opsAt Tryz.f15 11) 8 = some 49 := by kernel_rfl
theorem sUN_9 : say (opsAt Tryz.f15 11) 9 = some (some 40, .assign (.tmp 49), none) := by kernel_rfl
theorem dUN_9 : slotB (opsAt Tryz.f15 11) 9 = some 40 := by kernel_rfl
def VUN (ga oa gb ob : Nat) (YA YB : Array Value) (b : Bool) : Nat → Value
  | 0 => .pointer (some ⟨ga, oa, none⟩)
  | 1 => .pointer (some ⟨ga, oa, none⟩)
  | 2 => .pointer (some ⟨ga, oa + 36, none⟩)
  | 3 => .agg YA
  | 4 => .pointer (some ⟨gb, ob, none⟩)
  | 5 => .pointer (some ⟨gb, ob, none⟩)
  | 6 => .pointer (some ⟨gb, ob + 1, none⟩)
  | 7 => .agg YB
  | 8 => .bool b
  | 9 => .bool b
  | _ => undef
set_option maxHeartbeats 8000000 in
set_option maxRecDepth 100000 in
theorem regUN (ga oa gb ob : Nat) (YA YB : Array Value) (b : Bool) (l nn : Nat) (t0 : Array Value) (wr : World) {Q : Exit → Act → World → Prop} (ht : t0.size = 77) (h7 : t0.getD 7 undef = .pointer (some ⟨ga, oa, none⟩)) (h8 : t0.getD 8 undef = .pointer (some ⟨gb, ob, none⟩))
    (p q : Vd) (hp : YA = (vx p).toArray) (hq : YB = (vx q).toArray) (hb : (!decide (p = q)) = b) (lA : Lies wr ga (oa + 36) YA) (lB : Lies wr gb (ob + 1) YB)
    (hQ : ∀ w, Drew wr w → Q .normal ⟨fold (opsAt Tryz.f15 11) (VUN ga oa gb ob YA YB b) t0 10, []⟩ w) : (Code.region 11 (opsAt Tryz.f15 11) true).wpIn (Fence.wide.inRound l) nn Tryz.prog Q ⟨t0, []⟩ wr := by
  have hB : dstB (opsAt Tryz.f15 11) t0.size = true := by rw [ht]; exact dstUN
  have sA : YA.size = 35 := by rw [hp]; simp [vx_len]
  have sB : YB.size = 35 := by rw [hq]; simp [vx_len]
  have h0M : Drew wr wr.drew := ⟨1, rfl⟩
  refine inv_regionIn (by kernel_rfl) (IV (opsAt Tryz.f15 11) (VUN ga oa gb ob YA YB b) t0 (fun _ w => Drew wr w)) backUN ⟨t0, rfl, ⟨rfl, fun _ _ => rfl, fun _ _ _ _ _ h => by cases h⟩, h0M⟩ ?_ ?_
  rotate_left 1
  · rintro done a w ⟨t, rfl, hS, hw⟩ hall
    rw [hS.end hB hall, sizeUN]
    exact hQ w hw
  · rintro jz op done a w ho ⟨t, rfl, hS, hw⟩ hnd hdep hcl
    have e7 : t[7]?.getD undef = .pointer (some ⟨ga, oa, none⟩) := (hS.old freeUN7).trans h7
    have e8 : t[8]?.getD undef = .pointer (some ⟨gb, ob, none⟩) := (hS.old freeUN8).trans h8
    have hlt : jz < 10 := by rw [← sizeUN]; exact (Array.getElem?_eq_some_iff.1 ho).1
    match jz, hlt, ho, hnd, hdep with
    | 0, _, ho, hnd, hdep =>
      obtain ⟨hd, hop, hgd⟩ := say_of sUN_0 ho
      refine iv_valI (fun _ => trivial) hB ho (wanted_none hgd) hd hS (by intro c; rw [hop]; intro h; cases h) hw ?_
      unfold execOp
      simp only [hop]
      simp [e7, VUN, go_sem]
    | 1, _, ho, hnd, hdep =>
      obtain ⟨hd, hop, hgd⟩ := say_of sUN_1 ho
      have x41 : t[41]?.getD undef = _ := hS.at dUN_0 (waits (j := 0) (by kernel_rfl) ho hdep)
      simp only [VUN] at x41
      refine iv_valI (fun _ => trivial) hB ho (wanted_none hgd) hd hS (by intro c; rw [hop]; intro h; cases h) hw ?_
      unfold execOp
      simp only [hop]
      simp [x41, VUN, go_sem]
    | 2, _, ho, hnd, hdep =>
      obtain ⟨hd, hop, hgd⟩ := say_of sUN_2 ho
      have x42 : t[42]?.getD undef = _ := hS.at dUN_1 (waits (j := 1) (by kernel_rfl) ho hdep)
      simp only [VUN] at x42
      refine iv_valI (fun _ => trivial) hB ho (wanted_none hgd) hd hS (by intro c; rw [hop]; intro h; cases h) hw ?_
      unfold execOp
      simp only [hop]
      simp [x42, VUN, go_sem]
    | 3, _, ho, hnd, hdep =>
      obtain ⟨hd, hop, hgd⟩ := say_of sUN_3 ho
      have x43 : t[43]?.getD undef = _ := hS.at dUN_2 (waits (j := 2) (by kernel_rfl) ho hdep)
      simp only [VUN] at x43
      refine iv_valI (fun _ => trivial) hB ho (wanted_none hgd) hd hS (by intro c; rw [hop]; intro h; cases h) hw ?_
      exact exec_load53 (a := ⟨t, []⟩) _ hop ga (oa + 36) (by show t.getD 43 undef = _; rw [Array.getD_eq_getD_getElem?]; exact x43) YA sA (lA.drew hw)
    | 4, _, ho, hnd, hdep =>
      obtain ⟨hd, hop, hgd⟩ := say_of sUN_4 ho
      refine iv_valI (fun _ => trivial) hB ho (wanted_none hgd) hd hS (by intro c; rw [hop]; intro h; cases h) hw ?_
      unfold execOp
      simp only [hop]
      simp [e8, VUN, go_sem]
    | 5, _, ho, hnd, hdep =>
      obtain ⟨hd, hop, hgd⟩ := say_of sUN_5 ho
      have x45 : t[45]?.getD undef = _ := hS.at dUN_4 (waits (j := 4) (by kernel_rfl) ho hdep)
      simp only [VUN] at x45
      refine iv_valI (fun _ => trivial) hB ho (wanted_none hgd) hd hS (by intro c; rw [hop]; intro h; cases h) hw ?_
      unfold execOp
      simp only [hop]
      simp [x45, VUN, go_sem]
    | 6, _, ho, hnd, hdep =>
      obtain ⟨hd, hop, hgd⟩ := say_of sUN_6 ho
      have x46 : t[46]?.getD undef = _ := hS.at dUN_5 (waits (j := 5) (by kernel_rfl) ho hdep)
      simp only [VUN] at x46
      refine iv_valI (fun _ => trivial) hB ho (wanted_none hgd) hd hS (by intro c; rw [hop]; intro h; cases h) hw ?_
      unfold execOp
      simp only [hop]
      simp [x46, VUN, go_sem]
    | 7, _, ho, hnd, hdep =>
      obtain ⟨hd, hop, hgd⟩ := say_of sUN_7 ho
      have x47 : t[47]?.getD undef = _ := hS.at dUN_6 (waits (j := 6) (by kernel_rfl) ho hdep)
      simp only [VUN] at x47
      refine iv_valI (fun _ => trivial) hB ho (wanted_none hgd) hd hS (by intro c; rw [hop]; intro h; cases h) hw ?_
      exact exec_load53 (a := ⟨t, []⟩) _ hop gb (ob + 1) (by show t.getD 47 undef = _; rw [Array.getD_eq_getD_getElem?]; exact x47) YB sB (lB.drew hw)
    | 8, _, ho, hnd, hdep =>
      obtain ⟨hd, hop, hgd⟩ := say_of sUN_8 ho
      have x44 : t[44]?.getD undef = _ := hS.at dUN_3 (waits (j := 3) (by kernel_rfl) ho hdep)
      simp only [VUN] at x44
      have x48 : t[48]?.getD undef = _ := hS.at dUN_7 (waits (j := 7) (by kernel_rfl) ho hdep)
      simp only [VUN] at x48
      refine iv_valI (fun _ => trivial) hB ho (wanted_none hgd) hd hS (by intro c; rw [hop]; intro h; cases h) hw ?_
      exact exec_neq53' (a := ⟨t, []⟩) _ _ hop YA YB (by show t.getD 44 undef = _; rw [Array.getD_eq_getD_getElem?]; exact x44) (by show t.getD 48 undef = _; rw [Array.getD_eq_getD_getElem?]; exact x48) p q hp hq _ hb _
    | 9, _, ho, hnd, hdep =>
      obtain ⟨hd, hop, hgd⟩ := say_of sUN_9 ho
      have x49 : t[49]?.getD undef = _ := hS.at dUN_8 (waits (j := 8) (by kernel_rfl) ho hdep)
      simp only [VUN] at x49
      refine iv_valI (fun _ => trivial) hB ho (wanted_none hgd) hd hS (by intro c; rw [hop]; intro h; cases h) hw ?_
      unfold execOp
      simp only [hop]
      simp [x49, VUN, go_sem]
theorem foldUN (ga oa gb ob : Nat) (YA YB : Array Value) (b : Bool) (t0 : Array Value) : fold (opsAt Tryz.f15 11) (VUN ga oa gb ob YA YB b) t0 10 = ((((((((((t0.setIfInBounds 41 (.pointer (some ⟨ga, oa, none⟩))).setIfInBounds 42 (.pointer (some ⟨ga, oa, none⟩))).setIfInBounds 43 (.pointer (some ⟨ga, oa + 36, none⟩))).setIfInBounds 44 (.agg YA)).setIfInBounds 45 (.pointer (some ⟨gb, ob, none⟩))).setIfInBounds 46 (.pointer (some ⟨gb, ob, none⟩))).setIfInBounds 47 (.pointer (some ⟨gb, ob + 1, none⟩))).setIfInBounds 48 (.agg YB)).setIfInBounds 49 (.bool b)).setIfInBounds 40 (.bool b)) := by kernel_rfl
theorem backUO : backB (opsAt Tryz.f15 13) = true := by kernel_rfl
theorem dstUO : dstB (opsAt Tryz.f15 13) 77 = true := by kernel_rfl
theorem sizeUO : (opsAt Tryz.f15 13).size = 10 := by kernel_rfl
theorem freeUO7 : freeB (opsAt Tryz.f15 13) 7 = true := by kernel_rfl
theorem freeUO8 : freeB (opsAt Tryz.f15 13) 8 = true := by kernel_rfl
theorem sUO_0 : say (opsAt Tryz.f15 13) 0 = some (some 51, .move (.tmp 7), none) := by kernel_rfl
theorem dUO_0 : slotB (opsAt Tryz.f15 13) 0 = some 51 := by kernel_rfl
theorem sUO_1 : say (opsAt Tryz.f15 13) 1 = some (some 52, .nilCheck (.tmp 51), none) := by kernel_rfl
theorem dUO_1 : slotB (opsAt Tryz.f15 13) 1 = some 52 := by kernel_rfl
theorem sUO_2 : say (opsAt Tryz.f15 13) 2 = some (some 53, .fieldAddr 55 (.tmp 52) 1, none) := by kernel_rfl
theorem dUO_2 : slotB (opsAt Tryz.f15 13) 2 = some 53 := by kernel_rfl
theorem sUO_3 : say (opsAt Tryz.f15 13) 3 = some (some 54, .load 53 (.tmp 53), none) := by kernel_rfl
theorem dUO_3 : slotB (opsAt Tryz.f15 13) 3 = some 54 := by kernel_rfl
theorem sUO_4 : say (opsAt Tryz.f15 13) 4 = some (some 55, .move (.tmp 8), none) := by kernel_rfl
theorem dUO_4 : slotB (opsAt Tryz.f15 13) 4 = some 55 := by kernel_rfl
theorem sUO_5 : say (opsAt Tryz.f15 13) 5 = some (some 56, .nilCheck (.tmp 55), none) := by kernel_rfl
theorem dUO_5 : slotB (opsAt Tryz.f15 13) 5 = some 56 := by kernel_rfl
theorem sUO_6 : say (opsAt Tryz.f15 13) 6 = some (some 57, .fieldAddr 55 (.tmp 56) 2, none) := by kernel_rfl
theorem dUO_6 : slotB (opsAt Tryz.f15 13) 6 = some 57 := by kernel_rfl
theorem sUO_7 : say (opsAt Tryz.f15 13) 7 = some (some 58, .load 53 (.tmp 57), none) := by kernel_rfl
theorem dUO_7 : slotB (opsAt Tryz.f15 13) 7 = some 58 := by kernel_rfl
theorem sUO_8 : say (opsAt Tryz.f15 13) 8 = some (some 59, .binOp .neq 53 (.tmp 54) (.tmp 58) 53, none) := by kernel_rfl
theorem dUO_8 : slotB (opsAt Tryz.f15 13) 8 = some 59 := by kernel_rfl
theorem sUO_9 : say (opsAt Tryz.f15 13) 9 = some (some 50, .assign (.tmp 59), none) := by kernel_rfl
theorem dUO_9 : slotB (opsAt Tryz.f15 13) 9 = some 50 := by kernel_rfl
def VUO (ga oa gb ob : Nat) (YA YB : Array Value) (b : Bool) : Nat → Value
  | 0 => .pointer (some ⟨ga, oa, none⟩)
  | 1 => .pointer (some ⟨ga, oa, none⟩)
  | 2 => .pointer (some ⟨ga, oa + 1, none⟩)
  | 3 => .agg YA
  | 4 => .pointer (some ⟨gb, ob, none⟩)
  | 5 => .pointer (some ⟨gb, ob, none⟩)
  | 6 => .pointer (some ⟨gb, ob + 36, none⟩)
  | 7 => .agg YB
  | 8 => .bool b
  | 9 => .bool b
  | _ => undef
set_option maxHeartbeats 8000000 in
set_option maxRecDepth 100000 in
theorem regUO (ga oa gb ob : Nat) (YA YB : Array Value) (b : Bool) (l nn : Nat) (t0 : Array Value) (wr : World) {Q : Exit → Act → World → Prop} (ht : t0.size = 77) (h7 : t0.getD 7 undef = .pointer (some ⟨ga, oa, none⟩)) (h8 : t0.getD 8 undef = .pointer (some ⟨gb, ob, none⟩))
    (p q : Vd) (hp : YA = (vx p).toArray) (hq : YB = (vx q).toArray) (hb : (!decide (p = q)) = b) (lA : Lies wr ga (oa + 1) YA) (lB : Lies wr gb (ob + 36) YB)
    (hQ : ∀ w, Drew wr w → Q .normal ⟨fold (opsAt Tryz.f15 13) (VUO ga oa gb ob YA YB b) t0 10, []⟩ w) : (Code.region 13 (opsAt Tryz.f15 13) true).wpIn (Fence.wide.inRound l) nn Tryz.prog Q ⟨t0, []⟩ wr := by
  have hB : dstB (opsAt Tryz.f15 13) t0.size = true := by rw [ht]; exact dstUO
  have sA : YA.size = 35 := by rw [hp]; simp [vx_len]
  have sB : YB.size = 35 := by rw [hq]; simp [vx_len]
  have h0M : Drew wr wr.drew := ⟨1, rfl⟩
  refine inv_regionIn (by kernel_rfl) (IV (opsAt Tryz.f15 13) (VUO ga oa gb ob YA YB b) t0 (fun _ w => Drew wr w)) backUO ⟨t0, rfl, ⟨rfl, fun _ _ => rfl, fun _ _ _ _ _ h => by cases h⟩, h0M⟩ ?_ ?_
  rotate_left 1
  · rintro done a w ⟨t, rfl, hS, hw⟩ hall
    rw [hS.end hB hall, sizeUO]
    exact hQ w hw
  · rintro jz op done a w ho ⟨t, rfl, hS, hw⟩ hnd hdep hcl
    have e7 : t[7]?.getD undef = .pointer (some ⟨ga, oa, none⟩) := (hS.old freeUO7).trans h7
    have e8 : t[8]?.getD undef = .pointer (some ⟨gb, ob, none⟩) := (hS.old freeUO8).trans h8
    have hlt : jz < 10 := by rw [← sizeUO]; exact (Array.getElem?_eq_some_iff.1 ho).1
    match jz, hlt, ho, hnd, hdep with
    | 0, _, ho, hnd, hdep =>
      obtain ⟨hd, hop, hgd⟩ := say_of sUO_0 ho
      refine iv_valI (fun _ => trivial) hB ho (wanted_none hgd) hd hS (by intro c; rw [hop]; intro h; cases h) hw ?_
      unfold execOp
      simp only [hop]
      simp [e7, VUO, go_sem]
    | 1, _, ho, hnd, hdep =>
      obtain ⟨hd, hop, hgd⟩ := say_of sUO_1 ho
      have x51 : t[51]?.getD undef = _ := hS.at dUO_0 (waits (j := 0) (by kernel_rfl) ho hdep)
      simp only [VUO] at x51
      refine iv_valI (fun _ => trivial) hB ho (wanted_none hgd) hd hS (by intro c; rw [hop]; intro h; cases h) hw ?_
      unfold execOp
      simp only [hop]
      simp [x51, VUO, go_sem]
    | 2, _, ho, hnd, hdep =>
      obtain ⟨hd, hop, hgd⟩ := say_of sUO_2 ho
      have x52 : t[52]?.getD undef = _ := hS.at dUO_1 (waits (j := 1) (by kernel_rfl) ho hdep)
      simp only [VUO] at x52
      refine iv_valI (fun _ => trivial) hB ho (wanted_none hgd) hd hS (by intro c; rw [hop]; intro h; cases h) hw ?_
      unfold execOp
      simp only [hop]
      simp [x52, VUO, go_sem]
    | 3, _, ho, hnd, hdep =>
      obtain ⟨hd, hop, hgd⟩ := say_of sUO_3 ho
      have x53 : t[53]?.getD undef = _ := hS.at dUO_2 (waits (j := 2) (by kernel_rfl) ho hdep)
      simp only [VUO] at x53
      refine iv_valI (fun _ => trivial) hB ho (wanted_none hgd) hd hS (by intro c; rw [hop]; intro h; cases h) hw ?_
      exact exec_load53 (a := ⟨t, []⟩) _ hop ga (oa + 1) (by show t.getD 53 undef = _; rw [Array.getD_eq_getD_getElem?]; exact x53) YA sA (lA.drew hw)
    | 4, _, ho, hnd, hdep =>
      obtain ⟨hd, hop, hgd⟩ := say_of sUO_4 ho
      refine iv_valI (fun _ => trivial) hB ho (wanted_none hgd) hd hS (by intro c; rw [hop]; intro h; cases h) hw ?_
      unfold execOp
      simp only [hop]
      simp [e8, VUO, go_sem]
    | 5, _, ho, hnd, hdep =>
      obtain ⟨hd, hop, hgd⟩ := say_of sUO_5 ho
      have x55 : t[55]?.getD undef = _ := hS.at dUO_4 (waits (j := 4) (by kernel_rfl) ho hdep)
      simp only [VUO] at x55
      refine iv_valI (fun _ => trivial) hB ho (wanted_none hgd) hd hS (by intro c; rw [hop]; intro h; cases h) hw ?_
      unfold execOp
      simp only [hop]
      simp [x55, VUO, go_sem]
    | 6, _, ho, hnd, hdep =>
      obtain ⟨hd, hop, hgd⟩ := say_of sUO_6 ho
      have x56 : t[56]?.getD undef = _ := hS.at dUO_5 (waits (j := 5) (by kernel_rfl) ho hdep)
      simp only [VUO] at x56
      refine iv_valI (fun _ => trivial) hB ho (wanted_none hgd) hd hS (by intro c; rw [hop]; intro h; cases h) hw ?_
      unfold execOp
      simp only [hop]
      simp [x56, VUO, go_sem]
    | 7, _, ho, hnd, hdep =>
      obtain ⟨hd, hop, hgd⟩ := say_of sUO_7 ho
      have x57 : t[57]?.getD undef = _ := hS.at dUO_6 (waits (j := 6) (by kernel_rfl) ho hdep)
      simp only [VUO] at x57
      refine iv_valI (fun _ => trivial) hB ho (wanted_none hgd) hd hS (by intro c; rw [hop]; intro h; cases h) hw ?_
      exact exec_load53 (a := ⟨t, []⟩) _ hop gb (ob + 36) (by show t.getD 57 undef = _; rw [Array.getD_eq_getD_getElem?]; exact x57) YB sB (lB.drew hw)
    | 8, _, ho, hnd, hdep =>
      obtain ⟨hd, hop, hgd⟩ := say_of sUO_8 ho
      have x54 : t[54]?.getD undef = _ := hS.at dUO_3 (waits (j := 3) (by kernel_rfl) ho hdep)
      simp only [VUO] at x54
      have x58 : t[58]?.getD undef = _ := hS.at dUO_7 (waits (j := 7) (by kernel_rfl) ho hdep)
      simp only [VUO] at x58
      refine iv_valI (fun _ => trivial) hB ho (wanted_none hgd) hd hS (by intro c; rw [hop]; intro h; cases h) hw ?_
      exact exec_neq53' (a := ⟨t, []⟩) _ _ hop YA YB (by show t.getD 54 undef = _; rw [Array.getD_eq_getD_getElem?]; exact x54) (by show t.getD 58 undef = _; rw [Array.getD_eq_getD_getElem?]; exact x58) p q hp hq _ hb _
    | 9, _, ho, hnd, hdep =>
      obtain ⟨hd, hop, hgd⟩ := say_of sUO_9 ho
      have x59 : t[59]?.getD undef = _ := hS.at dUO_8 (waits (j := 8) (by kernel_rfl) ho hdep)
      simp only [VUO] at x59
      refine iv_valI (fun _ => trivial) hB ho (wanted_none hgd) hd hS (by intro c; rw [hop]; intro h; cases h) hw ?_
      unfold execOp
      simp only [hop]
      simp [x59, VUO, go_sem]
theorem foldUO (ga oa gb ob : Nat) (YA YB : Array Value) (b : Bool) (t0 : Array Value) : fold (opsAt Tryz.f15 13) (VUO ga oa gb ob YA YB b) t0 10 = ((((((((((t0.setIfInBounds 51 (.pointer (some ⟨ga, oa, none⟩))).setIfInBounds 52 (.pointer (some ⟨ga, oa, none⟩))).setIfInBounds 53 (.pointer (some ⟨ga, oa + 1, none⟩))).setIfInBounds 54 (.agg YA)).setIfInBounds 55 (.pointer (some ⟨gb, ob, none⟩))).setIfInBounds 56 (.pointer (some ⟨gb, ob, none⟩))).setIfInBounds 57 (.pointer (some ⟨gb, ob + 36, none⟩))).setIfInBounds 58 (.agg YB)).setIfInBounds 59 (.bool b)).setIfInBounds 50 (.bool b)) := by kernel_rfl
theorem backUP : backB (opsAt Tryz.f15 14) = true := by kernel_rfl
theorem dstUP : dstB (opsAt Tryz.f15 14) 77 = true := by kernel_rfl
theorem sizeUP : (opsAt Tryz.f15 14).size = 17 := by kernel_rfl
theorem freeUP6 : freeB (opsAt Tryz.f15 14) 6 = true := by kernel_rfl
theorem freeUP7 : freeB (opsAt Tryz.f15 14) 7 = true := by kernel_rfl
theorem freeUP8 : freeB (opsAt Tryz.f15 14) 8 = true := by kernel_rfl
def VUP (ga oa gb ob B : Nat) (v v2 : Value) (p : ByteArray) (YO YN Z : Array Value) : Nat → Value
  | 0 => v
  | 1 => .pointer (some ⟨ga, oa, none⟩)
  | 2 => .pointer (some ⟨ga, oa, none⟩)
  | 3 => .pointer (some ⟨ga, oa, none⟩)
  | 4 => .string p
  | 5 => .pointer (some ⟨ga, oa, none⟩)
  | 6 => .pointer (some ⟨ga, oa, none⟩)
  | 7 => .pointer (some ⟨ga, oa + 1, none⟩)
  | 8 => .agg YO
  | 9 => .pointer (some ⟨gb, ob, none⟩)
  | 10 => .pointer (some ⟨gb, ob, none⟩)
  | 11 => .pointer (some ⟨gb, ob + 36, none⟩)
  | 12 => .agg YN
  | 13 => .agg Z
  | 14 => .slice (some ⟨B, 0, none⟩) 1 1
  | 15 => v2
  | 16 => undef
  | _ => undef
theorem sUP_0 : say (opsAt Tryz.f15 14) 0 = some (some 60, .load 22 (.tmp 6), none) := by kernel_rfl
theorem dUP_0 : slotB (opsAt Tryz.f15 14) 0 = some 60 := by kernel_rfl
theorem sUP_1 : say (opsAt Tryz.f15 14) 1 = some (some 61, .move (.tmp 7), none) := by kernel_rfl
theorem dUP_1 : slotB (opsAt Tryz.f15 14) 1 = some 61 := by kernel_rfl
theorem sUP_2 : say (opsAt Tryz.f15 14) 2 = some (some 62, .nilCheck (.tmp 61), none) := by kernel_rfl
theorem dUP_2 : slotB (opsAt Tryz.f15 14) 2 = some 62 := by kernel_rfl
theorem sUP_3 : say (opsAt Tryz.f15 14) 3 = some (some 63, .fieldAddr 55 (.tmp 62) 0, none) := by kernel_rfl
theorem dUP_3 : slotB (opsAt Tryz.f15 14) 3 = some 63 := by kernel_rfl
theorem sUP_4 : say (opsAt Tryz.f15 14) 4 = some (some 64, .load 9 (.tmp 63), none) := by kernel_rfl
theorem dUP_4 : slotB (opsAt Tryz.f15 14) 4 = some 64 := by kernel_rfl
theorem sUP_5 : say (opsAt Tryz.f15 14) 5 = some (some 65, .move (.tmp 7), none) := by kernel_rfl
theorem dUP_5 : slotB (opsAt Tryz.f15 14) 5 = some 65 := by kernel_rfl
theorem sUP_6 : say (opsAt Tryz.f15 14) 6 = some (some 66, .nilCheck (.tmp 65), none) := by kernel_rfl
theorem dUP_6 : slotB (opsAt Tryz.f15 14) 6 = some 66 := by kernel_rfl
theorem sUP_7 : say (opsAt Tryz.f15 14) 7 = some (some 67, .fieldAddr 55 (.tmp 66) 1, none) := by kernel_rfl
theorem dUP_7 : slotB (opsAt Tryz.f15 14) 7 = some 67 := by kernel_rfl
theorem sUP_8 : say (opsAt Tryz.f15 14) 8 = some (some 68, .load 53 (.tmp 67), none) := by kernel_rfl
theorem dUP_8 : slotB (opsAt Tryz.f15 14) 8 = some 68 := by kernel_rfl
theorem sUP_9 : say (opsAt Tryz.f15 14) 9 = some (some 69, .move (.tmp 8), none) := by kernel_rfl
theorem dUP_9 : slotB (opsAt Tryz.f15 14) 9 = some 69 := by kernel_rfl
theorem sUP_10 : say (opsAt Tryz.f15 14) 10 = some (some 70, .nilCheck (.tmp 69), none) := by kernel_rfl
theorem dUP_10 : slotB (opsAt Tryz.f15 14) 10 = some 70 := by kernel_rfl
theorem sUP_11 : say (opsAt Tryz.f15 14) 11 = some (some 71, .fieldAddr 55 (.tmp 70) 2, none) := by kernel_rfl
theorem dUP_11 : slotB (opsAt Tryz.f15 14) 11 = some 71 := by kernel_rfl
theorem sUP_12 : say (opsAt Tryz.f15 14) 12 = some (some 72, .load 53 (.tmp 71), none) := by kernel_rfl
theorem dUP_12 : slotB (opsAt Tryz.f15 14) 12 = some 72 := by kernel_rfl
theorem sUP_13 : say (opsAt Tryz.f15 14) 13 = some (some 73, .build 55 #[(0, .tmp 64), (1, .tmp 68), (2, .tmp 72)], none) := by kernel_rfl
theorem dUP_13 : slotB (opsAt Tryz.f15 14) 13 = some 73 := by kernel_rfl
theorem sUP_14 : say (opsAt Tryz.f15 14) 14 = some (some 74, .buildSlice 22 1 #[(0, .tmp 73)], none) := by kernel_rfl
theorem dUP_14 : slotB (opsAt Tryz.f15 14) 14 = some 74 := by kernel_rfl
theorem sUP_15 : say (opsAt Tryz.f15 14) 15 = some (some 75, .call { callee := .builtin .append, args := #[.tmp 60, .tmp 74], argTypes := #[22, 22] }, none) := by kernel_rfl
theorem dUP_15 : slotB (opsAt Tryz.f15 14) 15 = some 75 := by kernel_rfl
theorem sUP_16 : say (opsAt Tryz.f15 14) 16 = some (none, .store 22 (.tmp 6) (.tmp 75), none) := by kernel_rfl
set_option maxHeartbeats 4000000 in
set_option maxRecDepth 100000 in
theorem regUP (ga oa gb ob B : Nat) (v v2 : Value) (p : ByteArray) (YO YN Z : Array Value) (l nn T6 : Nat) (wB wC wD : World) (t0 : Array Value) (wr : World) {Q : Exit → Act → World → Prop} (ht : t0.size = 77) (h6 : t0.getD 6 undef = .pointer (some ⟨T6, 0, none⟩)) (h7 : t0.getD 7 undef = .pointer (some ⟨ga, oa, none⟩)) (h8 : t0.getD 8 undef = .pointer (some ⟨gb, ob, none⟩))
    (c0 : wr.drew.cell? ⟨T6, 0, none⟩ = some v) (cP : wr.drew.cell? ⟨ga, oa, none⟩ = some (.string p)) (lO : Lies wr.drew ga (oa + 1) YO) (lN : Lies wr.drew gb (ob + 36) YN) (sO : YO.size = 35) (sN : YN.size = 35) (hZ : ∀ {o : Oper} {a : Act} (x y z : Operand), o.op = .build 55 #[(0, x), (1, y), (2, z)] → a.eval x = .string p → a.eval y = .agg YO → a.eval z = .agg YN → ∀ w, (execOp a.eval o).run Tryz.prog w = .ok (.value (.agg Z)) w) (sZ : Z.size = 71) (hwB : wr.drew.alloc (.cells Z 55) = wB) (hB0 : wr.drew.heap.size = B) (cB : wB.cell? ⟨T6, 0, none⟩ = some v) (hA : (Builtin.append_ #[22, 22] 22 #[v, .slice (some ⟨B, 0, none⟩) 1 1]).run Tryz.prog wB = .ok v2 wC) (hv2 : ∃ p a b, v2 = .slice p a b) (cC : wC.cell? ⟨T6, 0, none⟩ = some v) (fC : wC.frozen? ⟨T6, 0, none⟩ = false) (hwD : wC.setCell ⟨T6, 0, none⟩ v2 = wD)
    (hQ : Q .normal ⟨fold (opsAt Tryz.f15 14) (VUP ga oa gb ob B v v2 p YO YN Z) t0 17, []⟩ wD) : (Code.region 14 (opsAt Tryz.f15 14) true).wpIn (Fence.wide.inRound l) nn Tryz.prog Q ⟨t0, []⟩ wr := by
  have hB : dstB (opsAt Tryz.f15 14) t0.size = true := by rw [ht]; exact dstUP
  refine inv_regionIn (by kernel_rfl) (IV (opsAt Tryz.f15 14) (VUP ga oa gb ob B v v2 p YO YN Z) t0 (fun done w => w = (if done 16 = true then wD else (if done 15 = true then wC else (if done 14 = true then wB else wr.drew))))) backUP ⟨t0, rfl, ⟨rfl, fun _ _ => rfl, fun _ _ _ _ _ h => by cases h⟩, by simp⟩ ?_ ?_
  rotate_left 1
  · rintro done a w ⟨t, rfl, hS, hw⟩ hall
    rw [hS.end hB hall, sizeUP]
    rw [hall 16 (by rw [sizeUP]; decide), if_pos rfl] at hw
    rw [hw]
    exact hQ
  · rintro jz op done a w ho ⟨t, rfl, hS, hw⟩ hnd hdep hcl
    have e6 : t[6]?.getD undef = .pointer (some ⟨T6, 0, none⟩) := (hS.old freeUP6).trans h6
    have e7 : t[7]?.getD undef = .pointer (some ⟨ga, oa, none⟩) := (hS.old freeUP7).trans h7
    have e8 : t[8]?.getD undef = .pointer (some ⟨gb, ob, none⟩) := (hS.old freeUP8).trans h8
    have hlt : jz < 17 := by rw [← sizeUP]; exact (Array.getElem?_eq_some_iff.1 ho).1
    match jz, hlt, ho, hnd, hdep with
    | 0, _, ho, hnd, hdep =>
      obtain ⟨hd, hop, hgd⟩ := say_of sUP_0 ho
      have ny15 : done 15 = false := not_yet (k := 0) (j := 15) (by kernel_rfl) hcl hnd
      have ny16 : done 16 = false := not_yet (k := 15) (j := 16) (by kernel_rfl) hcl ny15
      refine iv_valI (fun _ => trivial) hB ho (wanted_none hgd) hd hS (by intro c; rw [hop]; intro h; cases h) (by simpa [upd] using hw) ?_
      have c6 : w.cell? ⟨T6, 0, none⟩ = some v := by rw [hw]; by_cases h4 : done 14 = true <;> simp [h4, ny15, ny16, c0, cB]
      unfold execOp
      simp only [hop]
      simp [e6, c6, VUP, go_sem]
    | 1, _, ho, hnd, hdep =>
      obtain ⟨hd, hop, hgd⟩ := say_of sUP_1 ho
      refine iv_valI (fun _ => trivial) hB ho (wanted_none hgd) hd hS (by intro c; rw [hop]; intro h; cases h) (by simpa [upd] using hw) ?_
      unfold execOp
      simp only [hop]
      simp [e7, VUP, go_sem]
    | 2, _, ho, hnd, hdep =>
      obtain ⟨hd, hop, hgd⟩ := say_of sUP_2 ho
      have x61 : t[61]?.getD undef = _ := hS.at dUP_1 (waits (j := 1) (by kernel_rfl) ho hdep)
      simp only [VUP] at x61
      refine iv_valI (fun _ => trivial) hB ho (wanted_none hgd) hd hS (by intro c; rw [hop]; intro h; cases h) (by simpa [upd] using hw) ?_
      unfold execOp
      simp only [hop]
      simp [x61, VUP, go_sem]
    | 3, _, ho, hnd, hdep =>
      obtain ⟨hd, hop, hgd⟩ := say_of sUP_3 ho
      have x62 : t[62]?.getD undef = _ := hS.at dUP_2 (waits (j := 2) (by kernel_rfl) ho hdep)
      simp only [VUP] at x62
      refine iv_valI (fun _ => trivial) hB ho (wanted_none hgd) hd hS (by intro c; rw [hop]; intro h; cases h) (by simpa [upd] using hw) ?_
      unfold execOp
      simp only [hop]
      simp [x62, VUP, go_sem]
    | 4, _, ho, hnd, hdep =>
      obtain ⟨hd, hop, hgd⟩ := say_of sUP_4 ho
      have x63 : t[63]?.getD undef = _ := hS.at dUP_3 (waits (j := 3) (by kernel_rfl) ho hdep)
      simp only [VUP] at x63
      have ny13 : done 13 = false := not_yet (k := 4) (j := 13) (by kernel_rfl) hcl hnd
      have ny14 : done 14 = false := not_yet (k := 13) (j := 14) (by kernel_rfl) hcl ny13
      have ny15 : done 15 = false := not_yet (k := 14) (j := 15) (by kernel_rfl) hcl ny14
      have ny16 : done 16 = false := not_yet (k := 15) (j := 16) (by kernel_rfl) hcl ny15
      have hw0 : w = wr.drew := by rw [hw]; simp [ny14, ny15, ny16]
      refine iv_valI (fun _ => trivial) hB ho (wanted_none hgd) hd hS (by intro c; rw [hop]; intro h; cases h) (by simpa [upd] using hw) ?_
      subst hw0
      unfold execOp
      simp only [hop]
      simp [x63, cP, VUP, go_sem]
    | 5, _, ho, hnd, hdep =>
      obtain ⟨hd, hop, hgd⟩ := say_of sUP_5 ho
      refine iv_valI (fun _ => trivial) hB ho (wanted_none hgd) hd hS (by intro c; rw [hop]; intro h; cases h) (by simpa [upd] using hw) ?_
      unfold execOp
      simp only [hop]
      simp [e7, VUP, go_sem]
    | 6, _, ho, hnd, hdep =>
      obtain ⟨hd, hop, hgd⟩ := say_of sUP_6 ho
      have x65 : t[65]?.getD undef = _ := hS.at dUP_5 (waits (j := 5) (by kernel_rfl) ho hdep)
      simp only [VUP] at x65
      refine iv_valI (fun _ => trivial) hB ho (wanted_none hgd) hd hS (by intro c; rw [hop]; intro h; cases h) (by simpa [upd] using hw) ?_
      unfold execOp
      simp only [hop]
      simp [x65, VUP, go_sem]
    | 7, _, ho, hnd, hdep =>
      obtain ⟨hd, hop, hgd⟩ := say_of sUP_7 ho
      have x66 : t[66]?.getD undef = _ := hS.at dUP_6 (waits (j := 6) (by kernel_rfl) ho hdep)
      simp only [VUP] at x66
      refine iv_valI (fun _ => trivial) hB ho (wanted_none hgd) hd hS (by intro c; rw [hop]; intro h; cases h) (by simpa [upd] using hw) ?_
      unfold execOp
      simp only [hop]
      simp [x66, VUP, go_sem]
    | 8, _, ho, hnd, hdep =>
      obtain ⟨hd, hop, hgd⟩ := say_of sUP_8 ho
      have x67 : t[67]?.getD undef = _ := hS.at dUP_7 (waits (j := 7) (by kernel_rfl) ho hdep)
      simp only [VUP] at x67
      have ny13 : done 13 = false := not_yet (k := 8) (j := 13) (by kernel_rfl) hcl hnd
      have ny14 : done 14 = false := not_yet (k := 13) (j := 14) (by kernel_rfl) hcl ny13
      have ny15 : done 15 = false := not_yet (k := 14) (j := 15) (by kernel_rfl) hcl ny14
      have ny16 : done 16 = false := not_yet (k := 15) (j := 16) (by kernel_rfl) hcl ny15
      have hw0 : w = wr.drew := by rw [hw]; simp [ny14, ny15, ny16]
      refine iv_valI (fun _ => trivial) hB ho (wanted_none hgd) hd hS (by intro c; rw [hop]; intro h; cases h) (by simpa [upd] using hw) ?_
      exact exec_load53 (a := ⟨t, []⟩) _ hop ga (oa + 1) (by show t.getD 67 undef = _; rw [Array.getD_eq_getD_getElem?]; exact x67) YO sO (by rw [hw0]; exact lO)
    | 9, _, ho, hnd, hdep =>
      obtain ⟨hd, hop, hgd⟩ := say_of sUP_9 ho
      refine iv_valI (fun _ => trivial) hB ho (wanted_none hgd) hd hS (by intro c; rw [hop]; intro h; cases h) (by simpa [upd] using hw) ?_
      unfold execOp
      simp only [hop]
      simp [e8, VUP, go_sem]
    | 10, _, ho, hnd, hdep =>
      obtain ⟨hd, hop, hgd⟩ := say_of sUP_10 ho
      have x69 : t[69]?.getD undef = _ := hS.at dUP_9 (waits (j := 9) (by kernel_rfl) ho hdep)
      simp only [VUP] at x69
      refine iv_valI (fun _ => trivial) hB ho (wanted_none hgd) hd hS (by intro c; rw [hop]; intro h; cases h) (by simpa [upd] using hw) ?_
      unfold execOp
      simp only [hop]
      simp [x69, VUP, go_sem]
    | 11, _, ho, hnd, hdep =>
      obtain ⟨hd, hop, hgd⟩ := say_of sUP_11 ho
      have x70 : t[70]?.getD undef = _ := hS.at dUP_10 (waits (j := 10) (by kernel_rfl) ho hdep)
      simp only [VUP] at x70
      refine iv_valI (fun _ => trivial) hB ho (wanted_none hgd) hd hS (by intro c; rw [hop]; intro h; cases h) (by simpa [upd] using hw) ?_
      unfold execOp
      simp only [hop]
      simp [x70, VUP, go_sem]
    | 12, _, ho, hnd, hdep =>
      obtain ⟨hd, hop, hgd⟩ := say_of sUP_12 ho
      have x71 : t[71]?.getD undef = _ := hS.at dUP_11 (waits (j := 11) (by kernel_rfl) ho hdep)
      simp only [VUP] at x71
      have ny13 : done 13 = false := not_yet (k := 12) (j := 13) (by kernel_rfl) hcl hnd
      have ny14 : done 14 = false := not_yet (k := 13) (j := 14) (by kernel_rfl) hcl ny13
      have ny15 : done 15 = false := not_yet (k := 14) (j := 15) (by kernel_rfl) hcl ny14
      have ny16 : done 16 = false := not_yet (k := 15) (j := 16) (by kernel_rfl) hcl ny15
      have hw0 : w = wr.drew := by rw [hw]; simp [ny14, ny15, ny16]
      refine iv_valI (fun _ => trivial) hB ho (wanted_none hgd) hd hS (by intro c; rw [hop]; intro h; cases h) (by simpa [upd] using hw) ?_
      exact exec_load53 (a := ⟨t, []⟩) _ hop gb (ob + 36) (by show t.getD 71 undef = _; rw [Array.getD_eq_getD_getElem?]; exact x71) YN sN (by rw [hw0]; exact lN)
    | 13, _, ho, hnd, hdep =>
      obtain ⟨hd, hop, hgd⟩ := say_of sUP_13 ho
      have x64 : t[64]?.getD undef = _ := hS.at dUP_4 (waits (j := 4) (by kernel_rfl) ho hdep)
      simp only [VUP] at x64
      have x68 : t[68]?.getD undef = _ := hS.at dUP_8 (waits (j := 8) (by kernel_rfl) ho hdep)
      simp only [VUP] at x68
      have x72 : t[72]?.getD undef = _ := hS.at dUP_12 (waits (j := 12) (by kernel_rfl) ho hdep)
      simp only [VUP] at x72
      refine iv_valI (fun _ => trivial) hB ho (wanted_none hgd) hd hS (by intro c; rw [hop]; intro h; cases h) (by simpa [upd] using hw) ?_
      exact hZ (a := ⟨t, []⟩) _ _ _ hop (by show t.getD 64 undef = _; rw [Array.getD_eq_getD_getElem?]; exact x64) (by show t.getD 68 undef = _; rw [Array.getD_eq_getD_getElem?]; exact x68) (by show t.getD 72 undef = _; rw [Array.getD_eq_getD_getElem?]; exact x72) _
    | 14, _, ho, hnd, hdep =>
      obtain ⟨hd, hop, hgd⟩ := say_of sUP_14 ho
      have x73 : t[73]?.getD undef = _ := hS.at dUP_13 (waits (j := 13) (by kernel_rfl) ho hdep)
      simp only [VUP] at x73
      have ny15 : done 15 = false := not_yet (k := 14) (j := 15) (by kernel_rfl) hcl hnd
      have ny16 : done 16 = false := not_yet (k := 15) (j := 16) (by kernel_rfl) hcl ny15
      have hw0 : w = wr.drew := by rw [hw]; simp [hnd, ny15, ny16]
      subst hw0
      refine iv_valI (fun _ => trivial) (w' := wB) hB ho (wanted_none hgd) hd hS (by intro c; rw [hop]; intro h; cases h) (by simp [upd, ny15, ny16]) ?_
      rw [← hwB]
      exact exec_slice55 (a := ⟨t, []⟩) _ hop Z (by show t.getD 73 undef = _; rw [Array.getD_eq_getD_getElem?]; exact x73) sZ _ B hB0
    | 15, _, ho, hnd, hdep =>
      obtain ⟨hd, hop, hgd⟩ := say_of sUP_15 ho
      have x60 : t[60]?.getD undef = _ := hS.at dUP_0 (waits (j := 0) (by kernel_rfl) ho hdep)
      simp only [VUP] at x60
      have x74 : t[74]?.getD undef = _ := hS.at dUP_14 (waits (j := 14) (by kernel_rfl) ho hdep)
      simp only [VUP] at x74
      have ny16 : done 16 = false := not_yet (k := 15) (j := 16) (by kernel_rfl) hcl hnd
      have yes : done 14 = true := waits (j := 14) (by kernel_rfl) ho hdep
      have hw0 : w = wB := by rw [hw]; simp [hnd, ny16, yes]
      subst hw0
      refine iv_valI (fun _ => trivial) (w' := wC) hB ho (wanted_none hgd) hd hS (by intro c; rw [hop]; intro h; cases h) (by simp [upd, ny16]) ?_
      refine exec_app (a := ⟨t, []⟩) (v := v) (src := .slice (some ⟨B, 0, none⟩) 1 1) hop (by show t.getD 60 undef = _; rw [Array.getD_eq_getD_getElem?]; exact x60) (by show t.getD 74 undef = _; rw [Array.getD_eq_getD_getElem?]; exact x74) ?_
      rw [show op.type = 22 from by have := congrArg (·.map (·.type)) ho; simpa using this.symm.trans (show _ = some 22 from by kernel_rfl)]
      exact hA
    | 16, _, ho, hnd, hdep =>
      obtain ⟨hd, hop, hgd⟩ := say_of sUP_16 ho
      have x75 : t[75]?.getD undef = _ := hS.at dUP_15 (waits (j := 15) (by kernel_rfl) ho hdep)
      simp only [VUP] at x75
      have yes : done 15 = true := waits (j := 15) (by kernel_rfl) ho hdep
      have hw0 : w = wC := by rw [hw]; simp [hnd, yes]
      subst hw0
      refine iv_storeI (fun _ => trivial) (w' := wD) ho (wanted_none hgd) hd hS (by intro c; rw [hop]; intro h; cases h) (by simp [upd]) ?_
      obtain ⟨sp, sa, sb, rfl⟩ := hv2
      unfold execOp
      simp only [hop]
      simp [e6, x75, cC, fC, hwD, go_sem]
theorem foldUP (ga oa gb ob B : Nat) (v v2 : Value) (p : ByteArray) (YO YN Z : Array Value) (t0 : Array Value) : fold (opsAt Tryz.f15 14) (VUP ga oa gb ob B v v2 p YO YN Z) t0 17 = ((((((((((((((((t0.setIfInBounds 60 (v)).setIfInBounds 61 (.pointer (some ⟨ga, oa, none⟩))).setIfInBounds 62 (.pointer (some ⟨ga, oa, none⟩))).setIfInBounds 63 (.pointer (some ⟨ga, oa, none⟩))).setIfInBounds 64 (.string p)).setIfInBounds 65 (.pointer (some ⟨ga, oa, none⟩))).setIfInBounds 66 (.pointer (some ⟨ga, oa, none⟩))).setIfInBounds 67 (.pointer (some ⟨ga, oa + 1, none⟩))).setIfInBounds 68 (.agg YO)).setIfInBounds 69 (.pointer (some ⟨gb, ob, none⟩))).setIfInBounds 70 (.pointer (some ⟨gb, ob, none⟩))).setIfInBounds 71 (.pointer (some ⟨gb, ob + 36, none⟩))).setIfInBounds 72 (.agg YN)).setIfInBounds 73 (.agg Z)).setIfInBounds 74 (.slice (some ⟨B, 0, none⟩) 1 1)).setIfInBounds 75 (v2)) := by kernel_rfl

end Go.Proofs.YthioflehpifflaaGreatDoor
namespace Go.Proofs.YthioflehpifflaaGreatDoor
open Go.RowKit Bk
attribute [local go_sem] Oper.semAt_some

set_option maxRecDepth 100000 in
theorem sideF_any (a b f : Value) (w : World) (T : Nat) (hT : w.heap.size = T) (ha : ∃ p q r, a = .slice p q r) (hb : ∃ p q r, b = .slice p q r) (hf : f = .func (.func 53) #[] #[]) :
    Calls Tryz.prog 52 #[a, b, f] w fun e w' => e = .returned (.func (.func 77) #[] #[.pointer (some ⟨T, 0, none⟩), .pointer (some ⟨T + 1, 0, none⟩), .pointer (some ⟨T + 2, 0, none⟩)]) ∧ w' = ((w.alloc (.cells #[a] 22)).alloc (.cells #[b] 22)).alloc (.cells #[f] 74) := by
  have hmf : ∀ (fn : Fn) (first cap : Array Value) (w : World), (Instr.makeFunc fn first cap).run Tryz.prog w = .ok (.func fn first cap) w := fun _ _ _ _ => rfl
  obtain ⟨p, q, r, rfl⟩ := ha
  obtain ⟨p', q', r', rfl⟩ := hb
  subst hf
  go_enter Tryz.func52, Tryz.ntmps52
  go_wp2
  go_ret
  exact ⟨rfl, rfl⟩
theorem HasA.place {w : World} {ao : Option Addr} {n cp : Nat} {L : List Cd} (h : HasA w (.slice ao n cp) L) : ∃ g o, ∀ i x, L[i]? = some x → ao = some ⟨g, o, none⟩ ∧ g < w.heap.size ∧ Lies w g (o + i * 71) (cc x) := by
  rcases h with ⟨_, rfl⟩ | ⟨g, o, cap, e, _, h⟩
  · exact ⟨0, 0, fun i x hi => by simp at hi⟩
  · injection e with e1 _ _
    exact ⟨g, o, fun i x hi => ⟨e1, World.block_lt_of_cell? w ⟨g, o + i * 71, none⟩ (h i x hi).path, h i x hi⟩⟩
theorem row_mono {w : World} {lo lo' e s n : Nat} {v : Value} {xs : List Value} (h : w.ownsRow lo e s v n xs) (hl : lo' ≤ lo) : w.ownsRow lo' e s v n xs := by
  obtain ⟨h1, h | ⟨g, cap, cur, e, hg, r⟩⟩ := h
  · exact ⟨h1, .inl h⟩
  · exact ⟨h1, .inr ⟨g, cap, cur, e, Nat.le_trans hl hg, r⟩⟩
/-- what Then's loop holds -/
def ThI (A B : List Cd) (w : World) (B0 T6 lo : Nat) (pre : List (Pv A B)) (W : World) : Prop :=
  ((∃ v, Boxed W T6 22 v ∧ W.ownsRow lo 55 71 v (outs A B (pre.map (·.1))).length (rcs (outs A B (pre.map (·.1)))) ∧ True) ∧
    (wrong A B (pre.map (·.1)) = false ∧ lo ≤ W.heap.size ∧ W.cell? ⟨B0, 0, none⟩ = some (.slice none 0 0) ∧ W.frozen? ⟨B0, 0, none⟩ = false ∧ W.cell? ⟨B0 + 1, 0, none⟩ = some (.int .i64 0) ∧ W.frozen? ⟨B0 + 1, 0, none⟩ = false)) ∧ Below w.heap.size w W
def ThX (A B : List Cd) (w : World) (B0 : Nat) (c : Code) (pre : List (Pv A B)) (W : World) : Prop :=
  (c = .ret ∧ wrong A B (pre.map (·.1)) = true ∧ W.cell? ⟨B0, 0, none⟩ = some (.slice none 0 0) ∧ W.cell? ⟨B0 + 1, 0, none⟩ = some (.int .i64 131)) ∧ Below w.heap.size w W
theorem ThI.own (A B : List Cd) (w : World) (B0 T6 lo N : Nat) (h : w.heap.size ≤ N) : OwnFrom N (ThI A B w B0 T6 lo) :=
  OwnFrom.and (OwnFrom.and (Own.from (holdsRow_own lo T6 22 55 71 (fun pre : List (Pv A B) => (outs A B (pre.map (·.1))).length) (fun pre => rcs (outs A B (pre.map (·.1)))) (fun _ _ => True)) _)
    (Own.from (fun _ _ _ _ hs hg hr => ⟨hs.1, Nat.le_trans hs.2.1 hg.size, cell_kept hs.2.2.1 hg hr, (frozen_kept hs.2.2.1 hg hr).trans hs.2.2.2.1, cell_kept hs.2.2.2.2.1 hg hr, (frozen_kept hs.2.2.2.2.1 hg hr).trans hs.2.2.2.2.2⟩) _)) (ownFrom_below (Nat.le_refl _) h)
theorem ThX.own (A B : List Cd) (w : World) (B0 N : Nat) (h : w.heap.size ≤ N) (c : Code) : OwnFrom N (ThX A B w B0 c) :=
  OwnFrom.and (Own.from (fun _ _ _ _ hs hg hr => ⟨hs.1, hs.2.1, cell_kept hs.2.2.1 hg hr, cell_kept hs.2.2.2 hg hr⟩) _) (ownFrom_below (Nat.le_refl _) h)
theorem drew_keeps {W W' : World} (h : Drew W W') : KeepsOthers W W' := below_keeps h.below
theorem ThI.drew {A B : List Cd} {w : World} {B0 T6 lo : Nat} {pre : List (Pv A B)} {W W' : World} (h : ThI A B w B0 T6 lo pre W) (hd : Drew W W') : ThI A B w B0 T6 lo pre W' :=
  ThI.own A B w B0 T6 lo w.heap.size (Nat.le_refl _) pre W W' none h (drew_grown hd) (fun r e => by cases e)
set_option maxRecDepth 100000 in
/-- a change is laid behind what is joined so far -/
theorem ThI.app {A B : List Cd} {w : World} {B0 T6 lo Ba Bb Bf : Nat} {pre : List (Pv A B)} {W : World} (h : ThI A B w B0 T6 lo pre W) (x : Pv A B) (c : Cd) (hx : outP A B x.1 = [c]) (hbad : badP A B x.1 = false) (hlen : (outs A B (pre.map (·.1))).length ≤ 20000)
    (hB0 : w.heap.size = B0) (hT : B0 + 1 < T6) (hTl : T6 < lo) (hBa : Ba < lo ∧ Ba ≠ T6) (hBb : Bb < lo ∧ Bb ≠ T6) (hBf : Bf < lo ∧ Bf ≠ T6) :
    ∃ v v2 Bn wB wC wD, W.drew.cell? ⟨T6, 0, none⟩ = some v ∧ W.drew.alloc (.cells (cc c) 55) = wB ∧ W.drew.heap.size = Bn ∧ wB.cell? ⟨T6, 0, none⟩ = some v ∧ (Builtin.append_ #[22, 22] 22 #[v, .slice (some ⟨Bn, 0, none⟩) 1 1]).run Tryz.prog wB = .ok v2 wC ∧ (∃ p a b, v2 = .slice p a b) ∧ wC.cell? ⟨T6, 0, none⟩ = some v ∧ wC.frozen? ⟨T6, 0, none⟩ = false ∧ wC.setCell ⟨T6, 0, none⟩ v2 = wD ∧
      KeepsOthers W wD ∧ KeepD w.heap.size Ba Bb Bf W wD ∧ ThI A B w B0 T6 lo (pre ++ [x]) wD := by
  have hd : Drew W W.drew := ⟨1, rfl⟩
  obtain ⟨⟨⟨v, bx, ow, -⟩, hw, hlo, c4, f4, c5, f5⟩, hbel⟩ := h.drew hd
  have how : OwnsR W.drew lo v (outs A B (pre.map (·.1))) := ow
  obtain ⟨v2, wC, hr, ow2, gb, hblk, _⟩ := app_one 22 c _ rfl how hlo (by omega) _ rfl
  have hblk' : ∀ b, b < lo → wC.heap[b]? = W.drew.heap[b]? := fun b hb => hblk b (by omega) (fun e => by have := (World.ownsRow.lt ow b e).1; omega)
  have bxC : Boxed wC T6 22 v := (hblk' T6 hTl).trans bx
  have hsz : W.drew.heap.size ≤ wC.heap.size := gb.size
  have hset : ∀ b, b ≠ T6 → (wC.setCell ⟨T6, 0, none⟩ v2).heap[b]? = wC.heap[b]? := fun b hb => Below.heap_setCell wC ⟨T6, 0, none⟩ v2 b hb
  have hcD : ∀ b, b < lo → b ≠ T6 → (wC.setCell ⟨T6, 0, none⟩ v2).heap[b]? = W.drew.heap[b]? := fun b h1 h2 => (hset b h2).trans (hblk' b h1)
  refine ⟨v, v2, _, _, wC, _, bx.cell, rfl, rfl, (bx.alloc _).cell, hr, (by obtain ⟨p, q, e⟩ := row_form ow2; exact ⟨p, _, q, e⟩), bxC.cell, bxC.frozen, rfl, ?_, ?_, ?_⟩
  · refine (drew_keeps hd).trans (KeepsOthers.trans (B := wC) ⟨hsz, fun k o hk ho => ?_⟩ (KeepsOthers.setCell _ _ _))
    refine (hblk k (Array.getElem?_eq_some_iff.1 hk).1 (fun e => ?_)).trans hk
    obtain ⟨_, q | ⟨g, cap, cur, e2, _, hh, _⟩⟩ := ow
    · rw [q.1] at e; cases e
    · rw [e2] at e
      cases e
      rw [hk] at hh
      cases hh
      cases ho
  · refine ⟨by simpa using hsz, fun b hb => ?_⟩
    rcases hb with hb | rfl | rfl | rfl
    · exact hcD b (by omega) (by omega)
    · exact hcD _ hBa.1 hBa.2
    · exact hcD _ hBb.1 hBb.2
    · exact hcD _ hBf.1 hBf.2
  · have hout : outs A B ((pre ++ [x]).map (·.1)) = outs A B (pre.map (·.1)) ++ [c] := by rw [List.map_append]; simp only [List.map_cons, List.map_nil]; rw [outs_snoc, hx]
    have hwr : wrong A B ((pre ++ [x]).map (·.1)) = false := by rw [List.map_append]; simp only [List.map_cons, List.map_nil]; rw [wrong_snoc, hw, hbad]; rfl
    have k4 := hcD B0 (by omega) (by omega)
    have k5 := hcD (B0 + 1) (by omega) (by omega)
    refine ⟨⟨⟨v2, bxC.set v2, ?_, trivial⟩, hwr, by simp; omega, (World.cell?_of_block k4).trans c4, (World.frozen?_of_block k4).trans f4, (World.cell?_of_block k5).trans c5, (World.frozen?_of_block k5).trans f5⟩, ?_⟩
    · rw [hout]
      exact Bk.rowB ow2 fun k hk => hset k (by have := (World.ownsRow.lt ow2 k hk).1; omega)
    · refine ⟨gb.os.trans hbel.os, gb.tape.trans hbel.tape, gb.output.trans hbel.output, by have := hbel.size; simp; omega, fun b hb => ?_⟩
      exact (hcD b (by omega) (by omega)).trans (hbel.block b hb)
theorem ThI.same {A B : List Cd} {w : World} {B0 T6 lo : Nat} {pre : List (Pv A B)} {W : World} (h : ThI A B w B0 T6 lo pre W) (x : Pv A B) (hx : outP A B x.1 = []) (hbad : badP A B x.1 = false) : ThI A B w B0 T6 lo (pre ++ [x]) W := by
  have hout : outs A B ((pre ++ [x]).map (·.1)) = outs A B (pre.map (·.1)) := by rw [List.map_append]; simp only [List.map_cons, List.map_nil]; rw [outs_snoc, hx, List.append_nil]
  have hwr : wrong A B ((pre ++ [x]).map (·.1)) = wrong A B (pre.map (·.1)) := by rw [List.map_append]; simp only [List.map_cons, List.map_nil]; rw [wrong_snoc, hbad, Bool.or_false]
  obtain ⟨⟨h1, h2⟩, h3⟩ := h
  exact ⟨⟨by rw [hout]; exact h1, by rw [hwr]; exact h2⟩, h3⟩
set_option maxRecDepth 100000 in
set_option maxHeartbeats 8000000 in
theorem then_any (ao bo : Option Addr) (cp cq : Nat) (A B : List Cd) (w : World) (ha : HasA w (.slice ao A.length cp) A) (hb : HasA w (.slice bo B.length cq) B) (hn : A.length ≤ 10000) (hm : B.length ≤ 10000) (hpa : ∀ c ∈ A, c.path.size ≤ 1048576) (hpb : ∀ c ∈ B, c.path.size ≤ 1048576) :
    Calls Tryz.prog 15 #[.slice ao A.length cp, .slice bo B.length cq] w fun e w' => ∃ v, e = .returned (.tuple #[v, .int .i64 (thenE A B)]) ∧ OwnsR w' w.heap.size v (thenR A B) ∧ Below w.heap.size w w' := by
  obtain ⟨n, hn'⟩ : ∃ n, A.length = n := ⟨_, rfl⟩
  obtain ⟨m, hm'⟩ : ∃ m, B.length = m := ⟨_, rfl⟩
  obtain ⟨B0, hB0⟩ : ∃ B0, w.heap.size = B0 := ⟨_, rfl⟩
  have HCA : Hid (∀ W, Below w.heap.size w W → Calls Tryz.prog 51 #[.slice ao A.length cp] W fun e w' => e = .returned (.bool (riseB none A)) ∧ Below W.heap.size W w') := fun W hW => rises_any ao cp A W (ha.below hW) (by omega) hpa
  have HCB : Hid (∀ W, Below w.heap.size w W → Calls Tryz.prog 51 #[.slice bo B.length cq] W fun e w' => e = .returned (.bool (riseB none B)) ∧ Below W.heap.size W w') := fun W hW => rises_any bo cq B W (hb.below hW) (by omega) hpb
  have HA := hid ha
  have HB := hid hb
  have HN := hid hn'
  have HM := hid hm'
  have HPA := hid hpa
  have HPB := hid hpb
  rw [hn'] at hn HA HCA ⊢
  rw [hm'] at hm HB HCB ⊢
  clear ha hb hn' hm' hpa hpb
  obtain ⟨w0, hw0⟩ : ∃ w0, (w.alloc (.cells #[.slice none 0 0] 22)).alloc (.cells #[.int .i64 0] 60) = w0 := ⟨_, rfl⟩
  have b4 : Boxed w0 B0 22 (.slice none 0 0) := by rw [← hw0, ← hB0]; exact (Boxed.new w 22 _).alloc _
  have b5 : Boxed w0 (B0 + 1) 60 (.int .i64 0) := by
    rw [← hw0, ← hB0]
    have := Boxed.new (w.alloc (.cells #[.slice none 0 0] 22)) 60 (.int .i64 0)
    rwa [World.size_alloc] at this
  have g0 : Below w.heap.size w w0 := by rw [← hw0]; exact ((Below.refl _ w).alloc (Nat.le_refl _) _).alloc (by simp) _
  have s0 : w0.heap.size = B0 + 2 := by rw [← hw0, ← hB0]; simp
  refine (callsIn_wide (n := 4)).1 ?_
  refine callsIn_of_wp_marks Tryz.func15 rfl trivial ?_ rfl
  simp only [Tryz.ntmps15, List.size_toArray, List.length_cons, List.length_nil, Nat.reduceAdd, Nat.reduceSub, Array.replicate_succ, Array.replicate_zero, List.push_toArray, List.append_toArray, List.nil_append, List.cons_append]
  cases hra : riseB none A with
  | false =>
    have HT : Hid (thenE A B = 130 ∧ thenR A B = []) := by
      have : thenE A B = 130 := by simp [thenE, hra]
      exact ⟨this, by simp [thenR, this]⟩
    rw [hra] at HCA
    gi_wp2_with (first
      | (refine ⟨trivial, ?_⟩; gi_at_call 51; refine (callsIn_wide.2 (HCA.out w0 g0)).mono ?_; rintro e w1 ⟨rfl, hb1⟩; have q4 := (hb1.cell (p := ⟨B0, 0, none⟩) (by show B0 < _; omega)).trans b4.cell; have q5 := (hb1.cell (p := ⟨B0 + 1, 0, none⟩) (by show B0 + 1 < _; omega)).trans b5.cell; have f4 := (hb1.frozen (p := ⟨B0, 0, none⟩) (by show B0 < _; omega)).trans b4.frozen; have f5 := (hb1.frozen (p := ⟨B0 + 1, 0, none⟩) (by show B0 + 1 < _; omega)).trans b5.frozen)
      | (refine ⟨trivial, ?_⟩))
    obtain ⟨t4, t5⟩ := two_set (v1 := .slice none 0 0) (v2 := .int .i64 130) q4 q5
    refine ⟨.tuple #[.slice none 0 0, .int .i64 130], ?_, .slice none 0 0, by rw [HT.out.1], by rw [HT.out.2]; exact OwnsR.nil _ _, ?_⟩
    · simp [results, Tryz.f15, go_sem, t4, t5]
    · exact ((Below.up g0 hb1).setCell (p := ⟨B0, 0, none⟩) (by show _ ≤ B0; omega) _).setCell (p := ⟨B0 + 1, 0, none⟩) (by show _ ≤ B0 + 1; omega) _
  | true =>
    rw [hra] at HCA
    cases hrb : riseB none B with
    | false =>
      have HT : Hid (thenE A B = 130 ∧ thenR A B = []) := by
        have : thenE A B = 130 := by simp [thenE, hrb]
        exact ⟨this, by simp [thenR, this]⟩
      rw [hrb] at HCB
      gi_wp2_with (first
        | (refine ⟨trivial, ?_⟩; gi_at_call 51; refine (callsIn_wide.2 (HCB.out w1 (Below.up g0 hb1))).mono ?_; rintro e w2 ⟨rfl, hb2⟩; have hb12 := Below.up hb1 hb2; have q4 := (hb12.cell (p := ⟨B0, 0, none⟩) (by show B0 < _; omega)).trans b4.cell; have q5 := (hb12.cell (p := ⟨B0 + 1, 0, none⟩) (by show B0 + 1 < _; omega)).trans b5.cell; have f4 := (hb12.frozen (p := ⟨B0, 0, none⟩) (by show B0 < _; omega)).trans b4.frozen; have f5 := (hb12.frozen (p := ⟨B0 + 1, 0, none⟩) (by show B0 + 1 < _; omega)).trans b5.frozen)
        | (refine ⟨trivial, ?_⟩; gi_at_call 51; refine (callsIn_wide.2 (HCA.out w0 g0)).mono ?_; rintro e w1 ⟨rfl, hb1⟩))
      obtain ⟨t4, t5⟩ := two_set (v1 := .slice none 0 0) (v2 := .int .i64 130) q4 q5
      refine ⟨.tuple #[.slice none 0 0, .int .i64 130], ?_, .slice none 0 0, by rw [HT.out.1], by rw [HT.out.2]; exact OwnsR.nil _ _, ?_⟩
      · simp [results, Tryz.f15, go_sem, t4, t5]
      · exact ((Below.up g0 hb12).setCell (p := ⟨B0, 0, none⟩) (by show _ ≤ B0; omega) _).setCell (p := ⟨B0 + 1, 0, none⟩) (by show _ ≤ B0 + 1; omega) _
    | true =>
      have HT : Hid (thenE A B = if wrong A B (mg A B 0 0) then 131 else 0) := by
        show thenE A B = _
        simp [thenE, hra, hrb]
      rw [hrb] at HCB
      gi_wp2_with (first
        | (refine ⟨trivial, ?_⟩; gi_at_call 52; refine (callsIn_wide.2 (sideF_any _ _ _ (w2.alloc (.cells #[.slice none 0 0] 22)) (T6 + 1) (by simp [hT6]) ⟨_, _, _, rfl⟩ ⟨_, _, _, rfl⟩ rfl)).mono ?_; rintro e w4 ⟨rfl, hw4⟩)
        | (refine ⟨trivial, ?_⟩; gi_at_call 51; refine (callsIn_wide.2 (HCB.out w1 (Below.up g0 hb1))).mono ?_; rintro e w2 ⟨rfl, hb2⟩; obtain ⟨T6, hT6⟩ : ∃ T6, w2.heap.size = T6 := ⟨_, rfl⟩)
        | (refine ⟨trivial, ?_⟩; gi_at_call 51; refine (callsIn_wide.2 (HCA.out w0 g0)).mono ?_; rintro e w1 ⟨rfl, hb1⟩))
      rw [← hw4]
      have hb12 := Below.up hb1 hb2
      have q4 := (hb12.cell (p := ⟨B0, 0, none⟩) (by show B0 < _; omega)).trans b4.cell
      have q5 := (hb12.cell (p := ⟨B0 + 1, 0, none⟩) (by show B0 + 1 < _; omega)).trans b5.cell
      have f4 := (hb12.frozen (p := ⟨B0, 0, none⟩) (by show B0 < _; omega)).trans b4.frozen
      have f5 := (hb12.frozen (p := ⟨B0 + 1, 0, none⟩) (by show B0 + 1 < _; omega)).trans b5.frozen
      have g2 : Below w.heap.size w w2 := Below.up g0 hb12
      have sz2 : B0 + 1 < T6 := by have := hb12.size; omega
      have bx6 : Boxed w4 T6 22 (.slice none 0 0) := by rw [hw4, ← hT6]; exact (((Boxed.new w2 22 _).alloc _).alloc _).alloc _
      have bxa : Boxed w4 (T6 + 1) 22 (.slice ao n cp) := by
        rw [hw4, ← hT6]
        have := ((Boxed.new (w2.alloc (.cells #[.slice none 0 0] 22)) 22 (.slice ao n cp)).alloc (.cells #[.slice bo m cq] 22)).alloc (.cells #[.func (.func 53) #[] #[]] 74)
        rwa [World.size_alloc] at this
      have bxb : Boxed w4 (T6 + 2) 22 (.slice bo m cq) := by
        rw [hw4, ← hT6]
        have := (Boxed.new ((w2.alloc (.cells #[.slice none 0 0] 22)).alloc (.cells #[.slice ao n cp] 22)) 22 (.slice bo m cq)).alloc (.cells #[.func (.func 53) #[] #[]] 74)
        rwa [World.size_alloc, World.size_alloc] at this
      have bxf : Boxed w4 (T6 + 3) 74 (.func (.func 53) #[] #[]) := by
        rw [hw4, ← hT6]
        have := Boxed.new (((w2.alloc (.cells #[.slice none 0 0] 22)).alloc (.cells #[.slice ao n cp] 22)).alloc (.cells #[.slice bo m cq] 22)) 74 (.func (.func 53) #[] #[])
        rwa [World.size_alloc, World.size_alloc, World.size_alloc] at this
      have s4 : w4.heap.size = T6 + 4 := by rw [hw4, ← hT6]; simp
      have g24 : Below w2.heap.size w2 w4 := by rw [hw4]; exact ((((Below.refl _ w2).alloc (Nat.le_refl _) _).alloc (by simp) _).alloc (by simp; omega) _).alloc (by simp; omega) _
      have g4 : Below w.heap.size w w4 := Below.up g2 g24
      have r4 := (g24.cell (p := ⟨B0, 0, none⟩) (by show B0 < _; omega)).trans q4
      have r5 := (g24.cell (p := ⟨B0 + 1, 0, none⟩) (by show B0 + 1 < _; omega)).trans q5
      have h4 := (g24.frozen (p := ⟨B0, 0, none⟩) (by show B0 < _; omega)).trans f4
      have h5 := (g24.frozen (p := ⟨B0 + 1, 0, none⟩) (by show B0 + 1 < _; omega)).trans f5
      obtain ⟨ga, oa, hpA⟩ := HA.out.place
      obtain ⟨gb, ob, hpB⟩ := HB.out.place
      have HPL := hid (And.intro hpA hpB)
      have HI0 : Hid (ThI A B w B0 T6 (T6 + 4) [] w4) := ⟨⟨⟨_, bx6, OwnsR.nil _ _, trivial⟩, rfl, by omega, r4, h4, r5, h5⟩, g4⟩
      have STOPS : SeqStopsK Fence.wide 3 Tryz.prog 77 #[.pointer (some ⟨T6 + 1, 0, none⟩), .pointer (some ⟨T6 + 2, 0, none⟩), .pointer (some ⟨T6 + 3, 0, none⟩)] (encP ga oa gb ob) (KeepD w.heap.size (T6 + 1) (T6 + 2) (T6 + 3)) (fun ys : List (Pv A B) => ys.map (·.1) = mg A B 0 0) (fun pre => pre.map (·.1) <+: mg A B 0 0) (A.length + B.length) w4 := fun l J Jx W hW hJ _ hY h0 => by
        have gW := Below.up g4 hW
        refine sides1_in 3 (by omega) l w.heap.size (T6 + 1) (T6 + 2) (T6 + 3) ga oa gb ob cp cq ao bo A B J Jx W hJ (fun i x hx => ⟨(hpA i x hx).1, (hpA i x hx).2.1, (hpA i x hx).2.2.below gW⟩) (fun i x hx => ⟨(hpB i x hx).1, (hpB i x hx).2.1, (hpB i x hx).2.2.below gW⟩) HPA.out HPB.out (by have := HN.out; omega) (by have := HM.out; omega) ?_ ?_ ?_ hY h0
        · rw [HN.out]; exact (hW.cell (p := ⟨T6 + 1, 0, none⟩) (by show T6 + 1 < _; omega)).trans bxa.cell
        · rw [HM.out]; exact (hW.cell (p := ⟨T6 + 2, 0, none⟩) (by show T6 + 2 < _; omega)).trans bxb.cell
        · exact (hW.cell (p := ⟨T6 + 3, 0, none⟩) (by show T6 + 3 < _; omega)).trans bxf.cell
      clear hpA hpB bx6 bxa bxb bxf r4 r5 h4 h5 q4 q5 f4 f5 b4 b5 hb1 hb2 hb12 g24 g2 hw4 hw0 HCA HCB g0 s0 hT6
      refine wpIn_rangeFunc_ownF rfl (by omega) (gf := 77) (lb := #[.pointer (some ⟨T6 + 1, 0, none⟩), .pointer (some ⟨T6 + 2, 0, none⟩), .pointer (some ⟨T6 + 3, 0, none⟩)]) rfl trivial (enters_of Tryz.func77 (by kernel_rfl) rfl)
        STOPS (fun h k => h.trans k) (fun X l o o' hl _ _ _ => ⟨by simp, fun b hb => World.putObj_heap_other (by omega)⟩) (Below.refl _ _) (fun _ => rfl)
        (ThI A B w B0 T6 (T6 + 4)) (ThX A B w B0) (ThI.own A B w B0 T6 (T6 + 4) _ (by omega)) (ThX.own A B w B0 _ (by omega)) HI0.out
        (fun x => { tmps := #[.slice ao n cp, .slice bo m cq, undef, undef, .pointer (some ⟨B0, 0, none⟩), .pointer (some ⟨B0 + 1, 0, none⟩), .pointer (some ⟨T6, 0, none⟩), ptP ga oa x.1.1, ptP gb ob x.1.2, .slice ao n cp, .bool true, .bool false, .bool false, .slice bo m cq, .bool true, .bool false, .bool false, .slice ao n cp, .slice bo m cq, .func (.func 77) #[] #[.pointer (some ⟨T6 + 1, 0, none⟩), .pointer (some ⟨T6 + 2, 0, none⟩), .pointer (some ⟨T6 + 3, 0, none⟩)], ptP ga oa x.1.1, ptP gb ob x.1.2, undef, undef, undef, undef, undef, undef, undef, undef, undef, undef, undef, undef, undef, undef, undef, undef, undef, undef, undef, undef, undef, undef, undef, undef, undef, undef, undef, undef, undef, undef, undef, undef, undef, undef, undef, undef, undef, undef, undef, undef, undef, undef, undef, undef, undef, undef, undef, undef, undef, undef, undef, undef, undef, undef, undef], defers := [] }) ?assign ?body ?done ?stop
      case assign =>
        intro l x W K hK
        simp only [encP]
        gi_wp2
        exact hK
      case body =>
        rintro l pre ⟨⟨p1, p2⟩, hok⟩ W hI hlen
        have gW := hI.2
        have hlen2 : (outs A B (pre.map (·.1))).length ≤ 20000 := by have := outs_len A B (pre.map (·.1)); rw [List.length_map] at this; have := HN.out; have := HM.out; omega
        cases p1 with
        | none =>
          cases p2 with
          | none => exact absurd rfl hok.2.2
          | some j =>
            have hk0 : j < B.length := hok.2.1 j rfl
            obtain ⟨y, hy⟩ : ∃ y, B[j]? = some y := ⟨B[j], by simp⟩
            obtain ⟨_, _, lv⟩ := HPL.out.2 j y hy
            obtain ⟨v, v2, Bn, wB, wC, wD, k1, k2, k3, k4, k5, k6, k7, k8, k9, K1, K2, K3⟩ := hI.app (Ba := T6 + 1) (Bb := T6 + 2) (Bf := T6 + 3) ⟨(none, some j), hok⟩ y (by simp only [outP]; rw [getD_of hy]) rfl hlen2 hB0 sz2 (by omega) ⟨by omega, by omega⟩ ⟨by omega, by omega⟩ ⟨by omega, by omega⟩
            have lz : Lies W.drew gb (ob + j * 71) (cc y) := (lv.below gW).drew ⟨1, rfl⟩
            have HK := hid (And.intro K1 (And.intro K2 K3))
            clear K1 K2 K3 lv hy
            simp only [ptP, Option.map_some, Option.map_none]
            gi_wp2
            refine regUY gb (ob + j * 71) Bn v v2 (cc y) l 2 T6 wB wC wD _ W rfl rfl rfl k1 lz (cc_size _) k2 k3 k4 k5 k6 k7 k8 k9 ?_
            exact ⟨HK.out.1, HK.out.2.1, HK.out.2.2⟩
        | some i =>
          cases p2 with
          | none =>
            have hk0 : i < A.length := hok.1 i rfl
            obtain ⟨x, hx⟩ : ∃ x, A[i]? = some x := ⟨A[i], by simp⟩
            obtain ⟨_, _, lv⟩ := HPL.out.1 i x hx
            obtain ⟨v, v2, Bn, wB, wC, wD, k1, k2, k3, k4, k5, k6, k7, k8, k9, K1, K2, K3⟩ := hI.app (Ba := T6 + 1) (Bb := T6 + 2) (Bf := T6 + 3) ⟨(some i, none), hok⟩ x (by simp only [outP]; rw [getD_of hx]) rfl hlen2 hB0 sz2 (by omega) ⟨by omega, by omega⟩ ⟨by omega, by omega⟩ ⟨by omega, by omega⟩
            have lz : Lies W.drew ga (oa + i * 71) (cc x) := (lv.below gW).drew ⟨1, rfl⟩
            have HK := hid (And.intro K1 (And.intro K2 K3))
            clear K1 K2 K3 lv hx
            simp only [ptP, Option.map_some, Option.map_none]
            gi_wp2
            refine regUX ga (oa + i * 71) Bn v v2 (cc x) l 2 T6 wB wC wD _ W rfl rfl rfl k1 lz (cc_size _) k2 k3 k4 k5 k6 k7 k8 k9 ?_
            exact ⟨HK.out.1, HK.out.2.1, HK.out.2.2⟩
          | some j =>
            have hi0 : i < A.length := hok.1 i rfl
            have hj0 : j < B.length := hok.2.1 j rfl
            obtain ⟨x, hx⟩ : ∃ x, A[i]? = some x := ⟨A[i], by simp⟩
            obtain ⟨y, hy⟩ : ∃ y, B[j]? = some y := ⟨B[j], by simp⟩
            obtain ⟨_, _, lx⟩ := HPL.out.1 i x hx
            obtain ⟨_, _, ly⟩ := HPL.out.2 j y hy
            have HLX := hid (lx.below gW)
            have HLY := hid (ly.below gW)
            have HOUT : Hid (outP A B (some i, some j) = if x.old = y.new then [] else [⟨x.path, x.old, y.new⟩]) := by show _ = _; simp only [outP]; rw [getD_of hx, getD_of hy]
            have HBAD : Hid (badP A B (some i, some j) = !decide (x.new = y.old)) := by show _ = _; simp only [badP]; rw [getD_of hx, getD_of hy]
            have HII := hid hI
            clear lx ly hx hy hI
            simp only [ptP, Option.map_some]
            by_cases hxy : x.new = y.old
            · gi_wp2
              refine regUN ga (oa + i * 71) gb (ob + j * 71) _ _ false l 2 _ W rfl rfl rfl x.new y.old rfl rfl (by simp [hxy]) HLX.out.new HLY.out.old fun wz hz => ?_
              rw [foldUN]
              generalize (vx x.new).toArray = YA
              generalize (vx y.old).toArray = YB
              go_simp
              by_cases hon : x.old = y.new
              · gi_wp2
                refine regUO ga (oa + i * 71) gb (ob + j * 71) _ _ false l 2 _ wz rfl rfl rfl x.old y.new rfl rfl (by simp [hon]) (HLX.out.old.drew hz) (HLY.out.new.drew hz) fun wy hy => ?_
                rw [foldUO]
                have hzy := hz.trans hy
                have HE := hid ((HII.out.drew hzy).same ⟨(some i, some j), hok⟩ (by rw [HOUT.out, if_pos hon]) (by rw [HBAD.out]; simp [hxy]))
                generalize (vx x.old).toArray = YC
                generalize (vx y.new).toArray = YD
                go_simp
                gi_wp2
                exact ⟨drew_keeps hzy, KeepD.drew hzy, HE.out⟩
              · gi_wp2
                refine regUO ga (oa + i * 71) gb (ob + j * 71) _ _ true l 2 _ wz rfl rfl rfl x.old y.new rfl rfl (by simp [hon]) (HLX.out.old.drew hz) (HLY.out.new.drew hz) fun wy hy => ?_
                rw [foldUO]
                have hzy := hz.trans hy
                obtain ⟨v, v2, Bn, wB, wC, wD, k1, k2, k3, k4, k5, k6, k7, k8, k9, K1, K2, K3⟩ := (HII.out.drew hzy).app (Ba := T6 + 1) (Bb := T6 + 2) (Bf := T6 + 3) ⟨(some i, some j), hok⟩ ⟨x.path, x.old, y.new⟩ (by rw [HOUT.out, if_neg hon]) (by rw [HBAD.out]; simp [hxy]) hlen2 hB0 sz2 (by omega) ⟨by omega, by omega⟩ ⟨by omega, by omega⟩ ⟨by omega, by omega⟩
                have HK := hid (And.intro ((drew_keeps hzy).trans K1) (And.intro ((KeepD.drew hzy).trans K2) K3))
                have lxd := hid ((HLX.out.drew hzy).drew ⟨1, rfl⟩ : Lies wy.drew ga (oa + i * 71) (cc x))
                have lyd := hid ((HLY.out.drew hzy).drew ⟨1, rfl⟩ : Lies wy.drew gb (ob + j * 71) (cc y))
                generalize (vx x.old).toArray = YC
                generalize (vx y.new).toArray = YD
                clear K1 K2 K3
                go_simp
                gi_wp2
                refine regUP ga (oa + i * 71) gb (ob + j * 71) Bn v v2 x.path (vx x.old).toArray (vx y.new).toArray (cc ⟨x.path, x.old, y.new⟩) l 2 T6 wB wC wD _ wy rfl rfl rfl rfl k1 lxd.out.path lxd.out.old lyd.out.new (by simp [vx_len]) (by simp [vx_len]) (fun p q r ho hp hq hr w => exec_build55 p q r ho x.path x.old y.new hp hq hr w) (cc_size _) k2 k3 k4 k5 k6 k7 k8 k9 ?_
                exact ⟨HK.out.1, HK.out.2.1, HK.out.2.2⟩
            · gi_wp2
              refine regUN ga (oa + i * 71) gb (ob + j * 71) _ _ true l 2 _ W rfl rfl rfl x.new y.old rfl rfl (by simp [hxy]) HLX.out.new HLY.out.old fun wz hz => ?_
              rw [foldUN]
              obtain ⟨⟨_, hw1, _, q4, f4, q5, f5⟩, gz⟩ := HII.out.drew hz
              have HW : Hid (wrong A B ((pre ++ [(⟨(some i, some j), hok⟩ : Pv A B)]).map (·.1)) = true) := by
                show _ = _
                rw [List.map_append]
                simp only [List.map_cons, List.map_nil]
                rw [wrong_snoc, HBAD.out]
                simp [hxy]
              have HGZ := hid gz
              generalize (vx x.new).toArray = YA
              generalize (vx y.old).toArray = YB
              go_simp
              gi_wp2
              obtain ⟨t4, t5⟩ := two_set (v1 := .slice none 0 0) (v2 := .int .i64 131) q4 q5
              exact ⟨((drew_keeps hz).trans (KeepsOthers.setCell _ _ _)).trans (KeepsOthers.setCell _ _ _), ⟨rfl, HW.out, t4, t5⟩, (HGZ.out.setCell (p := ⟨B0, 0, none⟩) (by show _ ≤ B0; omega) _).setCell (p := ⟨B0 + 1, 0, none⟩) (by show _ ≤ B0 + 1; omega) _⟩
      case done =>
        rintro D ys W hD hys ⟨⟨⟨v, bx, how, -⟩, hwr, hlo, c4, f4, c5, f5⟩, gW⟩ hK
        have c6 := bx.cell
        rw [hys] at hwr how
        have HT2 : Hid (thenE A B = 0 ∧ thenR A B = outs A B (mg A B 0 0)) := by
          have : thenE A B = 0 := by rw [HT.out, hwr]; rfl
          exact ⟨this, by rw [thenR, if_pos this]⟩
        obtain ⟨pv, qv, hv⟩ := row_form how
        subst hv
        obtain ⟨on, hon⟩ : ∃ on, (outs A B (mg A B 0 0)).length = on := ⟨_, rfl⟩
        rw [hon] at c6
        have HOW := hid how
        rw [hon] at HOW
        clear how hwr hys bx
        gi_wp2
        obtain ⟨t4, t5⟩ := two_set (v1 := .slice pv on qv) (v2 := .int .i64 0) c4 c5
        have k1 : ((W.setCell ⟨B0, 0, none⟩ (.slice pv on qv)).setCell ⟨B0 + 1, 0, none⟩ (.int .i64 0)).heap[D]? = some (.deferred (some [])) :=
          (KeepsOthers.setCell _ _ _).same D _ ((KeepsOthers.setCell _ _ _).same D _ hK rfl) rfl
        refine ⟨by simp, .inl ⟨_, _, rfl, run_takeDeferred k1, ?_⟩⟩
        have d4 := cell_kept t4 (grownBy_putObj' _ D (.deferred none)) (fun r e => by cases e; exact ⟨_, k1, rfl⟩)
        have d5 := cell_kept t5 (grownBy_putObj' _ D (.deferred none)) (fun r e => by cases e; exact ⟨_, k1, rfl⟩)
        have hB2 : Below w.heap.size w ((W.setCell ⟨B0, 0, none⟩ (.slice pv on qv)).setCell ⟨B0 + 1, 0, none⟩ (.int .i64 0)) := (gW.setCell (p := ⟨B0, 0, none⟩) (by show _ ≤ B0; omega) _).setCell (p := ⟨B0 + 1, 0, none⟩) (by show _ ≤ B0 + 1; omega) _
        refine ⟨.tuple #[.slice pv on qv, .int .i64 0], ?_, .slice pv on qv, by rw [HT2.out.1], ?_, (by have hz := hB2.trans (belowK_b (w := w) (Nat.le_refl _) _ D _ (.deferred none) (by omega) k1 rfl rfl); rw [hB0] at hz; exact hz)⟩
        · simp [results, Tryz.f15, go_sem, d4, d5]
        · rw [HT2.out.2]
          refine ownsRow_putObj ?_ _ k1 rfl
          rw [hon]
          have h1 : (W.setCell ⟨B0, 0, none⟩ (.slice pv on qv)).ownsRow (T6 + 4) 55 71 (.slice pv on qv) on (rcs (outs A B (mg A B 0 0))) := Bk.rowB HOW.out fun k hk => Below.heap_setCell W ⟨B0, 0, none⟩ _ k (by have := (World.ownsRow.lt HOW.out k hk).1; show k ≠ B0; omega)
          have h2 := Bk.rowB h1 (w' := (W.setCell ⟨B0, 0, none⟩ (.slice pv on qv)).setCell ⟨B0 + 1, 0, none⟩ (.int .i64 0)) fun k hk => Below.heap_setCell _ ⟨B0 + 1, 0, none⟩ _ k (by have := (World.ownsRow.lt h1 k hk).1; show k ≠ B0 + 1; omega)
          exact row_mono h2 (by omega)
      case stop =>
        rintro D c pre W hD hpre ⟨⟨rfl, hin, h4, h5⟩, gW⟩ hK
        have HT2 : Hid (thenE A B = 131 ∧ thenR A B = []) := by
          have hw : wrong A B (mg A B 0 0) = true := by
            unfold wrong at hin ⊢
            rw [List.any_eq_true] at hin ⊢
            obtain ⟨q, hq, hb⟩ := hin
            exact ⟨q, hpre.subset hq, hb⟩
          have : thenE A B = 131 := by rw [HT.out, hw]; rfl
          exact ⟨this, by simp [thenR, this]⟩
        clear hin hpre
        gi_wp2
        refine ⟨by simp, .inl ⟨_, _, rfl, run_takeDeferred hK, ?_⟩⟩
        have c4 := cell_kept h4 (grownBy_putObj' _ D (.deferred none)) (fun r e => by cases e; exact ⟨_, hK, rfl⟩)
        have c5 := cell_kept h5 (grownBy_putObj' _ D (.deferred none)) (fun r e => by cases e; exact ⟨_, hK, rfl⟩)
        refine ⟨.tuple #[.slice none 0 0, .int .i64 131], ?_, .slice none 0 0, by rw [HT2.out.1], by rw [HT2.out.2]; exact OwnsR.nil _ _, (by have hz := gW.trans (belowK_b (w := w) (Nat.le_refl _) W D _ (.deferred none) (by omega) hK rfl rfl); rw [hB0] at hz; exact hz)⟩
        simp [results, Tryz.f15, go_sem, c4, c5]
end Go.Proofs.YthioflehpifflaaGreatDoor
