/-
  diff.Turn (14), the reference's Turn (17) by contract.
-/
import Derived.Test.YthioflehpifflaaGreatDoorSame
namespace Go.Proofs.YthioflehpifflaaGreatDoor
open Go.RowKit

def turnC (c : Cd) : Cd := ⟨c.path, c.new, c.old⟩
theorem take_turn {L : List Cd} {k : Nat} {x : Cd} (h : L[k]? = some x) : (L.take (k + 1)).map turnC = (L.take k).map turnC ++ [turnC x] := by
  rw [List.take_add_one, h]; simp
theorem backT : backB (opsAt Tryz.f17 5) = true := by kernel_rfl
theorem dstT : dstB (opsAt Tryz.f17 5) 31 = true := by kernel_rfl
theorem sizeT : (opsAt Tryz.f17 5).size = 20 := by kernel_rfl
theorem freeT0 : freeB (opsAt Tryz.f17 5) 0 = true := by kernel_rfl
theorem freeT4 : freeB (opsAt Tryz.f17 5) 4 = true := by kernel_rfl
def VT (ga oa n cp k : Nat) (v v2 : Value) (B : Nat) (p : ByteArray) (YO YN Z : Array Value) : Nat → Value
  | 0 => v
  | 1 => .slice (some ⟨ga, oa, none⟩) n cp
  | 2 => .int .i64 (k : Int)
  | 3 => .pointer (some ⟨ga, oa + k * 71, none⟩)
  | 4 => .pointer (some ⟨ga, oa + k * 71, none⟩)
  | 5 => .string p
  | 6 => .slice (some ⟨ga, oa, none⟩) n cp
  | 7 => .int .i64 (k : Int)
  | 8 => .pointer (some ⟨ga, oa + k * 71, none⟩)
  | 9 => .pointer (some ⟨ga, oa + k * 71 + 36, none⟩)
  | 10 => .agg YN
  | 11 => .slice (some ⟨ga, oa, none⟩) n cp
  | 12 => .int .i64 (k : Int)
  | 13 => .pointer (some ⟨ga, oa + k * 71, none⟩)
  | 14 => .pointer (some ⟨ga, oa + k * 71 + 1, none⟩)
  | 15 => .agg YO
  | 16 => .agg Z
  | 17 => .slice (some ⟨B, 0, none⟩) 1 1
  | 18 => v2
  | 19 => v2
  | _ => undef
theorem sT_0 : say (opsAt Tryz.f17 5) 0 = some (some 11, .move (.tmp 3), none) := by kernel_rfl
theorem dT_0 : slotB (opsAt Tryz.f17 5) 0 = some 11 := by kernel_rfl
theorem sT_1 : say (opsAt Tryz.f17 5) 1 = some (some 12, .move (.tmp 0), none) := by kernel_rfl
theorem dT_1 : slotB (opsAt Tryz.f17 5) 1 = some 12 := by kernel_rfl
theorem sT_2 : say (opsAt Tryz.f17 5) 2 = some (some 13, .move (.tmp 4), none) := by kernel_rfl
theorem dT_2 : slotB (opsAt Tryz.f17 5) 2 = some 13 := by kernel_rfl
theorem sT_3 : say (opsAt Tryz.f17 5) 3 = some (some 14, .indexAddr 22 (.tmp 12) (.tmp 13), none) := by kernel_rfl
theorem dT_3 : slotB (opsAt Tryz.f17 5) 3 = some 14 := by kernel_rfl
theorem sT_4 : say (opsAt Tryz.f17 5) 4 = some (some 15, .fieldAddr 55 (.tmp 14) 0, none) := by kernel_rfl
theorem dT_4 : slotB (opsAt Tryz.f17 5) 4 = some 15 := by kernel_rfl
theorem sT_5 : say (opsAt Tryz.f17 5) 5 = some (some 16, .load 9 (.tmp 15), none) := by kernel_rfl
theorem dT_5 : slotB (opsAt Tryz.f17 5) 5 = some 16 := by kernel_rfl
theorem sT_6 : say (opsAt Tryz.f17 5) 6 = some (some 17, .move (.tmp 0), none) := by kernel_rfl
theorem dT_6 : slotB (opsAt Tryz.f17 5) 6 = some 17 := by kernel_rfl
theorem sT_7 : say (opsAt Tryz.f17 5) 7 = some (some 18, .move (.tmp 4), none) := by kernel_rfl
theorem dT_7 : slotB (opsAt Tryz.f17 5) 7 = some 18 := by kernel_rfl
theorem sT_8 : say (opsAt Tryz.f17 5) 8 = some (some 19, .indexAddr 22 (.tmp 17) (.tmp 18), none) := by kernel_rfl
theorem dT_8 : slotB (opsAt Tryz.f17 5) 8 = some 19 := by kernel_rfl
theorem sT_9 : say (opsAt Tryz.f17 5) 9 = some (some 20, .fieldAddr 55 (.tmp 19) 2, none) := by kernel_rfl
theorem dT_9 : slotB (opsAt Tryz.f17 5) 9 = some 20 := by kernel_rfl
theorem sT_10 : say (opsAt Tryz.f17 5) 10 = some (some 21, .load 53 (.tmp 20), none) := by kernel_rfl
theorem dT_10 : slotB (opsAt Tryz.f17 5) 10 = some 21 := by kernel_rfl
theorem sT_11 : say (opsAt Tryz.f17 5) 11 = some (some 22, .move (.tmp 0), none) := by kernel_rfl
theorem dT_11 : slotB (opsAt Tryz.f17 5) 11 = some 22 := by kernel_rfl
theorem sT_12 : say (opsAt Tryz.f17 5) 12 = some (some 23, .move (.tmp 4), none) := by kernel_rfl
theorem dT_12 : slotB (opsAt Tryz.f17 5) 12 = some 23 := by kernel_rfl
theorem sT_13 : say (opsAt Tryz.f17 5) 13 = some (some 24, .indexAddr 22 (.tmp 22) (.tmp 23), none) := by kernel_rfl
theorem dT_13 : slotB (opsAt Tryz.f17 5) 13 = some 24 := by kernel_rfl
theorem sT_14 : say (opsAt Tryz.f17 5) 14 = some (some 25, .fieldAddr 55 (.tmp 24) 1, none) := by kernel_rfl
theorem dT_14 : slotB (opsAt Tryz.f17 5) 14 = some 25 := by kernel_rfl
theorem sT_15 : say (opsAt Tryz.f17 5) 15 = some (some 26, .load 53 (.tmp 25), none) := by kernel_rfl
theorem dT_15 : slotB (opsAt Tryz.f17 5) 15 = some 26 := by kernel_rfl
theorem sT_16 : say (opsAt Tryz.f17 5) 16 = some (some 27, .build 55 #[(0, .tmp 16), (1, .tmp 21), (2, .tmp 26)], none) := by kernel_rfl
theorem dT_16 : slotB (opsAt Tryz.f17 5) 16 = some 27 := by kernel_rfl
theorem sT_17 : say (opsAt Tryz.f17 5) 17 = some (some 28, .buildSlice 22 1 #[(0, .tmp 27)], none) := by kernel_rfl
theorem dT_17 : slotB (opsAt Tryz.f17 5) 17 = some 28 := by kernel_rfl
theorem sT_18 : say (opsAt Tryz.f17 5) 18 = some (some 29, .call { callee := .builtin .append, args := #[.tmp 11, .tmp 28], argTypes := #[22, 22] }, none) := by kernel_rfl
theorem dT_18 : slotB (opsAt Tryz.f17 5) 18 = some 29 := by kernel_rfl
theorem sT_19 : say (opsAt Tryz.f17 5) 19 = some (some 3, .assign (.tmp 29), none) := by kernel_rfl
theorem dT_19 : slotB (opsAt Tryz.f17 5) 19 = some 3 := by kernel_rfl
set_option maxHeartbeats 4000000 in
set_option maxRecDepth 100000 in
theorem regT (ga oa n cp k : Nat) (v v2 : Value) (B : Nat) (p : ByteArray) (YO YN Z : Array Value) (wB wC : World) (t0 : Array Value) (wr : World) {Q : Exit → Act → World → Prop} (ht : t0.size = 31) (h0 : t0.getD 0 undef = .slice (some ⟨ga, oa, none⟩) n cp) (h3 : t0.getD 3 undef = v) (h4 : t0.getD 4 undef = .int .i64 (k : Int))
    (hk : k < n) (cP : wr.drew.cell? ⟨ga, oa + k * 71, none⟩ = some (.string p)) (lO : Lies wr.drew ga (oa + k * 71 + 1) YO) (lN : Lies wr.drew ga (oa + k * 71 + 36) YN) (sO : YO.size = 35) (sN : YN.size = 35) (hZ : ∀ {o : Oper} {a : Act} (x y z : Operand), o.op = .build 55 #[(0, x), (1, y), (2, z)] → a.eval x = .string p → a.eval y = .agg YN → a.eval z = .agg YO → ∀ w, (execOp a.eval o).run Tryz.prog w = .ok (.value (.agg Z)) w) (sZ : Z.size = 71) (hwB : wr.drew.alloc (.cells Z 55) = wB) (hB0 : wr.drew.heap.size = B) (hA : (Builtin.append_ #[22, 22] 22 #[v, .slice (some ⟨B, 0, none⟩) 1 1]).run Tryz.prog wB = .ok v2 wC)
    (hQ : Q .normal ⟨fold (opsAt Tryz.f17 5) (VT ga oa n cp k v v2 B p YO YN Z) t0 20, []⟩ wC) : (Code.region 5 (opsAt Tryz.f17 5) true).wp Tryz.prog Q ⟨t0, []⟩ wr := by
  have hB : dstB (opsAt Tryz.f17 5) t0.size = true := by rw [ht]; exact dstT
  have kI : (k : Int) < (n : Int) := by omega
  have k0 : (0 : Int) ≤ (k : Int) := by omega
  refine inv_region (by kernel_rfl) (IV (opsAt Tryz.f17 5) (VT ga oa n cp k v v2 B p YO YN Z) t0 (fun done w => w = (if done 18 = true then wC else (if done 17 = true then wB else wr.drew)))) backT ⟨t0, rfl, ⟨rfl, fun _ _ => rfl, fun _ _ _ _ _ h => by cases h⟩, by simp⟩ ?_ ?_
  rotate_left 1
  · rintro done a w ⟨t, rfl, hS, hw⟩ hall
    rw [hS.end hB hall, sizeT]
    rw [hall 18 (by rw [sizeT]; decide), if_pos rfl] at hw
    rw [hw]
    exact hQ
  · rintro j op done a w ho ⟨t, rfl, hS, hw⟩ hnd hdep hcl
    have e0 : t[0]?.getD undef = .slice (some ⟨ga, oa, none⟩) n cp := (hS.old freeT0).trans h0
    have e4 : t[4]?.getD undef = .int .i64 (k : Int) := (hS.old freeT4).trans h4
    have hlt : j < 20 := by rw [← sizeT]; exact (Array.getElem?_eq_some_iff.1 ho).1
    match j, hlt, ho, hnd, hdep with
    | 0, _, ho, hnd, hdep =>
      obtain ⟨hd, hop, hgd⟩ := say_of sT_0 ho
      have yt18 : done 18 = false := not_yet (k := 0) (j := 18) (by kernel_rfl) hcl hnd
      have yt19 : done 19 = false := not_yet (k := 18) (j := 19) (by kernel_rfl) hcl yt18
      have e3 : t[3]?.getD undef = _ := (hS.yet hB dT_19 yt19).trans h3
      refine iv_val hB ho hgd hd hS (by simpa [upd] using hw) ?_
      unfold execOp
      simp only [hop]
      simp [e3, VT, go_sem]
    | 1, _, ho, hnd, hdep =>
      obtain ⟨hd, hop, hgd⟩ := say_of sT_1 ho
      refine iv_val hB ho hgd hd hS (by simpa [upd] using hw) ?_
      unfold execOp
      simp only [hop]
      simp [e0, VT, go_sem]
    | 2, _, ho, hnd, hdep =>
      obtain ⟨hd, hop, hgd⟩ := say_of sT_2 ho
      refine iv_val hB ho hgd hd hS (by simpa [upd] using hw) ?_
      unfold execOp
      simp only [hop]
      simp [e4, VT, go_sem]
    | 3, _, ho, hnd, hdep =>
      obtain ⟨hd, hop, hgd⟩ := say_of sT_3 ho
      have x12 : t[12]?.getD undef = _ := hS.at dT_1 (waits (j := 1) (by kernel_rfl) ho hdep)
      simp only [VT] at x12
      have x13 : t[13]?.getD undef = _ := hS.at dT_2 (waits (j := 2) (by kernel_rfl) ho hdep)
      simp only [VT] at x13
      refine iv_val hB ho hgd hd hS (by simpa [upd] using hw) ?_
      unfold execOp
      simp only [hop]
      simp [x12, x13, VT, kI, k0, addr_add, go_sem]
    | 4, _, ho, hnd, hdep =>
      obtain ⟨hd, hop, hgd⟩ := say_of sT_4 ho
      have x14 : t[14]?.getD undef = _ := hS.at dT_3 (waits (j := 3) (by kernel_rfl) ho hdep)
      simp only [VT] at x14
      refine iv_val hB ho hgd hd hS (by simpa [upd] using hw) ?_
      unfold execOp
      simp only [hop]
      simp [x14, VT, go_sem]
    | 5, _, ho, hnd, hdep =>
      obtain ⟨hd, hop, hgd⟩ := say_of sT_5 ho
      have x15 : t[15]?.getD undef = _ := hS.at dT_4 (waits (j := 4) (by kernel_rfl) ho hdep)
      simp only [VT] at x15
      have ny16 : done 16 = false := not_yet (k := 5) (j := 16) (by kernel_rfl) hcl hnd
      have ny17 : done 17 = false := not_yet (k := 16) (j := 17) (by kernel_rfl) hcl ny16
      have ny18 : done 18 = false := not_yet (k := 17) (j := 18) (by kernel_rfl) hcl ny17
      have hw0 : w = wr.drew := by rw [hw]; simp [ny17, ny18]
      refine iv_val hB ho hgd hd hS (by simpa [upd] using hw) ?_
      subst hw0
      unfold execOp
      simp only [hop]
      simp [x15, cP, VT, go_sem]
    | 6, _, ho, hnd, hdep =>
      obtain ⟨hd, hop, hgd⟩ := say_of sT_6 ho
      refine iv_val hB ho hgd hd hS (by simpa [upd] using hw) ?_
      unfold execOp
      simp only [hop]
      simp [e0, VT, go_sem]
    | 7, _, ho, hnd, hdep =>
      obtain ⟨hd, hop, hgd⟩ := say_of sT_7 ho
      refine iv_val hB ho hgd hd hS (by simpa [upd] using hw) ?_
      unfold execOp
      simp only [hop]
      simp [e4, VT, go_sem]
    | 8, _, ho, hnd, hdep =>
      obtain ⟨hd, hop, hgd⟩ := say_of sT_8 ho
      have x17 : t[17]?.getD undef = _ := hS.at dT_6 (waits (j := 6) (by kernel_rfl) ho hdep)
      simp only [VT] at x17
      have x18 : t[18]?.getD undef = _ := hS.at dT_7 (waits (j := 7) (by kernel_rfl) ho hdep)
      simp only [VT] at x18
      refine iv_val hB ho hgd hd hS (by simpa [upd] using hw) ?_
      unfold execOp
      simp only [hop]
      simp [x17, x18, VT, kI, k0, addr_add, go_sem]
    | 9, _, ho, hnd, hdep =>
      obtain ⟨hd, hop, hgd⟩ := say_of sT_9 ho
      have x19 : t[19]?.getD undef = _ := hS.at dT_8 (waits (j := 8) (by kernel_rfl) ho hdep)
      simp only [VT] at x19
      refine iv_val hB ho hgd hd hS (by simpa [upd] using hw) ?_
      unfold execOp
      simp only [hop]
      simp [x19, VT, go_sem]
    | 10, _, ho, hnd, hdep =>
      obtain ⟨hd, hop, hgd⟩ := say_of sT_10 ho
      have x20 : t[20]?.getD undef = _ := hS.at dT_9 (waits (j := 9) (by kernel_rfl) ho hdep)
      simp only [VT] at x20
      have ny16 : done 16 = false := not_yet (k := 10) (j := 16) (by kernel_rfl) hcl hnd
      have ny17 : done 17 = false := not_yet (k := 16) (j := 17) (by kernel_rfl) hcl ny16
      have ny18 : done 18 = false := not_yet (k := 17) (j := 18) (by kernel_rfl) hcl ny17
      have hw0 : w = wr.drew := by rw [hw]; simp [ny17, ny18]
      refine iv_val hB ho hgd hd hS (by simpa [upd] using hw) ?_
      exact exec_load53 (a := ⟨t, []⟩) _ hop ga (oa + k * 71 + 36) (by show t.getD 20 undef = _; rw [Array.getD_eq_getD_getElem?]; exact x20) YN sN (by rw [hw0]; exact lN)
    | 11, _, ho, hnd, hdep =>
      obtain ⟨hd, hop, hgd⟩ := say_of sT_11 ho
      refine iv_val hB ho hgd hd hS (by simpa [upd] using hw) ?_
      unfold execOp
      simp only [hop]
      simp [e0, VT, go_sem]
    | 12, _, ho, hnd, hdep =>
      obtain ⟨hd, hop, hgd⟩ := say_of sT_12 ho
      refine iv_val hB ho hgd hd hS (by simpa [upd] using hw) ?_
      unfold execOp
      simp only [hop]
      simp [e4, VT, go_sem]
    | 13, _, ho, hnd, hdep =>
      obtain ⟨hd, hop, hgd⟩ := say_of sT_13 ho
      have x22 : t[22]?.getD undef = _ := hS.at dT_11 (waits (j := 11) (by kernel_rfl) ho hdep)
      simp only [VT] at x22
      have x23 : t[23]?.getD undef = _ := hS.at dT_12 (waits (j := 12) (by kernel_rfl) ho hdep)
      simp only [VT] at x23
      refine iv_val hB ho hgd hd hS (by simpa [upd] using hw) ?_
      unfold execOp
      simp only [hop]
      simp [x22, x23, VT, kI, k0, addr_add, go_sem]
    | 14, _, ho, hnd, hdep =>
      obtain ⟨hd, hop, hgd⟩ := say_of sT_14 ho
      have x24 : t[24]?.getD undef = _ := hS.at dT_13 (waits (j := 13) (by kernel_rfl) ho hdep)
      simp only [VT] at x24
      refine iv_val hB ho hgd hd hS (by simpa [upd] using hw) ?_
      unfold execOp
      simp only [hop]
      simp [x24, VT, go_sem]
    | 15, _, ho, hnd, hdep =>
      obtain ⟨hd, hop, hgd⟩ := say_of sT_15 ho
      have x25 : t[25]?.getD undef = _ := hS.at dT_14 (waits (j := 14) (by kernel_rfl) ho hdep)
      simp only [VT] at x25
      have ny16 : done 16 = false := not_yet (k := 15) (j := 16) (by kernel_rfl) hcl hnd
      have ny17 : done 17 = false := not_yet (k := 16) (j := 17) (by kernel_rfl) hcl ny16
      have ny18 : done 18 = false := not_yet (k := 17) (j := 18) (by kernel_rfl) hcl ny17
      have hw0 : w = wr.drew := by rw [hw]; simp [ny17, ny18]
      refine iv_val hB ho hgd hd hS (by simpa [upd] using hw) ?_
      exact exec_load53 (a := ⟨t, []⟩) _ hop ga (oa + k * 71 + 1) (by show t.getD 25 undef = _; rw [Array.getD_eq_getD_getElem?]; exact x25) YO sO (by rw [hw0]; exact lO)
    | 16, _, ho, hnd, hdep =>
      obtain ⟨hd, hop, hgd⟩ := say_of sT_16 ho
      have x16 : t[16]?.getD undef = _ := hS.at dT_5 (waits (j := 5) (by kernel_rfl) ho hdep)
      simp only [VT] at x16
      have x21 : t[21]?.getD undef = _ := hS.at dT_10 (waits (j := 10) (by kernel_rfl) ho hdep)
      simp only [VT] at x21
      have x26 : t[26]?.getD undef = _ := hS.at dT_15 (waits (j := 15) (by kernel_rfl) ho hdep)
      simp only [VT] at x26
      refine iv_val hB ho hgd hd hS (by simpa [upd] using hw) ?_
      exact hZ (a := ⟨t, []⟩) _ _ _ hop (by show t.getD 16 undef = _; rw [Array.getD_eq_getD_getElem?]; exact x16) (by show t.getD 21 undef = _; rw [Array.getD_eq_getD_getElem?]; exact x21) (by show t.getD 26 undef = _; rw [Array.getD_eq_getD_getElem?]; exact x26) _
    | 17, _, ho, hnd, hdep =>
      obtain ⟨hd, hop, hgd⟩ := say_of sT_17 ho
      have x27 : t[27]?.getD undef = _ := hS.at dT_16 (waits (j := 16) (by kernel_rfl) ho hdep)
      simp only [VT] at x27
      have ny18 : done 18 = false := not_yet (k := 17) (j := 18) (by kernel_rfl) hcl hnd
      have hw0 : w = wr.drew := by rw [hw]; simp [hnd, ny18]
      subst hw0
      refine iv_valW (w' := wB) hB ho hgd hd hS (by simp [upd, ny18]) ?_
      rw [← hwB]
      exact exec_slice55 (a := ⟨t, []⟩) _ hop Z (by show t.getD 27 undef = _; rw [Array.getD_eq_getD_getElem?]; exact x27) sZ _ B hB0
    | 18, _, ho, hnd, hdep =>
      obtain ⟨hd, hop, hgd⟩ := say_of sT_18 ho
      have x11 : t[11]?.getD undef = _ := hS.at dT_0 (waits (j := 0) (by kernel_rfl) ho hdep)
      simp only [VT] at x11
      have x28 : t[28]?.getD undef = _ := hS.at dT_17 (waits (j := 17) (by kernel_rfl) ho hdep)
      simp only [VT] at x28
      have yes : done 17 = true := waits (j := 17) (by kernel_rfl) ho hdep
      have hw0 : w = wB := by rw [hw]; simp [hnd, yes]
      subst hw0
      refine iv_valW (w' := wC) hB ho hgd hd hS (by simp [upd]) ?_
      refine exec_app (a := ⟨t, []⟩) (v := v) (src := .slice (some ⟨B, 0, none⟩) 1 1) hop (by show t.getD 11 undef = _; rw [Array.getD_eq_getD_getElem?]; exact x11) (by show t.getD 28 undef = _; rw [Array.getD_eq_getD_getElem?]; exact x28) ?_
      rw [show op.type = 22 from by have := congrArg (·.map (·.type)) ho; simpa using this.symm.trans (show _ = some 22 from by kernel_rfl)]
      exact hA
    | 19, _, ho, hnd, hdep =>
      obtain ⟨hd, hop, hgd⟩ := say_of sT_19 ho
      have x29 : t[29]?.getD undef = _ := hS.at dT_18 (waits (j := 18) (by kernel_rfl) ho hdep)
      simp only [VT] at x29
      refine iv_val hB ho hgd hd hS (by simpa [upd] using hw) ?_
      unfold execOp
      simp only [hop]
      simp [x29, VT, go_sem]
theorem foldT (ga oa n cp k : Nat) (v v2 : Value) (B : Nat) (p : ByteArray) (YO YN Z : Array Value) (t0 : Array Value) : fold (opsAt Tryz.f17 5) (VT ga oa n cp k v v2 B p YO YN Z) t0 20 = ((((((((((((((((((((t0.setIfInBounds 11 (v)).setIfInBounds 12 (.slice (some ⟨ga, oa, none⟩) n cp)).setIfInBounds 13 (.int .i64 (k : Int))).setIfInBounds 14 (.pointer (some ⟨ga, oa + k * 71, none⟩))).setIfInBounds 15 (.pointer (some ⟨ga, oa + k * 71, none⟩))).setIfInBounds 16 (.string p)).setIfInBounds 17 (.slice (some ⟨ga, oa, none⟩) n cp)).setIfInBounds 18 (.int .i64 (k : Int))).setIfInBounds 19 (.pointer (some ⟨ga, oa + k * 71, none⟩))).setIfInBounds 20 (.pointer (some ⟨ga, oa + k * 71 + 36, none⟩))).setIfInBounds 21 (.agg YN)).setIfInBounds 22 (.slice (some ⟨ga, oa, none⟩) n cp)).setIfInBounds 23 (.int .i64 (k : Int))).setIfInBounds 24 (.pointer (some ⟨ga, oa + k * 71, none⟩))).setIfInBounds 25 (.pointer (some ⟨ga, oa + k * 71 + 1, none⟩))).setIfInBounds 26 (.agg YO)).setIfInBounds 27 (.agg Z)).setIfInBounds 28 (.slice (some ⟨B, 0, none⟩) 1 1)).setIfInBounds 29 (v2)).setIfInBounds 3 (v2)) := by kernel_rfl

set_option maxHeartbeats 4000000 in
set_option maxRecDepth 100000 in
theorem turn_any (ao : Option Addr) (cp : Nat) (L : List Cd) (w : World) (h : HasA w (.slice ao L.length cp) L) (hn : L.length ≤ 10000) :
    Calls Tryz.prog 14 #[.slice ao L.length cp] w fun e w' => ∃ v, e = .returned v ∧ OwnsR w' w.heap.size v (L.map turnC) ∧ Below w.heap.size w w' := by
  obtain ⟨n, hn'⟩ : ∃ n, L.length = n := ⟨_, rfl⟩
  obtain ⟨B0, hB0⟩ : ∃ B0, w.heap.size = B0 := ⟨_, rfl⟩
  have HA := hid h
  have HN := hid hn'
  rw [hn'] at hn HA ⊢
  clear h hn'
  have HM := make55 n (by omega) w
  have HO0 := owns_make n (by omega) w
  have g0 : Below w.heap.size w (w.alloc (.cells (madeCells z55 (n * 71)) 55)) := (Below.refl _ w).alloc (Nat.le_refl _) _
  obtain ⟨wm, hwm⟩ : ∃ wm, w.alloc (.cells (madeCells z55 (n * 71)) 55) = wm := ⟨_, rfl⟩
  rw [hwm] at HM HO0 g0
  rw [hB0] at HM HO0
  have H0 : Hid (OwnsR wm B0 (.slice (some ⟨B0, 0, none⟩) 0 n) ((L.take 0).map turnC) ∧ Below w.heap.size w wm) := ⟨by simpa using HO0, g0⟩
  clear HO0 g0 hwm
  go_enter Tryz.func14, Tryz.ntmps14
  go_wp2
  go_loopg [3, 11] n (fun gh v i wr => ∃ k : Nat, k ≤ n ∧ gh = n - k ∧ i = .int .i64 (k : Int) ∧ Hid (OwnsR wr B0 v ((L.take k).map turnC) ∧ Below w.heap.size w wr))
  case atStart => exact ⟨0, Nat.zero_le _, rfl, rfl, H0.out⟩
  case round =>
    clear H0 HM
    obtain ⟨k, hk, rfl, rfl, HR⟩ := hrel
    by_cases hlt : k < n
    · have i1 : (k : Int) < (n : Int) := by omega
      have i0 : (0 : Int) ≤ (k : Int) := by omega
      obtain ⟨r, hx⟩ : ∃ r, L[k]? = some r := ⟨L[k]'(by rw [HN.out]; exact hlt), by simp⟩
      obtain ⟨ga, oa, rfl, la⟩ := (HA.out.below HR.out.2).at hx
      have htk := take_turn hx
      have hlk : ((L.take k).map turnC).length = k := by rw [List.length_map, List.length_take, HN.out]; omega
      obtain ⟨pv, cv, hv⟩ := HR.out.1.form
      rw [hlk] at hv
      have HOV := hid HR.out.1
      have HGW := hid HR.out.2
      rw [hv] at HOV
      subst hv
      obtain ⟨B1, hB1⟩ : ∃ B1, wr.heap.size = B1 := ⟨_, rfl⟩
      have n1 := new_varT wr 55 z55 (cc r)
      have g1 := n1.1
      rw [hB1] at n1
      obtain ⟨w1, hw1⟩ : ∃ w1, (wr.alloc (.cells z55 55)).setRow B1 (cc r) = w1 := ⟨_, rfl⟩
      rw [hw1] at n1
      rw [hB1, hw1] at g1
      have g1' : Below wr.heap.size wr w1 := by rw [hB1]; exact g1
      have lv : Lies w1 B1 0 (cc r) := fun j u hj => by simp only [World.cell?, n1.2.1, Nat.zero_add]; exact hj
      have c0 : w1.cell? ⟨B1, 0, none⟩ = some (.string r.path) := lv.path
      have HO : Hid (Lies w1 B1 1 (vx r.old).toArray) := by have := lv.old; rwa [Nat.zero_add] at this
      have HNw : Hid (Lies w1 B1 36 (vx r.new).toArray) := by have := lv.new; rwa [Nat.zero_add] at this
      have hB2 := n1.2.2
      have hs1 := HGW.out.size
      have ow1 : OwnsR w1 B0 (.slice pv k cv) ((L.take k).map turnC) := HOV.out.up g1'
      obtain ⟨Z, hZ⟩ : ∃ Z, cc (turnC r) = Z := ⟨_, rfl⟩
      obtain ⟨v2, w2, hr2, ow2, gb2, _, _⟩ := app_one 22 (turnC r) Z hZ ow1 (by rw [hB2, ← hB0]; omega) (by rw [hlk]; omega) (B1 + 1) hB2
      have HR2 := hid hr2
      have HE : Hid (OwnsR w2 B0 v2 ((L.take (k + 1)).map turnC) ∧ Below w.heap.size w w2) := ⟨by rw [htk]; exact ow2, by have := Below.up HGW.out g1'; rw [hB0] at this ⊢; exact this.trans gb2⟩
      have HLa : Hid (Lies wr ga (oa + k * 71) (cc r)) := la
      have HA1 : Hid ((wr.alloc (.cells z55 55)).heap[B1]? = some (.cells z55 55 (0, 0))) := by rw [← hB1]; exact World.alloc_heap_new wr _
      have HZ : Hid (cc (turnC r) = Z ∧ Z.size = 71) := ⟨hZ, by rw [← hZ]; exact cc_size _⟩
      obtain ⟨X, hX⟩ : ∃ X, cc r = X := ⟨_, rfl⟩
      have HX : Hid (X.size = 71 ∧ X.all (·.oneCell') = true) := ⟨by rw [← hX]; exact cc_size r, by rw [← hX]; exact cc_one r⟩
      rw [hX] at HLa hw1
      have HW1 := hid hw1
      obtain ⟨YO, hYO⟩ : ∃ Y, (vx r.old).toArray = Y := ⟨_, rfl⟩
      obtain ⟨YN, hYN⟩ : ∃ Y, (vx r.new).toArray = Y := ⟨_, rfl⟩
      have HYO : Hid ((vx r.old).toArray = YO ∧ YO.size = 35) := ⟨hYO, by rw [← hYO]; simp [vx_len]⟩
      have HYN : Hid ((vx r.new).toArray = YN ∧ YN.size = 35) := ⟨hYN, by rw [← hYN]; simp [vx_len]⟩
      rw [hYO] at HO
      rw [hYN] at HNw
      clear la lv n1 g1 g1' hw1 hX hYO hYN hZ hr2 ow2 gb2 ow1 htk hlk HOV HGW HR hx hs1
      go_upto_region 5 with (first
        | ((with_reducible refine wpList_exec (.agg X) ?_ ?_ ?_); exact exec_load 55 _ rfl ga (oa + k * 71) rfl X _ HLa.out under55 rfl (by rw [size55, HX.out.1]); kernel_rfl)
        | ((with_reducible refine wpList_execW (.pointer (some ⟨B1, 0, none⟩)) (wr.alloc (.cells z55 55)) ?_ ?_ ?_); exact exec_allocT 55 z55 rfl zero55 _ _ hB1; kernel_rfl)
        | ((with_reducible refine wpList_skipW w1 ?_ ?_ ?_); exact (by rw [← HW1.out]; exact exec_storeT 55 _ _ rfl B1 X z55 rfl rfl _ HA1.out (by rw [size55, HX.out.1]) (by rw [z55_size, HX.out.1]) HX.out.2); kernel_rfl))
      go_wp2_with (first
        | ((with_reducible refine wpList_exec (.agg YO) ?_ ?_ ?_); exact exec_load53 _ rfl B1 1 rfl YO HYO.out.2 HO.out; kernel_rfl)
        | ((with_reducible refine wpList_exec (.agg YN) ?_ ?_ ?_); exact exec_load53 _ rfl B1 36 rfl YN HYN.out.2 HNw.out; kernel_rfl)
        | ((with_reducible refine wpList_exec (.agg Z) ?_ ?_ ?_); exact (by rw [← HZ.out.1]; exact exec_build55 _ _ _ rfl r.path r.new r.old rfl (by rw [HYN.out.1]; rfl) (by rw [HYO.out.1]; rfl) _); kernel_rfl)
        | ((with_reducible refine wpList_execW (.slice (some ⟨B1 + 1, 0, none⟩) 1 1) (w1.alloc (.cells Z 55)) ?_ ?_ ?_); exact exec_slice55 _ rfl Z rfl HZ.out.2 _ _ hB2; kernel_rfl)
        | ((with_reducible refine wpList_execW v2 w2 ?_ ?_ ?_); exact exec_app (v := .slice pv k cv) (src := .slice (some ⟨B1 + 1, 0, none⟩) 1 1) rfl rfl rfl HR2.out; kernel_rfl))
      go_roundg (n - (k + 1))
      case measure => omega
      case rel => exact ⟨k + 1, by omega, rfl, by go_num, HE.out⟩
    · obtain rfl : k = n := by omega
      have i1 : ¬ ((k : Int) < (k : Int)) := by omega
      have HF : Hid (OwnsR wr B0 u3 (L.map turnC) ∧ Below w.heap.size w wr) := by
        have := HR.out
        rwa [List.take_of_length_le (by rw [HN.out]; omega)] at this
      go_wp2
      go_ret
      exact ⟨u3, rfl, HF.out.1, by have := HF.out.2; rwa [hB0] at this⟩
theorem OwnsR.nil (w : World) (lo : Nat) : OwnsR w lo (.slice none 0 0) [] := World.ownsRow_nil _ _ _ _
set_option maxHeartbeats 4000000 in
set_option maxRecDepth 100000 in
theorem refTurn_any (ao : Option Addr) (cp : Nat) (L : List Cd) (w : World) (h : HasA w (.slice ao L.length cp) L) (hn : L.length ≤ 10000) :
    Calls Tryz.prog 17 #[.slice ao L.length cp] w fun e w' => ∃ v, e = .returned v ∧ OwnsR w' w.heap.size v (L.map turnC) ∧ Below w.heap.size w w' := by
  obtain ⟨n, hn'⟩ : ∃ n, L.length = n := ⟨_, rfl⟩
  obtain ⟨B0, hB0⟩ : ∃ B0, w.heap.size = B0 := ⟨_, rfl⟩
  have HA := hid h
  have HN := hid hn'
  rw [hn'] at hn HA ⊢
  clear h hn'
  go_enter Tryz.func17, Tryz.ntmps17
  go_wp2
  go_loopg [3, 4] n (fun gh v i wr => ∃ k : Nat, k ≤ n ∧ gh = n - k ∧ i = .int .i64 (k : Int) ∧ Hid (OwnsR wr B0 v ((L.take k).map turnC) ∧ Below w.heap.size w wr))
  case atStart => exact ⟨0, Nat.zero_le _, rfl, rfl, by simpa using OwnsR.nil w B0, Below.refl _ _⟩
  case round =>
    obtain ⟨k, hk, rfl, rfl, HR⟩ := hrel
    by_cases hlt : k < n
    · have i1 : (k : Int) < (n : Int) := by omega
      obtain ⟨r, hx⟩ : ∃ r, L[k]? = some r := ⟨L[k]'(by rw [HN.out]; exact hlt), by simp⟩
      obtain ⟨ga, oa, rfl, la⟩ := (HA.out.below HR.out.2).at hx
      have htk := take_turn hx
      have hlk : ((L.take k).map turnC).length = k := by rw [List.length_map, List.length_take, HN.out]; omega
      have gd : Below wr.heap.size wr wr.drew := (Below.refl _ wr).drew
      obtain ⟨wd, hwd⟩ : ∃ wd, wr.drew = wd := ⟨_, rfl⟩
      rw [hwd] at gd
      have lv := la.below gd
      obtain ⟨B1, hB1⟩ : ∃ B1, wd.heap.size = B1 := ⟨_, rfl⟩
      have hs1 := HR.out.2.size
      have hs2 := gd.size
      obtain ⟨Z, hZ⟩ : ∃ Z, cc (turnC r) = Z := ⟨_, rfl⟩
      obtain ⟨v2, w2, hr2, ow2, gb2, _, _⟩ := app_one 22 (turnC r) Z hZ (HR.out.1.up gd) (by omega) (by rw [hlk]; omega) B1 hB1
      have HE : Hid (OwnsR w2 B0 v2 ((L.take (k + 1)).map turnC) ∧ Below w.heap.size w w2) := ⟨by rw [htk]; exact ow2, by have := Below.up HR.out.2 gd; rw [hB0] at this ⊢; exact this.trans gb2⟩
      go_upto_region 5 with fail
      refine regT ga oa n cp k u3 v2 B1 r.path (vx r.old).toArray (vx r.new).toArray Z (wd.alloc (.cells Z 55)) w2 _ wr rfl rfl rfl rfl hlt (by rw [hwd]; exact lv.path) (by rw [hwd]; exact lv.old) (by rw [hwd]; exact lv.new) (by simp [vx_len]) (by simp [vx_len]) (fun x y z ho hx hy hz w => by rw [← hZ]; exact exec_build55 x y z ho r.path r.new r.old hx hy hz w) (by rw [← hZ]; exact cc_size _) (by rw [hwd]) (by rw [hwd]; exact hB1) hr2 ?_
      rw [foldT]
      clear la lv hZ hr2 ow2 gb2 htk hlk HR hx hs1 hs2 gd hwd hB1
      go_simp
      go_wp2
      go_roundg (n - (k + 1))
      case measure => omega
      case rel => exact ⟨k + 1, by omega, rfl, by go_num, HE.out⟩
    · obtain rfl : k = n := by omega
      have i1 : ¬ ((k : Int) < (k : Int)) := by omega
      have HF : Hid (OwnsR wr B0 u3 (L.map turnC) ∧ Below w.heap.size w wr) := by
        have := HR.out
        rwa [List.take_of_length_le (by rw [HN.out]; omega)] at this
      go_wp2
      go_ret
      exact ⟨u3, rfl, HF.out.1, by have := HF.out.2; rwa [hB0] at this⟩
end Go.Proofs.YthioflehpifflaaGreatDoor
