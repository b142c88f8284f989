/-
  PlanRoom: the statement that draws its order.
-/
import Derived.Test.YtpenaeoodfgmpaaPlainR
namespace Go.Proofs.Ytpenaeoodfgmpaa
open Go.RowKit

theorem back15 : backB (opsAt Try.f5 15) = true := by kernel_rfl
theorem dst15 : dstB (opsAt Try.f5 15) 122 = true := by kernel_rfl
theorem size15 : (opsAt Try.f5 15).size = 27 := by kernel_rfl
theorem free15 : freeB (opsAt Try.f5 15) 7 = true ∧ freeB (opsAt Try.f5 15) 9 = true ∧ freeB (opsAt Try.f5 15) 10 = true ∧ freeB (opsAt Try.f5 15) 11 = true := ⟨by kernel_rfl, by kernel_rfl, by kernel_rfl, by kernel_rfl⟩
theorem s15_0 : say (opsAt Try.f5 15) 0 = some (some 70, .fieldAddr 45 (.tmp 9) 5, none) := by kernel_rfl
theorem d15_0 : slotB (opsAt Try.f5 15) 0 = some 70 := by kernel_rfl
theorem s15_1 : say (opsAt Try.f5 15) 1 = some (some 71, .load 3 (.tmp 70), none) := by kernel_rfl
theorem d15_1 : slotB (opsAt Try.f5 15) 1 = some 71 := by kernel_rfl
theorem s15_2 : say (opsAt Try.f5 15) 2 = some (some 72, .fieldAddr 45 (.tmp 9) 5, none) := by kernel_rfl
theorem d15_2 : slotB (opsAt Try.f5 15) 2 = some 72 := by kernel_rfl
theorem s15_3 : say (opsAt Try.f5 15) 3 = some (some 73, .load 3 (.tmp 72), none) := by kernel_rfl
theorem d15_3 : slotB (opsAt Try.f5 15) 3 = some 73 := by kernel_rfl
theorem s15_4 : say (opsAt Try.f5 15) 4 = some (some 74, .indexAddr 32 (.tmp 7) (.tmp 73), none) := by kernel_rfl
theorem d15_4 : slotB (opsAt Try.f5 15) 4 = some 74 := by kernel_rfl
theorem s15_5 : say (opsAt Try.f5 15) 5 = some (some 75, .fieldAddr 31 (.tmp 74) 0, none) := by kernel_rfl
theorem d15_5 : slotB (opsAt Try.f5 15) 5 = some 75 := by kernel_rfl
theorem s15_6 : say (opsAt Try.f5 15) 6 = some (some 76, .load 3 (.tmp 75), none) := by kernel_rfl
theorem d15_6 : slotB (opsAt Try.f5 15) 6 = some 76 := by kernel_rfl
theorem s15_7 : say (opsAt Try.f5 15) 7 = some (some 77, .fieldAddr 31 (.tmp 11) 0, none) := by kernel_rfl
theorem d15_7 : slotB (opsAt Try.f5 15) 7 = some 77 := by kernel_rfl
theorem s15_8 : say (opsAt Try.f5 15) 8 = some (some 78, .load 3 (.tmp 77), none) := by kernel_rfl
theorem d15_8 : slotB (opsAt Try.f5 15) 8 = some 78 := by kernel_rfl
theorem s15_9 : say (opsAt Try.f5 15) 9 = some (some 79, .fieldAddr 43 (.tmp 10) 6, none) := by kernel_rfl
theorem d15_9 : slotB (opsAt Try.f5 15) 9 = some 79 := by kernel_rfl
theorem s15_10 : say (opsAt Try.f5 15) 10 = some (some 80, .load 3 (.tmp 79), none) := by kernel_rfl
theorem d15_10 : slotB (opsAt Try.f5 15) 10 = some 80 := by kernel_rfl
theorem s15_11 : say (opsAt Try.f5 15) 11 = some (some 81, .binOp .add 3 (.tmp 78) (.tmp 80) 3, none) := by kernel_rfl
theorem d15_11 : slotB (opsAt Try.f5 15) 11 = some 81 := by kernel_rfl
theorem s15_12 : say (opsAt Try.f5 15) 12 = some (some 82, .call { callee := .builtin .max, args := #[.tmp 76, .tmp 81], argTypes := #[3, 3] }, none) := by kernel_rfl
theorem d15_12 : slotB (opsAt Try.f5 15) 12 = some 82 := by kernel_rfl
theorem s15_13 : say (opsAt Try.f5 15) 13 = some (some 83, .fieldAddr 45 (.tmp 9) 5, none) := by kernel_rfl
theorem d15_13 : slotB (opsAt Try.f5 15) 13 = some 83 := by kernel_rfl
theorem s15_14 : say (opsAt Try.f5 15) 14 = some (some 84, .load 3 (.tmp 83), none) := by kernel_rfl
theorem d15_14 : slotB (opsAt Try.f5 15) 14 = some 84 := by kernel_rfl
theorem s15_15 : say (opsAt Try.f5 15) 15 = some (some 85, .indexAddr 32 (.tmp 7) (.tmp 84), none) := by kernel_rfl
theorem d15_15 : slotB (opsAt Try.f5 15) 15 = some 85 := by kernel_rfl
theorem s15_16 : say (opsAt Try.f5 15) 16 = some (some 86, .fieldAddr 31 (.tmp 85) 1, none) := by kernel_rfl
theorem d15_16 : slotB (opsAt Try.f5 15) 16 = some 86 := by kernel_rfl
theorem s15_17 : say (opsAt Try.f5 15) 17 = some (some 87, .load 3 (.tmp 86), none) := by kernel_rfl
theorem d15_17 : slotB (opsAt Try.f5 15) 17 = some 87 := by kernel_rfl
theorem s15_18 : say (opsAt Try.f5 15) 18 = some (some 88, .fieldAddr 31 (.tmp 11) 1, none) := by kernel_rfl
theorem d15_18 : slotB (opsAt Try.f5 15) 18 = some 88 := by kernel_rfl
theorem s15_19 : say (opsAt Try.f5 15) 19 = some (some 89, .load 3 (.tmp 88), none) := by kernel_rfl
theorem d15_19 : slotB (opsAt Try.f5 15) 19 = some 89 := by kernel_rfl
theorem s15_20 : say (opsAt Try.f5 15) 20 = some (some 90, .fieldAddr 43 (.tmp 10) 7, none) := by kernel_rfl
theorem d15_20 : slotB (opsAt Try.f5 15) 20 = some 90 := by kernel_rfl
theorem s15_21 : say (opsAt Try.f5 15) 21 = some (some 91, .load 3 (.tmp 90), none) := by kernel_rfl
theorem d15_21 : slotB (opsAt Try.f5 15) 21 = some 91 := by kernel_rfl
theorem s15_22 : say (opsAt Try.f5 15) 22 = some (some 92, .binOp .add 3 (.tmp 89) (.tmp 91) 3, none) := by kernel_rfl
theorem d15_22 : slotB (opsAt Try.f5 15) 22 = some 92 := by kernel_rfl
theorem s15_23 : say (opsAt Try.f5 15) 23 = some (some 93, .call { callee := .builtin .max, args := #[.tmp 87, .tmp 92], argTypes := #[3, 3] }, none) := by kernel_rfl
theorem d15_23 : slotB (opsAt Try.f5 15) 23 = some 93 := by kernel_rfl
theorem s15_24 : say (opsAt Try.f5 15) 24 = some (some 94, .build 31 #[(0, .tmp 82), (1, .tmp 93)], none) := by kernel_rfl
theorem d15_24 : slotB (opsAt Try.f5 15) 24 = some 94 := by kernel_rfl
theorem s15_25 : say (opsAt Try.f5 15) 25 = some (some 95, .indexAddr 32 (.tmp 7) (.tmp 71), none) := by kernel_rfl
theorem d15_25 : slotB (opsAt Try.f5 15) 25 = some 95 := by kernel_rfl
theorem s15_26 : say (opsAt Try.f5 15) 26 = some (none, .store 31 (.tmp 95) (.tmp 94), none) := by kernel_rfl
/-- the values, of volume 0 -/
def V15_0 (BB BC X GR : Nat) (x r n : Int × Int) : Nat → Value
  | 0 => .pointer (some ⟨BB, 5, none⟩)
  | 1 => .int .i64 (0)
  | 2 => .pointer (some ⟨BB, 5, none⟩)
  | 3 => .int .i64 (0)
  | 4 => .pointer (some ⟨GR, 0, none⟩)
  | 5 => .pointer (some ⟨GR, 0, none⟩)
  | 6 => .int .i64 r.1
  | 7 => .pointer (some ⟨X, 0, none⟩)
  | 8 => .int .i64 (x.1)
  | 9 => .pointer (some ⟨BC, 6, none⟩)
  | 10 => .int .i64 (n.1)
  | 11 => .int .i64 (x.1 + n.1)
  | 12 => .int .i64 (if r.1 < x.1 + n.1 then x.1 + n.1 else r.1)
  | 13 => .pointer (some ⟨BB, 5, none⟩)
  | 14 => .int .i64 (0)
  | 15 => .pointer (some ⟨GR, 0, none⟩)
  | 16 => .pointer (some ⟨GR, 1, none⟩)
  | 17 => .int .i64 r.2
  | 18 => .pointer (some ⟨X, 1, none⟩)
  | 19 => .int .i64 (x.2)
  | 20 => .pointer (some ⟨BC, 7, none⟩)
  | 21 => .int .i64 (n.2)
  | 22 => .int .i64 (x.2 + n.2)
  | 23 => .int .i64 (if r.2 < x.2 + n.2 then x.2 + n.2 else r.2)
  | 24 => .agg #[.int .i64 (if r.1 < x.1 + n.1 then x.1 + n.1 else r.1), .int .i64 (if r.2 < x.2 + n.2 then x.2 + n.2 else r.2)]
  | 25 => .pointer (some ⟨GR, 0, none⟩)
  | 26 => undef
  | _ => undef
def M15_0 (GR : Nat) (W0 : World) (q1 q2 : Value) (x r n : Int × Int) (done : Nat → Bool) (w : World) : Prop :=
  w.heap[GR]? = some (.cells (if done 26 then #[.int .i64 (if r.1 < x.1 + n.1 then x.1 + n.1 else r.1), .int .i64 (if r.2 < x.2 + n.2 then x.2 + n.2 else r.2), q1, q2] else #[.int .i64 r.1, .int .i64 r.2, q1, q2]) 32 (0, 0)) ∧ But GR W0 w
theorem M15_0.keep {GR : Nat} {W0 : World} {q1 q2 : Value} {x r n : Int × Int} {done : Nat → Bool} {w : World} (h : M15_0 GR W0 q1 q2 x r n done w) (i : Nat) (hi : i ≠ 26) : M15_0 GR W0 q1 q2 x r n (upd done i) w := by
  unfold M15_0 upd at *
  rw [if_neg (Ne.symm hi)]
  exact h
set_option maxHeartbeats 4000000 in
set_option maxRecDepth 100000 in
theorem room_reg0 (BB BC X GR : Nat) (x r n : Int × Int) (q1 q2 : Value) (t0 : Array Value) (W0 : World) {Q : Exit → Act → World → Prop} (ht : t0.size = 122) (h7 : t0.getD 7 undef = .pointer (some ⟨GR, 0, none⟩)) (h9 : t0.getD 9 undef = .pointer (some ⟨BB, 0, none⟩)) (h10 : t0.getD 10 undef = .pointer (some ⟨BC, 0, none⟩)) (h11 : t0.getD 11 undef = .pointer (some ⟨X, 0, none⟩))
    (hne : BB ≠ GR ∧ BC ≠ GR ∧ X ≠ GR) (hrow : W0.heap[GR]? = some (.cells #[.int .i64 r.1, .int .i64 r.2, q1, q2] 32 (0, 0)))
    (k5 : W0.cell? ⟨BB, 5, none⟩ = some (.int .i64 0)) (k6 : W0.cell? ⟨BC, 6, none⟩ = some (.int .i64 n.1)) (k7 : W0.cell? ⟨BC, 7, none⟩ = some (.int .i64 n.2)) (kx0 : W0.cell? ⟨X, 0, none⟩ = some (.int .i64 x.1)) (kx1 : W0.cell? ⟨X, 1, none⟩ = some (.int .i64 x.2))
    (hw1 : -9223372036854775808 ≤ x.1 + n.1 ∧ x.1 + n.1 ≤ 9223372036854775807) (hw2 : -9223372036854775808 ≤ x.2 + n.2 ∧ x.2 + n.2 ≤ 9223372036854775807)
    (hQ : ∀ w, w.heap[GR]? = some (.cells #[.int .i64 (if r.1 < x.1 + n.1 then x.1 + n.1 else r.1), .int .i64 (if r.2 < x.2 + n.2 then x.2 + n.2 else r.2), q1, q2] 32 (0, 0)) → But GR W0 w → Q .normal ⟨fold (opsAt Try.f5 15) (V15_0 BB BC X GR x r n) t0 27, []⟩ w) : (Code.region 15 (opsAt Try.f5 15) true).wp Try.prog Q ⟨t0, []⟩ W0 := by
  have hB : dstB (opsAt Try.f5 15) t0.size = true := by rw [ht]; exact dst15
  have u1 : IntKind.i64.wrap (x.1 + n.1) = x.1 + n.1 := by rw [IntKind.wrap_i64]; omega
  have u2 : IntKind.i64.wrap (x.2 + n.2) = x.2 + n.2 := by rw [IntKind.wrap_i64]; omega
  refine inv_region Try.mixed (IV (opsAt Try.f5 15) (V15_0 BB BC X GR x r n) t0 (M15_0 GR W0 q1 q2 x r n)) back15 ⟨t0, rfl, ⟨rfl, fun _ _ => rfl, fun _ _ _ _ _ h => by cases h⟩, hrow, (But.refl _ _).drew⟩ ?_ ?_
  rotate_left 1
  · rintro done a w ⟨t, rfl, hS, hM⟩ hall
    rw [hS.end hB hall, size15]
    refine hQ w ?_ hM.2
    have h1 := hM.1
    rw [hall 26 (by rw [size15]; omega)] at h1
    exact h1
  · rintro i o done a w ho ⟨t, rfl, hS, hM⟩ hnd hdep hcl
    have e7 : t[7]?.getD undef = .pointer (some ⟨GR, 0, none⟩) := (hS.old free15.1).trans h7
    have e9 : t[9]?.getD undef = .pointer (some ⟨BB, 0, none⟩) := (hS.old free15.2.1).trans h9
    have e10 : t[10]?.getD undef = .pointer (some ⟨BC, 0, none⟩) := (hS.old free15.2.2.1).trans h10
    have e11 : t[11]?.getD undef = .pointer (some ⟨X, 0, none⟩) := (hS.old free15.2.2.2).trans h11
    have hlt : i < 27 := by rw [← size15]; exact (Array.getElem?_eq_some_iff.1 ho).1
    match i, hlt, ho, hnd, hdep with
    | 0, _, ho, hnd, hdep =>
      obtain ⟨hd, hop, hg⟩ := say_of s15_0 ho
      refine iv_val hB ho hg hd hS (hM.keep 0 (by decide)) ?_
      unfold execOp
      simp only [hop]
      simp [e9, V15_0, go_sem]
    | 1, _, ho, hnd, hdep =>
      obtain ⟨hd, hop, hg⟩ := say_of s15_1 ho
      have hx : t[70]?.getD undef = _ := hS.at d15_0 (waits (j := 0) (by kernel_rfl) ho hdep)
      simp only [V15_0] at hx
      have hc := hM.2.cell k5 hne.1
      refine iv_val hB ho hg hd hS (hM.keep 1 (by decide)) ?_
      unfold execOp
      simp only [hop]
      simp [hx, hc, V15_0, go_sem]
    | 2, _, ho, hnd, hdep =>
      obtain ⟨hd, hop, hg⟩ := say_of s15_2 ho
      refine iv_val hB ho hg hd hS (hM.keep 2 (by decide)) ?_
      unfold execOp
      simp only [hop]
      simp [e9, V15_0, go_sem]
    | 3, _, ho, hnd, hdep =>
      obtain ⟨hd, hop, hg⟩ := say_of s15_3 ho
      have hx : t[72]?.getD undef = _ := hS.at d15_2 (waits (j := 2) (by kernel_rfl) ho hdep)
      simp only [V15_0] at hx
      have hc := hM.2.cell k5 hne.1
      refine iv_val hB ho hg hd hS (hM.keep 3 (by decide)) ?_
      unfold execOp
      simp only [hop]
      simp [hx, hc, V15_0, go_sem]
    | 4, _, ho, hnd, hdep =>
      obtain ⟨hd, hop, hg⟩ := say_of s15_4 ho
      have hx : t[73]?.getD undef = _ := hS.at d15_3 (waits (j := 3) (by kernel_rfl) ho hdep)
      simp only [V15_0] at hx
      refine iv_val hB ho hg hd hS (hM.keep 4 (by decide)) ?_
      unfold execOp
      simp only [hop]
      simp [hx, e7, V15_0, go_sem]
    | 5, _, ho, hnd, hdep =>
      obtain ⟨hd, hop, hg⟩ := say_of s15_5 ho
      have hx : t[74]?.getD undef = _ := hS.at d15_4 (waits (j := 4) (by kernel_rfl) ho hdep)
      simp only [V15_0] at hx
      refine iv_val hB ho hg hd hS (hM.keep 5 (by decide)) ?_
      unfold execOp
      simp only [hop]
      simp [hx, V15_0, go_sem]
    | 6, _, ho, hnd, hdep =>
      obtain ⟨hd, hop, hg⟩ := say_of s15_6 ho
      have hx : t[75]?.getD undef = _ := hS.at d15_5 (waits (j := 5) (by kernel_rfl) ho hdep)
      simp only [V15_0] at hx
      have hn : done 26 = false := not_yet (k := 6) (by kernel_rfl) hcl hnd
      have hc : w.cell? ⟨GR, 0, none⟩ = some (.int .i64 r.1) := by
        rw [cell_of_row w GR 0 _ _ _ hM.1, hn]; rfl
      refine iv_val hB ho hg hd hS (hM.keep 6 (by decide)) ?_
      unfold execOp
      simp only [hop]
      simp [hx, hc, V15_0, go_sem]
    | 7, _, ho, hnd, hdep =>
      obtain ⟨hd, hop, hg⟩ := say_of s15_7 ho
      refine iv_val hB ho hg hd hS (hM.keep 7 (by decide)) ?_
      unfold execOp
      simp only [hop]
      simp [e11, V15_0, go_sem]
    | 8, _, ho, hnd, hdep =>
      obtain ⟨hd, hop, hg⟩ := say_of s15_8 ho
      have hx : t[77]?.getD undef = _ := hS.at d15_7 (waits (j := 7) (by kernel_rfl) ho hdep)
      simp only [V15_0] at hx
      have hc := hM.2.cell kx0 hne.2.2
      refine iv_val hB ho hg hd hS (hM.keep 8 (by decide)) ?_
      unfold execOp
      simp only [hop]
      simp [hx, hc, V15_0, go_sem]
    | 9, _, ho, hnd, hdep =>
      obtain ⟨hd, hop, hg⟩ := say_of s15_9 ho
      refine iv_val hB ho hg hd hS (hM.keep 9 (by decide)) ?_
      unfold execOp
      simp only [hop]
      simp [e10, V15_0, go_sem]
    | 10, _, ho, hnd, hdep =>
      obtain ⟨hd, hop, hg⟩ := say_of s15_10 ho
      have hx : t[79]?.getD undef = _ := hS.at d15_9 (waits (j := 9) (by kernel_rfl) ho hdep)
      simp only [V15_0] at hx
      have hc := hM.2.cell k6 hne.2.1
      refine iv_val hB ho hg hd hS (hM.keep 10 (by decide)) ?_
      unfold execOp
      simp only [hop]
      simp [hx, hc, V15_0, go_sem]
    | 11, _, ho, hnd, hdep =>
      obtain ⟨hd, hop, hg⟩ := say_of s15_11 ho
      have hx : t[78]?.getD undef = _ := hS.at d15_8 (waits (j := 8) (by kernel_rfl) ho hdep)
      simp only [V15_0] at hx
      have hy : t[80]?.getD undef = _ := hS.at d15_10 (waits (j := 10) (by kernel_rfl) ho hdep)
      simp only [V15_0] at hy
      refine iv_val hB ho hg hd hS (hM.keep 11 (by decide)) ?_
      unfold execOp
      simp only [hop]
      simp [hx, hy, u1, V15_0, go_sem]
    | 12, _, ho, hnd, hdep =>
      obtain ⟨hd, hop, hg⟩ := say_of s15_12 ho
      have hx : t[76]?.getD undef = _ := hS.at d15_6 (waits (j := 6) (by kernel_rfl) ho hdep)
      simp only [V15_0] at hx
      have hy : t[81]?.getD undef = _ := hS.at d15_11 (waits (j := 11) (by kernel_rfl) ho hdep)
      simp only [V15_0] at hy
      refine iv_val hB ho hg hd hS (hM.keep 12 (by decide)) ?_
      unfold execOp
      simp only [hop]
      simp [hx, hy, V15_0, go_sem]
    | 13, _, ho, hnd, hdep =>
      obtain ⟨hd, hop, hg⟩ := say_of s15_13 ho
      refine iv_val hB ho hg hd hS (hM.keep 13 (by decide)) ?_
      unfold execOp
      simp only [hop]
      simp [e9, V15_0, go_sem]
    | 14, _, ho, hnd, hdep =>
      obtain ⟨hd, hop, hg⟩ := say_of s15_14 ho
      have hx : t[83]?.getD undef = _ := hS.at d15_13 (waits (j := 13) (by kernel_rfl) ho hdep)
      simp only [V15_0] at hx
      have hc := hM.2.cell k5 hne.1
      refine iv_val hB ho hg hd hS (hM.keep 14 (by decide)) ?_
      unfold execOp
      simp only [hop]
      simp [hx, hc, V15_0, go_sem]
    | 15, _, ho, hnd, hdep =>
      obtain ⟨hd, hop, hg⟩ := say_of s15_15 ho
      have hx : t[84]?.getD undef = _ := hS.at d15_14 (waits (j := 14) (by kernel_rfl) ho hdep)
      simp only [V15_0] at hx
      refine iv_val hB ho hg hd hS (hM.keep 15 (by decide)) ?_
      unfold execOp
      simp only [hop]
      simp [hx, e7, V15_0, go_sem]
    | 16, _, ho, hnd, hdep =>
      obtain ⟨hd, hop, hg⟩ := say_of s15_16 ho
      have hx : t[85]?.getD undef = _ := hS.at d15_15 (waits (j := 15) (by kernel_rfl) ho hdep)
      simp only [V15_0] at hx
      refine iv_val hB ho hg hd hS (hM.keep 16 (by decide)) ?_
      unfold execOp
      simp only [hop]
      simp [hx, V15_0, go_sem]
    | 17, _, ho, hnd, hdep =>
      obtain ⟨hd, hop, hg⟩ := say_of s15_17 ho
      have hx : t[86]?.getD undef = _ := hS.at d15_16 (waits (j := 16) (by kernel_rfl) ho hdep)
      simp only [V15_0] at hx
      have hn : done 26 = false := not_yet (k := 17) (by kernel_rfl) hcl hnd
      have hc : w.cell? ⟨GR, 1, none⟩ = some (.int .i64 r.2) := by
        rw [cell_of_row w GR 1 _ _ _ hM.1, hn]; rfl
      refine iv_val hB ho hg hd hS (hM.keep 17 (by decide)) ?_
      unfold execOp
      simp only [hop]
      simp [hx, hc, V15_0, go_sem]
    | 18, _, ho, hnd, hdep =>
      obtain ⟨hd, hop, hg⟩ := say_of s15_18 ho
      refine iv_val hB ho hg hd hS (hM.keep 18 (by decide)) ?_
      unfold execOp
      simp only [hop]
      simp [e11, V15_0, go_sem]
    | 19, _, ho, hnd, hdep =>
      obtain ⟨hd, hop, hg⟩ := say_of s15_19 ho
      have hx : t[88]?.getD undef = _ := hS.at d15_18 (waits (j := 18) (by kernel_rfl) ho hdep)
      simp only [V15_0] at hx
      have hc := hM.2.cell kx1 hne.2.2
      refine iv_val hB ho hg hd hS (hM.keep 19 (by decide)) ?_
      unfold execOp
      simp only [hop]
      simp [hx, hc, V15_0, go_sem]
    | 20, _, ho, hnd, hdep =>
      obtain ⟨hd, hop, hg⟩ := say_of s15_20 ho
      refine iv_val hB ho hg hd hS (hM.keep 20 (by decide)) ?_
      unfold execOp
      simp only [hop]
      simp [e10, V15_0, go_sem]
    | 21, _, ho, hnd, hdep =>
      obtain ⟨hd, hop, hg⟩ := say_of s15_21 ho
      have hx : t[90]?.getD undef = _ := hS.at d15_20 (waits (j := 20) (by kernel_rfl) ho hdep)
      simp only [V15_0] at hx
      have hc := hM.2.cell k7 hne.2.1
      refine iv_val hB ho hg hd hS (hM.keep 21 (by decide)) ?_
      unfold execOp
      simp only [hop]
      simp [hx, hc, V15_0, go_sem]
    | 22, _, ho, hnd, hdep =>
      obtain ⟨hd, hop, hg⟩ := say_of s15_22 ho
      have hx : t[89]?.getD undef = _ := hS.at d15_19 (waits (j := 19) (by kernel_rfl) ho hdep)
      simp only [V15_0] at hx
      have hy : t[91]?.getD undef = _ := hS.at d15_21 (waits (j := 21) (by kernel_rfl) ho hdep)
      simp only [V15_0] at hy
      refine iv_val hB ho hg hd hS (hM.keep 22 (by decide)) ?_
      unfold execOp
      simp only [hop]
      simp [hx, hy, u2, V15_0, go_sem]
    | 23, _, ho, hnd, hdep =>
      obtain ⟨hd, hop, hg⟩ := say_of s15_23 ho
      have hx : t[87]?.getD undef = _ := hS.at d15_17 (waits (j := 17) (by kernel_rfl) ho hdep)
      simp only [V15_0] at hx
      have hy : t[92]?.getD undef = _ := hS.at d15_22 (waits (j := 22) (by kernel_rfl) ho hdep)
      simp only [V15_0] at hy
      refine iv_val hB ho hg hd hS (hM.keep 23 (by decide)) ?_
      unfold execOp
      simp only [hop]
      simp [hx, hy, V15_0, go_sem]
    | 24, _, ho, hnd, hdep =>
      obtain ⟨hd, hop, hg⟩ := say_of s15_24 ho
      have hx : t[82]?.getD undef = _ := hS.at d15_12 (waits (j := 12) (by kernel_rfl) ho hdep)
      simp only [V15_0] at hx
      have hy : t[93]?.getD undef = _ := hS.at d15_23 (waits (j := 23) (by kernel_rfl) ho hdep)
      simp only [V15_0] at hy
      refine iv_val hB ho hg hd hS (hM.keep 24 (by decide)) ?_
      unfold execOp
      simp only [hop]
      simp [hx, hy, V15_0, go_sem]
    | 25, _, ho, hnd, hdep =>
      obtain ⟨hd, hop, hg⟩ := say_of s15_25 ho
      have hx : t[71]?.getD undef = _ := hS.at d15_1 (waits (j := 1) (by kernel_rfl) ho hdep)
      simp only [V15_0] at hx
      refine iv_val hB ho hg hd hS (hM.keep 25 (by decide)) ?_
      unfold execOp
      simp only [hop]
      simp [hx, e7, V15_0, go_sem]
    | 26, _, ho, hnd, hdep =>
      obtain ⟨hd, hop, hg⟩ := say_of s15_26 ho
      have hx : t[95]?.getD undef = _ := hS.at d15_25 (waits (j := 25) (by kernel_rfl) ho hdep)
      simp only [V15_0] at hx
      have hy : t[94]?.getD undef = _ := hS.at d15_24 (waits (j := 24) (by kernel_rfl) ho hdep)
      simp only [V15_0] at hy
      have hn : done 26 = false := hnd
      have hm := hM.1
      rw [hn] at hm
      simp only [Bool.false_eq_true, if_false] at hm
      have hc0 := cell_of_row w GR 0 _ _ _ hm
      have hf0 := frozen_of_row w GR 0 _ _ hm
      have hc1 := cell_of_row w GR 1 _ _ _ hm
      have hf1 := frozen_of_row w GR 1 _ _ hm
      simp only [List.getElem?_toArray, List.getElem?_cons_zero, List.getElem?_cons_succ] at hc0 hc1
      refine iv_store (w' := (w.setCell ⟨GR, 0, none⟩ (.int .i64 (if r.1 < x.1 + n.1 then x.1 + n.1 else r.1))).setCell ⟨GR, 1, none⟩ (.int .i64 (if r.2 < x.2 + n.2 then x.2 + n.2 else r.2))) ho hg hd hS ⟨?_, (hM.2.setCell _ _).setCell _ _⟩ ?_
      · rw [heap_setCell_same _ _ _ _ _ _ (heap_setCell_same _ _ _ _ _ _ hm)]
        simp [upd]
      · unfold execOp
        simp only [hop]
        simp [hx, hy, hc0, hf0, hc1, hf1, go_sem]
theorem fold15_0 (BB BC X GR : Nat) (x r n : Int × Int) (t0 : Array Value) : fold (opsAt Try.f5 15) (V15_0 BB BC X GR x r n) t0 27 = ((((((((((((((((((((((((((t0.setIfInBounds 70 (.pointer (some ⟨BB, 5, none⟩))).setIfInBounds 71 (.int .i64 (0))).setIfInBounds 72 (.pointer (some ⟨BB, 5, none⟩))).setIfInBounds 73 (.int .i64 (0))).setIfInBounds 74 (.pointer (some ⟨GR, 0, none⟩))).setIfInBounds 75 (.pointer (some ⟨GR, 0, none⟩))).setIfInBounds 76 (.int .i64 r.1)).setIfInBounds 77 (.pointer (some ⟨X, 0, none⟩))).setIfInBounds 78 (.int .i64 (x.1))).setIfInBounds 79 (.pointer (some ⟨BC, 6, none⟩))).setIfInBounds 80 (.int .i64 (n.1))).setIfInBounds 81 (.int .i64 (x.1 + n.1))).setIfInBounds 82 (.int .i64 (if r.1 < x.1 + n.1 then x.1 + n.1 else r.1))).setIfInBounds 83 (.pointer (some ⟨BB, 5, none⟩))).setIfInBounds 84 (.int .i64 (0))).setIfInBounds 85 (.pointer (some ⟨GR, 0, none⟩))).setIfInBounds 86 (.pointer (some ⟨GR, 1, none⟩))).setIfInBounds 87 (.int .i64 r.2)).setIfInBounds 88 (.pointer (some ⟨X, 1, none⟩))).setIfInBounds 89 (.int .i64 (x.2))).setIfInBounds 90 (.pointer (some ⟨BC, 7, none⟩))).setIfInBounds 91 (.int .i64 (n.2))).setIfInBounds 92 (.int .i64 (x.2 + n.2))).setIfInBounds 93 (.int .i64 (if r.2 < x.2 + n.2 then x.2 + n.2 else r.2))).setIfInBounds 94 (.agg #[.int .i64 (if r.1 < x.1 + n.1 then x.1 + n.1 else r.1), .int .i64 (if r.2 < x.2 + n.2 then x.2 + n.2 else r.2)])).setIfInBounds 95 (.pointer (some ⟨GR, 0, none⟩))) := by kernel_rfl
/-- the values, of volume 1 -/
def V15_1 (BB BC X GR : Nat) (x r n : Int × Int) : Nat → Value
  | 0 => .pointer (some ⟨BB, 5, none⟩)
  | 1 => .int .i64 (1)
  | 2 => .pointer (some ⟨BB, 5, none⟩)
  | 3 => .int .i64 (1)
  | 4 => .pointer (some ⟨GR, 2, none⟩)
  | 5 => .pointer (some ⟨GR, 2, none⟩)
  | 6 => .int .i64 r.1
  | 7 => .pointer (some ⟨X, 0, none⟩)
  | 8 => .int .i64 (x.1)
  | 9 => .pointer (some ⟨BC, 6, none⟩)
  | 10 => .int .i64 (n.1)
  | 11 => .int .i64 (x.1 + n.1)
  | 12 => .int .i64 (if r.1 < x.1 + n.1 then x.1 + n.1 else r.1)
  | 13 => .pointer (some ⟨BB, 5, none⟩)
  | 14 => .int .i64 (1)
  | 15 => .pointer (some ⟨GR, 2, none⟩)
  | 16 => .pointer (some ⟨GR, 3, none⟩)
  | 17 => .int .i64 r.2
  | 18 => .pointer (some ⟨X, 1, none⟩)
  | 19 => .int .i64 (x.2)
  | 20 => .pointer (some ⟨BC, 7, none⟩)
  | 21 => .int .i64 (n.2)
  | 22 => .int .i64 (x.2 + n.2)
  | 23 => .int .i64 (if r.2 < x.2 + n.2 then x.2 + n.2 else r.2)
  | 24 => .agg #[.int .i64 (if r.1 < x.1 + n.1 then x.1 + n.1 else r.1), .int .i64 (if r.2 < x.2 + n.2 then x.2 + n.2 else r.2)]
  | 25 => .pointer (some ⟨GR, 2, none⟩)
  | 26 => undef
  | _ => undef
def M15_1 (GR : Nat) (W0 : World) (q1 q2 : Value) (x r n : Int × Int) (done : Nat → Bool) (w : World) : Prop :=
  w.heap[GR]? = some (.cells (if done 26 then #[q1, q2, .int .i64 (if r.1 < x.1 + n.1 then x.1 + n.1 else r.1), .int .i64 (if r.2 < x.2 + n.2 then x.2 + n.2 else r.2)] else #[q1, q2, .int .i64 r.1, .int .i64 r.2]) 32 (0, 0)) ∧ But GR W0 w
theorem M15_1.keep {GR : Nat} {W0 : World} {q1 q2 : Value} {x r n : Int × Int} {done : Nat → Bool} {w : World} (h : M15_1 GR W0 q1 q2 x r n done w) (i : Nat) (hi : i ≠ 26) : M15_1 GR W0 q1 q2 x r n (upd done i) w := by
  unfold M15_1 upd at *
  rw [if_neg (Ne.symm hi)]
  exact h
set_option maxHeartbeats 4000000 in
set_option maxRecDepth 100000 in
theorem room_reg1 (BB BC X GR : Nat) (x r n : Int × Int) (q1 q2 : Value) (t0 : Array Value) (W0 : World) {Q : Exit → Act → World → Prop} (ht : t0.size = 122) (h7 : t0.getD 7 undef = .pointer (some ⟨GR, 0, none⟩)) (h9 : t0.getD 9 undef = .pointer (some ⟨BB, 0, none⟩)) (h10 : t0.getD 10 undef = .pointer (some ⟨BC, 0, none⟩)) (h11 : t0.getD 11 undef = .pointer (some ⟨X, 0, none⟩))
    (hne : BB ≠ GR ∧ BC ≠ GR ∧ X ≠ GR) (hrow : W0.heap[GR]? = some (.cells #[q1, q2, .int .i64 r.1, .int .i64 r.2] 32 (0, 0)))
    (k5 : W0.cell? ⟨BB, 5, none⟩ = some (.int .i64 1)) (k6 : W0.cell? ⟨BC, 6, none⟩ = some (.int .i64 n.1)) (k7 : W0.cell? ⟨BC, 7, none⟩ = some (.int .i64 n.2)) (kx0 : W0.cell? ⟨X, 0, none⟩ = some (.int .i64 x.1)) (kx1 : W0.cell? ⟨X, 1, none⟩ = some (.int .i64 x.2))
    (hw1 : -9223372036854775808 ≤ x.1 + n.1 ∧ x.1 + n.1 ≤ 9223372036854775807) (hw2 : -9223372036854775808 ≤ x.2 + n.2 ∧ x.2 + n.2 ≤ 9223372036854775807)
    (hQ : ∀ w, w.heap[GR]? = some (.cells #[q1, q2, .int .i64 (if r.1 < x.1 + n.1 then x.1 + n.1 else r.1), .int .i64 (if r.2 < x.2 + n.2 then x.2 + n.2 else r.2)] 32 (0, 0)) → But GR W0 w → Q .normal ⟨fold (opsAt Try.f5 15) (V15_1 BB BC X GR x r n) t0 27, []⟩ w) : (Code.region 15 (opsAt Try.f5 15) true).wp Try.prog Q ⟨t0, []⟩ W0 := by
  have hB : dstB (opsAt Try.f5 15) t0.size = true := by rw [ht]; exact dst15
  have u1 : IntKind.i64.wrap (x.1 + n.1) = x.1 + n.1 := by rw [IntKind.wrap_i64]; omega
  have u2 : IntKind.i64.wrap (x.2 + n.2) = x.2 + n.2 := by rw [IntKind.wrap_i64]; omega
  refine inv_region Try.mixed (IV (opsAt Try.f5 15) (V15_1 BB BC X GR x r n) t0 (M15_1 GR W0 q1 q2 x r n)) back15 ⟨t0, rfl, ⟨rfl, fun _ _ => rfl, fun _ _ _ _ _ h => by cases h⟩, hrow, (But.refl _ _).drew⟩ ?_ ?_
  rotate_left 1
  · rintro done a w ⟨t, rfl, hS, hM⟩ hall
    rw [hS.end hB hall, size15]
    refine hQ w ?_ hM.2
    have h1 := hM.1
    rw [hall 26 (by rw [size15]; omega)] at h1
    exact h1
  · rintro i o done a w ho ⟨t, rfl, hS, hM⟩ hnd hdep hcl
    have e7 : t[7]?.getD undef = .pointer (some ⟨GR, 0, none⟩) := (hS.old free15.1).trans h7
    have e9 : t[9]?.getD undef = .pointer (some ⟨BB, 0, none⟩) := (hS.old free15.2.1).trans h9
    have e10 : t[10]?.getD undef = .pointer (some ⟨BC, 0, none⟩) := (hS.old free15.2.2.1).trans h10
    have e11 : t[11]?.getD undef = .pointer (some ⟨X, 0, none⟩) := (hS.old free15.2.2.2).trans h11
    have hlt : i < 27 := by rw [← size15]; exact (Array.getElem?_eq_some_iff.1 ho).1
    match i, hlt, ho, hnd, hdep with
    | 0, _, ho, hnd, hdep =>
      obtain ⟨hd, hop, hg⟩ := say_of s15_0 ho
      refine iv_val hB ho hg hd hS (hM.keep 0 (by decide)) ?_
      unfold execOp
      simp only [hop]
      simp [e9, V15_1, go_sem]
    | 1, _, ho, hnd, hdep =>
      obtain ⟨hd, hop, hg⟩ := say_of s15_1 ho
      have hx : t[70]?.getD undef = _ := hS.at d15_0 (waits (j := 0) (by kernel_rfl) ho hdep)
      simp only [V15_1] at hx
      have hc := hM.2.cell k5 hne.1
      refine iv_val hB ho hg hd hS (hM.keep 1 (by decide)) ?_
      unfold execOp
      simp only [hop]
      simp [hx, hc, V15_1, go_sem]
    | 2, _, ho, hnd, hdep =>
      obtain ⟨hd, hop, hg⟩ := say_of s15_2 ho
      refine iv_val hB ho hg hd hS (hM.keep 2 (by decide)) ?_
      unfold execOp
      simp only [hop]
      simp [e9, V15_1, go_sem]
    | 3, _, ho, hnd, hdep =>
      obtain ⟨hd, hop, hg⟩ := say_of s15_3 ho
      have hx : t[72]?.getD undef = _ := hS.at d15_2 (waits (j := 2) (by kernel_rfl) ho hdep)
      simp only [V15_1] at hx
      have hc := hM.2.cell k5 hne.1
      refine iv_val hB ho hg hd hS (hM.keep 3 (by decide)) ?_
      unfold execOp
      simp only [hop]
      simp [hx, hc, V15_1, go_sem]
    | 4, _, ho, hnd, hdep =>
      obtain ⟨hd, hop, hg⟩ := say_of s15_4 ho
      have hx : t[73]?.getD undef = _ := hS.at d15_3 (waits (j := 3) (by kernel_rfl) ho hdep)
      simp only [V15_1] at hx
      refine iv_val hB ho hg hd hS (hM.keep 4 (by decide)) ?_
      unfold execOp
      simp only [hop]
      simp [hx, e7, V15_1, go_sem]
    | 5, _, ho, hnd, hdep =>
      obtain ⟨hd, hop, hg⟩ := say_of s15_5 ho
      have hx : t[74]?.getD undef = _ := hS.at d15_4 (waits (j := 4) (by kernel_rfl) ho hdep)
      simp only [V15_1] at hx
      refine iv_val hB ho hg hd hS (hM.keep 5 (by decide)) ?_
      unfold execOp
      simp only [hop]
      simp [hx, V15_1, go_sem]
    | 6, _, ho, hnd, hdep =>
      obtain ⟨hd, hop, hg⟩ := say_of s15_6 ho
      have hx : t[75]?.getD undef = _ := hS.at d15_5 (waits (j := 5) (by kernel_rfl) ho hdep)
      simp only [V15_1] at hx
      have hn : done 26 = false := not_yet (k := 6) (by kernel_rfl) hcl hnd
      have hc : w.cell? ⟨GR, 2, none⟩ = some (.int .i64 r.1) := by
        rw [cell_of_row w GR 2 _ _ _ hM.1, hn]; rfl
      refine iv_val hB ho hg hd hS (hM.keep 6 (by decide)) ?_
      unfold execOp
      simp only [hop]
      simp [hx, hc, V15_1, go_sem]
    | 7, _, ho, hnd, hdep =>
      obtain ⟨hd, hop, hg⟩ := say_of s15_7 ho
      refine iv_val hB ho hg hd hS (hM.keep 7 (by decide)) ?_
      unfold execOp
      simp only [hop]
      simp [e11, V15_1, go_sem]
    | 8, _, ho, hnd, hdep =>
      obtain ⟨hd, hop, hg⟩ := say_of s15_8 ho
      have hx : t[77]?.getD undef = _ := hS.at d15_7 (waits (j := 7) (by kernel_rfl) ho hdep)
      simp only [V15_1] at hx
      have hc := hM.2.cell kx0 hne.2.2
      refine iv_val hB ho hg hd hS (hM.keep 8 (by decide)) ?_
      unfold execOp
      simp only [hop]
      simp [hx, hc, V15_1, go_sem]
    | 9, _, ho, hnd, hdep =>
      obtain ⟨hd, hop, hg⟩ := say_of s15_9 ho
      refine iv_val hB ho hg hd hS (hM.keep 9 (by decide)) ?_
      unfold execOp
      simp only [hop]
      simp [e10, V15_1, go_sem]
    | 10, _, ho, hnd, hdep =>
      obtain ⟨hd, hop, hg⟩ := say_of s15_10 ho
      have hx : t[79]?.getD undef = _ := hS.at d15_9 (waits (j := 9) (by kernel_rfl) ho hdep)
      simp only [V15_1] at hx
      have hc := hM.2.cell k6 hne.2.1
      refine iv_val hB ho hg hd hS (hM.keep 10 (by decide)) ?_
      unfold execOp
      simp only [hop]
      simp [hx, hc, V15_1, go_sem]
    | 11, _, ho, hnd, hdep =>
      obtain ⟨hd, hop, hg⟩ := say_of s15_11 ho
      have hx : t[78]?.getD undef = _ := hS.at d15_8 (waits (j := 8) (by kernel_rfl) ho hdep)
      simp only [V15_1] at hx
      have hy : t[80]?.getD undef = _ := hS.at d15_10 (waits (j := 10) (by kernel_rfl) ho hdep)
      simp only [V15_1] at hy
      refine iv_val hB ho hg hd hS (hM.keep 11 (by decide)) ?_
      unfold execOp
      simp only [hop]
      simp [hx, hy, u1, V15_1, go_sem]
    | 12, _, ho, hnd, hdep =>
      obtain ⟨hd, hop, hg⟩ := say_of s15_12 ho
      have hx : t[76]?.getD undef = _ := hS.at d15_6 (waits (j := 6) (by kernel_rfl) ho hdep)
      simp only [V15_1] at hx
      have hy : t[81]?.getD undef = _ := hS.at d15_11 (waits (j := 11) (by kernel_rfl) ho hdep)
      simp only [V15_1] at hy
      refine iv_val hB ho hg hd hS (hM.keep 12 (by decide)) ?_
      unfold execOp
      simp only [hop]
      simp [hx, hy, V15_1, go_sem]
    | 13, _, ho, hnd, hdep =>
      obtain ⟨hd, hop, hg⟩ := say_of s15_13 ho
      refine iv_val hB ho hg hd hS (hM.keep 13 (by decide)) ?_
      unfold execOp
      simp only [hop]
      simp [e9, V15_1, go_sem]
    | 14, _, ho, hnd, hdep =>
      obtain ⟨hd, hop, hg⟩ := say_of s15_14 ho
      have hx : t[83]?.getD undef = _ := hS.at d15_13 (waits (j := 13) (by kernel_rfl) ho hdep)
      simp only [V15_1] at hx
      have hc := hM.2.cell k5 hne.1
      refine iv_val hB ho hg hd hS (hM.keep 14 (by decide)) ?_
      unfold execOp
      simp only [hop]
      simp [hx, hc, V15_1, go_sem]
    | 15, _, ho, hnd, hdep =>
      obtain ⟨hd, hop, hg⟩ := say_of s15_15 ho
      have hx : t[84]?.getD undef = _ := hS.at d15_14 (waits (j := 14) (by kernel_rfl) ho hdep)
      simp only [V15_1] at hx
      refine iv_val hB ho hg hd hS (hM.keep 15 (by decide)) ?_
      unfold execOp
      simp only [hop]
      simp [hx, e7, V15_1, go_sem]
    | 16, _, ho, hnd, hdep =>
      obtain ⟨hd, hop, hg⟩ := say_of s15_16 ho
      have hx : t[85]?.getD undef = _ := hS.at d15_15 (waits (j := 15) (by kernel_rfl) ho hdep)
      simp only [V15_1] at hx
      refine iv_val hB ho hg hd hS (hM.keep 16 (by decide)) ?_
      unfold execOp
      simp only [hop]
      simp [hx, V15_1, go_sem]
    | 17, _, ho, hnd, hdep =>
      obtain ⟨hd, hop, hg⟩ := say_of s15_17 ho
      have hx : t[86]?.getD undef = _ := hS.at d15_16 (waits (j := 16) (by kernel_rfl) ho hdep)
      simp only [V15_1] at hx
      have hn : done 26 = false := not_yet (k := 17) (by kernel_rfl) hcl hnd
      have hc : w.cell? ⟨GR, 3, none⟩ = some (.int .i64 r.2) := by
        rw [cell_of_row w GR 3 _ _ _ hM.1, hn]; rfl
      refine iv_val hB ho hg hd hS (hM.keep 17 (by decide)) ?_
      unfold execOp
      simp only [hop]
      simp [hx, hc, V15_1, go_sem]
    | 18, _, ho, hnd, hdep =>
      obtain ⟨hd, hop, hg⟩ := say_of s15_18 ho
      refine iv_val hB ho hg hd hS (hM.keep 18 (by decide)) ?_
      unfold execOp
      simp only [hop]
      simp [e11, V15_1, go_sem]
    | 19, _, ho, hnd, hdep =>
      obtain ⟨hd, hop, hg⟩ := say_of s15_19 ho
      have hx : t[88]?.getD undef = _ := hS.at d15_18 (waits (j := 18) (by kernel_rfl) ho hdep)
      simp only [V15_1] at hx
      have hc := hM.2.cell kx1 hne.2.2
      refine iv_val hB ho hg hd hS (hM.keep 19 (by decide)) ?_
      unfold execOp
      simp only [hop]
      simp [hx, hc, V15_1, go_sem]
    | 20, _, ho, hnd, hdep =>
      obtain ⟨hd, hop, hg⟩ := say_of s15_20 ho
      refine iv_val hB ho hg hd hS (hM.keep 20 (by decide)) ?_
      unfold execOp
      simp only [hop]
      simp [e10, V15_1, go_sem]
    | 21, _, ho, hnd, hdep =>
      obtain ⟨hd, hop, hg⟩ := say_of s15_21 ho
      have hx : t[90]?.getD undef = _ := hS.at d15_20 (waits (j := 20) (by kernel_rfl) ho hdep)
      simp only [V15_1] at hx
      have hc := hM.2.cell k7 hne.2.1
      refine iv_val hB ho hg hd hS (hM.keep 21 (by decide)) ?_
      unfold execOp
      simp only [hop]
      simp [hx, hc, V15_1, go_sem]
    | 22, _, ho, hnd, hdep =>
      obtain ⟨hd, hop, hg⟩ := say_of s15_22 ho
      have hx : t[89]?.getD undef = _ := hS.at d15_19 (waits (j := 19) (by kernel_rfl) ho hdep)
      simp only [V15_1] at hx
      have hy : t[91]?.getD undef = _ := hS.at d15_21 (waits (j := 21) (by kernel_rfl) ho hdep)
      simp only [V15_1] at hy
      refine iv_val hB ho hg hd hS (hM.keep 22 (by decide)) ?_
      unfold execOp
      simp only [hop]
      simp [hx, hy, u2, V15_1, go_sem]
    | 23, _, ho, hnd, hdep =>
      obtain ⟨hd, hop, hg⟩ := say_of s15_23 ho
      have hx : t[87]?.getD undef = _ := hS.at d15_17 (waits (j := 17) (by kernel_rfl) ho hdep)
      simp only [V15_1] at hx
      have hy : t[92]?.getD undef = _ := hS.at d15_22 (waits (j := 22) (by kernel_rfl) ho hdep)
      simp only [V15_1] at hy
      refine iv_val hB ho hg hd hS (hM.keep 23 (by decide)) ?_
      unfold execOp
      simp only [hop]
      simp [hx, hy, V15_1, go_sem]
    | 24, _, ho, hnd, hdep =>
      obtain ⟨hd, hop, hg⟩ := say_of s15_24 ho
      have hx : t[82]?.getD undef = _ := hS.at d15_12 (waits (j := 12) (by kernel_rfl) ho hdep)
      simp only [V15_1] at hx
      have hy : t[93]?.getD undef = _ := hS.at d15_23 (waits (j := 23) (by kernel_rfl) ho hdep)
      simp only [V15_1] at hy
      refine iv_val hB ho hg hd hS (hM.keep 24 (by decide)) ?_
      unfold execOp
      simp only [hop]
      simp [hx, hy, V15_1, go_sem]
    | 25, _, ho, hnd, hdep =>
      obtain ⟨hd, hop, hg⟩ := say_of s15_25 ho
      have hx : t[71]?.getD undef = _ := hS.at d15_1 (waits (j := 1) (by kernel_rfl) ho hdep)
      simp only [V15_1] at hx
      refine iv_val hB ho hg hd hS (hM.keep 25 (by decide)) ?_
      unfold execOp
      simp only [hop]
      simp [hx, e7, V15_1, go_sem]
    | 26, _, ho, hnd, hdep =>
      obtain ⟨hd, hop, hg⟩ := say_of s15_26 ho
      have hx : t[95]?.getD undef = _ := hS.at d15_25 (waits (j := 25) (by kernel_rfl) ho hdep)
      simp only [V15_1] at hx
      have hy : t[94]?.getD undef = _ := hS.at d15_24 (waits (j := 24) (by kernel_rfl) ho hdep)
      simp only [V15_1] at hy
      have hn : done 26 = false := hnd
      have hm := hM.1
      rw [hn] at hm
      simp only [Bool.false_eq_true, if_false] at hm
      have hc2 := cell_of_row w GR 2 _ _ _ hm
      have hf2 := frozen_of_row w GR 2 _ _ hm
      have hc3 := cell_of_row w GR 3 _ _ _ hm
      have hf3 := frozen_of_row w GR 3 _ _ hm
      simp only [List.getElem?_toArray, List.getElem?_cons_zero, List.getElem?_cons_succ] at hc2 hc3
      refine iv_store (w' := (w.setCell ⟨GR, 2, none⟩ (.int .i64 (if r.1 < x.1 + n.1 then x.1 + n.1 else r.1))).setCell ⟨GR, 3, none⟩ (.int .i64 (if r.2 < x.2 + n.2 then x.2 + n.2 else r.2))) ho hg hd hS ⟨?_, (hM.2.setCell _ _).setCell _ _⟩ ?_
      · rw [heap_setCell_same _ _ _ _ _ _ (heap_setCell_same _ _ _ _ _ _ hm)]
        simp [upd]
      · unfold execOp
        simp only [hop]
        simp [hx, hy, hc2, hf2, hc3, hf3, go_sem]
theorem fold15_1 (BB BC X GR : Nat) (x r n : Int × Int) (t0 : Array Value) : fold (opsAt Try.f5 15) (V15_1 BB BC X GR x r n) t0 27 = ((((((((((((((((((((((((((t0.setIfInBounds 70 (.pointer (some ⟨BB, 5, none⟩))).setIfInBounds 71 (.int .i64 (1))).setIfInBounds 72 (.pointer (some ⟨BB, 5, none⟩))).setIfInBounds 73 (.int .i64 (1))).setIfInBounds 74 (.pointer (some ⟨GR, 2, none⟩))).setIfInBounds 75 (.pointer (some ⟨GR, 2, none⟩))).setIfInBounds 76 (.int .i64 r.1)).setIfInBounds 77 (.pointer (some ⟨X, 0, none⟩))).setIfInBounds 78 (.int .i64 (x.1))).setIfInBounds 79 (.pointer (some ⟨BC, 6, none⟩))).setIfInBounds 80 (.int .i64 (n.1))).setIfInBounds 81 (.int .i64 (x.1 + n.1))).setIfInBounds 82 (.int .i64 (if r.1 < x.1 + n.1 then x.1 + n.1 else r.1))).setIfInBounds 83 (.pointer (some ⟨BB, 5, none⟩))).setIfInBounds 84 (.int .i64 (1))).setIfInBounds 85 (.pointer (some ⟨GR, 2, none⟩))).setIfInBounds 86 (.pointer (some ⟨GR, 3, none⟩))).setIfInBounds 87 (.int .i64 r.2)).setIfInBounds 88 (.pointer (some ⟨X, 1, none⟩))).setIfInBounds 89 (.int .i64 (x.2))).setIfInBounds 90 (.pointer (some ⟨BC, 7, none⟩))).setIfInBounds 91 (.int .i64 (n.2))).setIfInBounds 92 (.int .i64 (x.2 + n.2))).setIfInBounds 93 (.int .i64 (if r.2 < x.2 + n.2 then x.2 + n.2 else r.2))).setIfInBounds 94 (.agg #[.int .i64 (if r.1 < x.1 + n.1 then x.1 + n.1 else r.1), .int .i64 (if r.2 < x.2 + n.2 then x.2 + n.2 else r.2)])).setIfInBounds 95 (.pointer (some ⟨GR, 2, none⟩))) := by kernel_rfl
end Go.Proofs.Ytpenaeoodfgmpaa
