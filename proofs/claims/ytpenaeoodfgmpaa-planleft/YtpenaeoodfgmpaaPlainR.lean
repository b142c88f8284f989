/-
  The one statement of plain that draws its order.
-/
import Derived.Test.YtpenaeoodfgmpaaInv
import Derived.Test.YtpenaeoodfgmpaaFew
namespace Go.Proofs.Ytpenaeoodfgmpaa
open Go.RowKit

/-- a region's operations -/
def regOps (n : Nat) : Code → Option (Array Oper)
  | .region id ops _ => if id = n then some ops else none
  | .seq a b => (regOps n a).or (regOps n b)
  | .cond _ a b => (regOps n a).or (regOps n b)
  | .block _ c => regOps n c
  | .loop c => regOps n c
  | .scope c => regOps n c
  | _ => none
def opsAt (f : Func) (n : Nat) : Array Oper := ((f.body).bind (regOps n)).getD #[]
/-- what is said of an operation -/
def say (ops : Array Oper) (k : Nat) : Option (Option Nat × Op × Option (Nat × Bool)) := (ops[k]?).map fun o => (o.dst, o.op, o.guard)
theorem say_of {ops : Array Oper} {k : Nat} {o : Oper} {x : Option Nat × Op × Option (Nat × Bool)} (h : say ops k = some x) (ho : ops[k]? = some o) : o.dst = x.1 ∧ o.op = x.2.1 ∧ o.guard = x.2.2 := by
  unfold say at h
  rw [ho] at h
  injection h with h
  subst h
  exact ⟨rfl, rfl, rfl⟩
/-- does k wait for j? -/
def waitB (ops : Array Oper) (k j : Nat) : Bool := ((ops[k]?).map fun o => o.after.any fun e => Region.binds .any e && e.on == j).getD false
theorem wait_spec {ops : Array Oper} {k j : Nat} {o : Oper} (h : waitB ops k j = true) (ho : ops[k]? = some o) : ∃ e ∈ o.after, Region.binds .any e = true ∧ e.on = j := by
  unfold waitB at h
  rw [ho] at h
  simp only [Option.map_some, Option.getD_some, Array.any_eq_true', Bool.and_eq_true, beq_iff_eq] at h
  exact h
theorem waits {ops : Array Oper} {k j : Nat} {o : Oper} {done : Nat → Bool} (h : waitB ops k j = true) (ho : ops[k]? = some o) (hd : Deps o done) : done j = true := by
  obtain ⟨e, he, hb, rfl⟩ := wait_spec h ho
  exact hd e he hb
theorem not_yet {ops : Array Oper} {k j : Nat} {done : Nat → Bool} (h : waitB ops j k = true) (hc : Closed ops done) (hk : done k = false) : done j = false := by
  cases hj : done j with
  | false => rfl
  | true =>
    cases ho : ops[j]? with
    | none => unfold waitB at h; rw [ho] at h; simp at h
    | some o =>
      obtain ⟨e, he, hb, rfl⟩ := wait_spec h ho
      rw [hc j o ho hj e he hb] at hk
      cases hk
/-- which slot does an operation fill? -/
def slotB (ops : Array Oper) (k : Nat) : Option Nat := (ops[k]?).bind (·.dst)
theorem Slots.at {ops : Array Oper} {V : Nat → Value} {t0 t : Array Value} {done : Nat → Bool} (h : Slots ops V t0 t done) {k d : Nat} (hk : slotB ops k = some d) (hd : done k = true) : t[d]?.getD undef = V k := by
  unfold slotB at hk
  cases ho : ops[k]? with
  | none => rw [ho] at hk; cases hk
  | some o =>
    rw [ho] at hk
    have := h.2.2 k o d ho hk hd
    rwa [Array.getD_eq_getD_getElem?] at this
def freeB (ops : Array Oper) (d : Nat) : Bool := (List.range ops.size).all fun k => slotB ops k != some d
theorem Slots.old {ops : Array Oper} {V : Nat → Value} {t0 t : Array Value} {done : Nat → Bool} (h : Slots ops V t0 t done) {d : Nat} (hf : freeB ops d = true) : t[d]?.getD undef = t0.getD d undef := by
  have := h.2.1 d (fun k o ho e => by
    have h1 := List.all_eq_true.1 hf k (List.mem_range.2 (Array.getElem?_eq_some_iff.1 ho).1)
    unfold slotB at h1
    rw [ho] at h1
    simp [e] at h1)
  rwa [Array.getD_eq_getD_getElem?] at this

/-- a cell with small numbers -/
def smC (c : Cd) : Cd := { c with keep := sml c.keep, take := sml c.take, names := sml c.names, bytes := sml c.bytes, hn := sml c.hn, hb := sml c.hb }
theorem back6 : backB (opsAt Try.f9 6) = true := by kernel_rfl
theorem dst6 : dstB (opsAt Try.f9 6) 54 = true := by kernel_rfl
theorem size6 : (opsAt Try.f9 6).size = 31 := by kernel_rfl
theorem free6 : freeB (opsAt Try.f9 6) 5 = true := by kernel_rfl
/-- the values -/
def V6 (c : Cd) (BB : Nat) : Nat → Value
  | 0 => .pointer (some ⟨BB, 4, none⟩)
  | 1 => .int .i64 c.keep
  | 2 => .int .i64 (sml c.keep)
  | 3 => .pointer (some ⟨BB, 5, none⟩)
  | 4 => .int .i64 c.take
  | 5 => .int .i64 (sml c.take)
  | 6 => .pointer (some ⟨BB, 6, none⟩)
  | 7 => .int .i64 c.names
  | 8 => .int .i64 (sml c.names)
  | 9 => .pointer (some ⟨BB, 7, none⟩)
  | 10 => .int .i64 c.bytes
  | 11 => .int .i64 (sml c.bytes)
  | 12 => .pointer (some ⟨BB, 8, none⟩)
  | 13 => .pointer (some ⟨BB, 8, none⟩)
  | 14 => .int .i64 c.hn
  | 15 => .int .i64 (sml c.hn)
  | 16 => .pointer (some ⟨BB, 8, none⟩)
  | 17 => .pointer (some ⟨BB, 9, none⟩)
  | 18 => .int .i64 c.hb
  | 19 => .int .i64 (sml c.hb)
  | 20 => .agg #[.int .i64 (sml c.hn), .int .i64 (sml c.hb)]
  | 21 => .pointer (some ⟨BB, 4, none⟩)
  | 22 => undef
  | 23 => .pointer (some ⟨BB, 5, none⟩)
  | 24 => undef
  | 25 => .pointer (some ⟨BB, 6, none⟩)
  | 26 => undef
  | 27 => .pointer (some ⟨BB, 7, none⟩)
  | 28 => undef
  | 29 => .pointer (some ⟨BB, 8, none⟩)
  | 30 => undef
  | _ => undef
/-- what lies in memory -/
def M6 (c : Cd) (BB : Nat) (W0 : World) (done : Nat → Bool) (w : World) : Prop :=
  w.heap[BB]? = some (.cells #[.string c.path, .int .i64 c.what, .int .i64 c.side, .int .i64 c.mode, .int .i64 (if done 22 then sml c.keep else c.keep), .int .i64 (if done 24 then sml c.take else c.take), .int .i64 (if done 26 then sml c.names else c.names), .int .i64 (if done 28 then sml c.bytes else c.bytes), .int .i64 (if done 30 then sml c.hn else c.hn), .int .i64 (if done 30 then sml c.hb else c.hb)] 43 (0, 0)) ∧ But BB W0 w
theorem M6.keep {c : Cd} {BB : Nat} {W0 w : World} {done : Nat → Bool} (h : M6 c BB W0 done w) (i : Nat) (h22 : i ≠ 22) (h24 : i ≠ 24) (h26 : i ≠ 26) (h28 : i ≠ 28) (h30 : i ≠ 30) : M6 c BB W0 (upd done i) w := by
  unfold M6 upd at *
  rw [if_neg (Ne.symm h22), if_neg (Ne.symm h24), if_neg (Ne.symm h26), if_neg (Ne.symm h28), if_neg (Ne.symm h30)]
  exact h

theorem s6_0 : say (opsAt Try.f9 6) 0 = some (some 22, .fieldAddr 43 (.tmp 5) 4, none) := by kernel_rfl
theorem d6_0 : slotB (opsAt Try.f9 6) 0 = some 22 := by kernel_rfl
theorem s6_1 : say (opsAt Try.f9 6) 1 = some (some 23, .load 3 (.tmp 22), none) := by kernel_rfl
theorem d6_1 : slotB (opsAt Try.f9 6) 1 = some 23 := by kernel_rfl
theorem s6_2 : say (opsAt Try.f9 6) 2 = some (some 24, .call { callee := .value (.func 18), args := #[.tmp 23], argTypes := #[3] }, none) := by kernel_rfl
theorem d6_2 : slotB (opsAt Try.f9 6) 2 = some 24 := by kernel_rfl
theorem s6_3 : say (opsAt Try.f9 6) 3 = some (some 25, .fieldAddr 43 (.tmp 5) 5, none) := by kernel_rfl
theorem d6_3 : slotB (opsAt Try.f9 6) 3 = some 25 := by kernel_rfl
theorem s6_4 : say (opsAt Try.f9 6) 4 = some (some 26, .load 3 (.tmp 25), none) := by kernel_rfl
theorem d6_4 : slotB (opsAt Try.f9 6) 4 = some 26 := by kernel_rfl
theorem s6_5 : say (opsAt Try.f9 6) 5 = some (some 27, .call { callee := .value (.func 18), args := #[.tmp 26], argTypes := #[3] }, none) := by kernel_rfl
theorem d6_5 : slotB (opsAt Try.f9 6) 5 = some 27 := by kernel_rfl
theorem s6_6 : say (opsAt Try.f9 6) 6 = some (some 28, .fieldAddr 43 (.tmp 5) 6, none) := by kernel_rfl
theorem d6_6 : slotB (opsAt Try.f9 6) 6 = some 28 := by kernel_rfl
theorem s6_7 : say (opsAt Try.f9 6) 7 = some (some 29, .load 3 (.tmp 28), none) := by kernel_rfl
theorem d6_7 : slotB (opsAt Try.f9 6) 7 = some 29 := by kernel_rfl
theorem s6_8 : say (opsAt Try.f9 6) 8 = some (some 30, .call { callee := .value (.func 18), args := #[.tmp 29], argTypes := #[3] }, none) := by kernel_rfl
theorem d6_8 : slotB (opsAt Try.f9 6) 8 = some 30 := by kernel_rfl
theorem s6_9 : say (opsAt Try.f9 6) 9 = some (some 31, .fieldAddr 43 (.tmp 5) 7, none) := by kernel_rfl
theorem d6_9 : slotB (opsAt Try.f9 6) 9 = some 31 := by kernel_rfl
theorem s6_10 : say (opsAt Try.f9 6) 10 = some (some 32, .load 3 (.tmp 31), none) := by kernel_rfl
theorem d6_10 : slotB (opsAt Try.f9 6) 10 = some 32 := by kernel_rfl
theorem s6_11 : say (opsAt Try.f9 6) 11 = some (some 33, .call { callee := .value (.func 18), args := #[.tmp 32], argTypes := #[3] }, none) := by kernel_rfl
theorem d6_11 : slotB (opsAt Try.f9 6) 11 = some 33 := by kernel_rfl
theorem s6_12 : say (opsAt Try.f9 6) 12 = some (some 34, .fieldAddr 43 (.tmp 5) 8, none) := by kernel_rfl
theorem d6_12 : slotB (opsAt Try.f9 6) 12 = some 34 := by kernel_rfl
theorem s6_13 : say (opsAt Try.f9 6) 13 = some (some 35, .fieldAddr 31 (.tmp 34) 0, none) := by kernel_rfl
theorem d6_13 : slotB (opsAt Try.f9 6) 13 = some 35 := by kernel_rfl
theorem s6_14 : say (opsAt Try.f9 6) 14 = some (some 36, .load 3 (.tmp 35), none) := by kernel_rfl
theorem d6_14 : slotB (opsAt Try.f9 6) 14 = some 36 := by kernel_rfl
theorem s6_15 : say (opsAt Try.f9 6) 15 = some (some 37, .call { callee := .value (.func 18), args := #[.tmp 36], argTypes := #[3] }, none) := by kernel_rfl
theorem d6_15 : slotB (opsAt Try.f9 6) 15 = some 37 := by kernel_rfl
theorem s6_16 : say (opsAt Try.f9 6) 16 = some (some 38, .fieldAddr 43 (.tmp 5) 8, none) := by kernel_rfl
theorem d6_16 : slotB (opsAt Try.f9 6) 16 = some 38 := by kernel_rfl
theorem s6_17 : say (opsAt Try.f9 6) 17 = some (some 39, .fieldAddr 31 (.tmp 38) 1, none) := by kernel_rfl
theorem d6_17 : slotB (opsAt Try.f9 6) 17 = some 39 := by kernel_rfl
theorem s6_18 : say (opsAt Try.f9 6) 18 = some (some 40, .load 3 (.tmp 39), none) := by kernel_rfl
theorem d6_18 : slotB (opsAt Try.f9 6) 18 = some 40 := by kernel_rfl
theorem s6_19 : say (opsAt Try.f9 6) 19 = some (some 41, .call { callee := .value (.func 18), args := #[.tmp 40], argTypes := #[3] }, none) := by kernel_rfl
theorem d6_19 : slotB (opsAt Try.f9 6) 19 = some 41 := by kernel_rfl
theorem s6_20 : say (opsAt Try.f9 6) 20 = some (some 42, .build 31 #[(0, .tmp 37), (1, .tmp 41)], none) := by kernel_rfl
theorem d6_20 : slotB (opsAt Try.f9 6) 20 = some 42 := by kernel_rfl
theorem s6_21 : say (opsAt Try.f9 6) 21 = some (some 43, .fieldAddr 43 (.tmp 5) 4, none) := by kernel_rfl
theorem d6_21 : slotB (opsAt Try.f9 6) 21 = some 43 := by kernel_rfl
theorem s6_22 : say (opsAt Try.f9 6) 22 = some (none, .store 3 (.tmp 43) (.tmp 24), none) := by kernel_rfl
theorem s6_23 : say (opsAt Try.f9 6) 23 = some (some 44, .fieldAddr 43 (.tmp 5) 5, none) := by kernel_rfl
theorem d6_23 : slotB (opsAt Try.f9 6) 23 = some 44 := by kernel_rfl
theorem s6_24 : say (opsAt Try.f9 6) 24 = some (none, .store 3 (.tmp 44) (.tmp 27), none) := by kernel_rfl
theorem s6_25 : say (opsAt Try.f9 6) 25 = some (some 45, .fieldAddr 43 (.tmp 5) 6, none) := by kernel_rfl
theorem d6_25 : slotB (opsAt Try.f9 6) 25 = some 45 := by kernel_rfl
theorem s6_26 : say (opsAt Try.f9 6) 26 = some (none, .store 3 (.tmp 45) (.tmp 30), none) := by kernel_rfl
theorem s6_27 : say (opsAt Try.f9 6) 27 = some (some 46, .fieldAddr 43 (.tmp 5) 7, none) := by kernel_rfl
theorem d6_27 : slotB (opsAt Try.f9 6) 27 = some 46 := by kernel_rfl
theorem s6_28 : say (opsAt Try.f9 6) 28 = some (none, .store 3 (.tmp 46) (.tmp 33), none) := by kernel_rfl
theorem s6_29 : say (opsAt Try.f9 6) 29 = some (some 47, .fieldAddr 43 (.tmp 5) 8, none) := by kernel_rfl
theorem d6_29 : slotB (opsAt Try.f9 6) 29 = some 47 := by kernel_rfl
theorem s6_30 : say (opsAt Try.f9 6) 30 = some (none, .store 31 (.tmp 47) (.tmp 42), none) := by kernel_rfl
set_option maxHeartbeats 4000000 in
set_option maxRecDepth 100000 in
theorem plain_reg (c : Cd) (BB : Nat) (t0 : Array Value) (W0 : World) {Q : Exit → Act → World → Prop} (ht : t0.size = 54) (h5 : t0.getD 5 undef = .pointer (some ⟨BB, 0, none⟩)) (hrow : W0.heap[BB]? = some (.cells (cc c) 43 (0, 0)))
    (hQ : ∀ w, w.heap[BB]? = some (.cells (cc (smC c)) 43 (0, 0)) → But BB W0 w → Q .normal ⟨fold (opsAt Try.f9 6) (V6 c BB) t0 31, []⟩ w) : (Code.region 6 (opsAt Try.f9 6) true).wp Try.prog Q ⟨t0, []⟩ W0 := by
  have hB : dstB (opsAt Try.f9 6) t0.size = true := by rw [ht]; exact dst6
  refine inv_region Try.mixed (IV (opsAt Try.f9 6) (V6 c BB) t0 (M6 c BB W0)) back6 ⟨t0, rfl, ⟨rfl, fun _ _ => rfl, fun _ _ _ _ _ h => by cases h⟩, by show W0.heap[BB]? = _; simpa [cc] using hrow, (But.refl _ _).drew⟩ ?_ ?_
  rotate_left 1
  · rintro done a w ⟨t, rfl, hS, hM⟩ hall
    rw [hS.end hB hall, size6]
    refine hQ w ?_ hM.2
    have h1 := hM.1
    rw [hall 22 (by rw [size6]; omega), hall 24 (by rw [size6]; omega), hall 26 (by rw [size6]; omega), hall 28 (by rw [size6]; omega), hall 30 (by rw [size6]; omega)] at h1
    exact h1
  · rintro i o done a w ho ⟨t, rfl, hS, hM⟩ hnd hdep hcl
    have e5 : t[5]?.getD undef = .pointer (some ⟨BB, 0, none⟩) := (hS.old free6).trans h5
    have hlt : i < 31 := by rw [← size6]; exact (Array.getElem?_eq_some_iff.1 ho).1
    match i, hlt, ho, hnd, hdep with
    | 0, _, ho, hnd, hdep =>
      obtain ⟨hd, hop, hg⟩ := say_of s6_0 ho
      refine iv_val hB ho hg hd hS (hM.keep 0 (by decide) (by decide) (by decide) (by decide) (by decide)) ?_
      unfold execOp
      simp only [hop]
      simp [e5, V6, go_sem]
    | 1, _, ho, hnd, hdep =>
      obtain ⟨hd, hop, hg⟩ := say_of s6_1 ho
      have hx : t[22]?.getD undef = _ := hS.at d6_0 (waits (j := 0) (by kernel_rfl) ho hdep)
      simp only [V6] at hx
      have hn : done 22 = false := not_yet (k := 1) (by kernel_rfl) hcl hnd
      have hc : w.cell? ⟨BB, 4, none⟩ = some (.int .i64 c.keep) := by
        rw [cell_of_row w BB 4 _ _ _ hM.1, hn]; rfl
      refine iv_val hB ho hg hd hS (hM.keep 1 (by decide) (by decide) (by decide) (by decide) (by decide)) ?_
      unfold execOp
      simp only [hop]
      simp [hx, hc, V6, go_sem]
    | 2, _, ho, hnd, hdep =>
      obtain ⟨hd, hop, hg⟩ := say_of s6_2 ho
      have hx : t[23]?.getD undef = _ := hS.at d6_1 (waits (j := 1) (by kernel_rfl) ho hdep)
      simp only [V6] at hx
      refine iv_call 18 #[.int .i64 c.keep] hB ho hg hd hS (hM.keep 2 (by decide) (by decide) (by decide) (by decide) (by decide)) ?_ (small_any _ _)
      unfold execOp
      simp only [hop]
      simp [hx, go_sem]
    | 3, _, ho, hnd, hdep =>
      obtain ⟨hd, hop, hg⟩ := say_of s6_3 ho
      refine iv_val hB ho hg hd hS (hM.keep 3 (by decide) (by decide) (by decide) (by decide) (by decide)) ?_
      unfold execOp
      simp only [hop]
      simp [e5, V6, go_sem]
    | 4, _, ho, hnd, hdep =>
      obtain ⟨hd, hop, hg⟩ := say_of s6_4 ho
      have hx : t[25]?.getD undef = _ := hS.at d6_3 (waits (j := 3) (by kernel_rfl) ho hdep)
      simp only [V6] at hx
      have hn : done 24 = false := not_yet (k := 4) (by kernel_rfl) hcl hnd
      have hc : w.cell? ⟨BB, 5, none⟩ = some (.int .i64 c.take) := by
        rw [cell_of_row w BB 5 _ _ _ hM.1, hn]; rfl
      refine iv_val hB ho hg hd hS (hM.keep 4 (by decide) (by decide) (by decide) (by decide) (by decide)) ?_
      unfold execOp
      simp only [hop]
      simp [hx, hc, V6, go_sem]
    | 5, _, ho, hnd, hdep =>
      obtain ⟨hd, hop, hg⟩ := say_of s6_5 ho
      have hx : t[26]?.getD undef = _ := hS.at d6_4 (waits (j := 4) (by kernel_rfl) ho hdep)
      simp only [V6] at hx
      refine iv_call 18 #[.int .i64 c.take] hB ho hg hd hS (hM.keep 5 (by decide) (by decide) (by decide) (by decide) (by decide)) ?_ (small_any _ _)
      unfold execOp
      simp only [hop]
      simp [hx, go_sem]
    | 6, _, ho, hnd, hdep =>
      obtain ⟨hd, hop, hg⟩ := say_of s6_6 ho
      refine iv_val hB ho hg hd hS (hM.keep 6 (by decide) (by decide) (by decide) (by decide) (by decide)) ?_
      unfold execOp
      simp only [hop]
      simp [e5, V6, go_sem]
    | 7, _, ho, hnd, hdep =>
      obtain ⟨hd, hop, hg⟩ := say_of s6_7 ho
      have hx : t[28]?.getD undef = _ := hS.at d6_6 (waits (j := 6) (by kernel_rfl) ho hdep)
      simp only [V6] at hx
      have hn : done 26 = false := not_yet (k := 7) (by kernel_rfl) hcl hnd
      have hc : w.cell? ⟨BB, 6, none⟩ = some (.int .i64 c.names) := by
        rw [cell_of_row w BB 6 _ _ _ hM.1, hn]; rfl
      refine iv_val hB ho hg hd hS (hM.keep 7 (by decide) (by decide) (by decide) (by decide) (by decide)) ?_
      unfold execOp
      simp only [hop]
      simp [hx, hc, V6, go_sem]
    | 8, _, ho, hnd, hdep =>
      obtain ⟨hd, hop, hg⟩ := say_of s6_8 ho
      have hx : t[29]?.getD undef = _ := hS.at d6_7 (waits (j := 7) (by kernel_rfl) ho hdep)
      simp only [V6] at hx
      refine iv_call 18 #[.int .i64 c.names] hB ho hg hd hS (hM.keep 8 (by decide) (by decide) (by decide) (by decide) (by decide)) ?_ (small_any _ _)
      unfold execOp
      simp only [hop]
      simp [hx, go_sem]
    | 9, _, ho, hnd, hdep =>
      obtain ⟨hd, hop, hg⟩ := say_of s6_9 ho
      refine iv_val hB ho hg hd hS (hM.keep 9 (by decide) (by decide) (by decide) (by decide) (by decide)) ?_
      unfold execOp
      simp only [hop]
      simp [e5, V6, go_sem]
    | 10, _, ho, hnd, hdep =>
      obtain ⟨hd, hop, hg⟩ := say_of s6_10 ho
      have hx : t[31]?.getD undef = _ := hS.at d6_9 (waits (j := 9) (by kernel_rfl) ho hdep)
      simp only [V6] at hx
      have hn : done 28 = false := not_yet (k := 10) (by kernel_rfl) hcl hnd
      have hc : w.cell? ⟨BB, 7, none⟩ = some (.int .i64 c.bytes) := by
        rw [cell_of_row w BB 7 _ _ _ hM.1, hn]; rfl
      refine iv_val hB ho hg hd hS (hM.keep 10 (by decide) (by decide) (by decide) (by decide) (by decide)) ?_
      unfold execOp
      simp only [hop]
      simp [hx, hc, V6, go_sem]
    | 11, _, ho, hnd, hdep =>
      obtain ⟨hd, hop, hg⟩ := say_of s6_11 ho
      have hx : t[32]?.getD undef = _ := hS.at d6_10 (waits (j := 10) (by kernel_rfl) ho hdep)
      simp only [V6] at hx
      refine iv_call 18 #[.int .i64 c.bytes] hB ho hg hd hS (hM.keep 11 (by decide) (by decide) (by decide) (by decide) (by decide)) ?_ (small_any _ _)
      unfold execOp
      simp only [hop]
      simp [hx, go_sem]
    | 12, _, ho, hnd, hdep =>
      obtain ⟨hd, hop, hg⟩ := say_of s6_12 ho
      refine iv_val hB ho hg hd hS (hM.keep 12 (by decide) (by decide) (by decide) (by decide) (by decide)) ?_
      unfold execOp
      simp only [hop]
      simp [e5, V6, go_sem]
    | 13, _, ho, hnd, hdep =>
      obtain ⟨hd, hop, hg⟩ := say_of s6_13 ho
      have hx : t[34]?.getD undef = _ := hS.at d6_12 (waits (j := 12) (by kernel_rfl) ho hdep)
      simp only [V6] at hx
      refine iv_val hB ho hg hd hS (hM.keep 13 (by decide) (by decide) (by decide) (by decide) (by decide)) ?_
      unfold execOp
      simp only [hop]
      simp [hx, V6, go_sem]
    | 14, _, ho, hnd, hdep =>
      obtain ⟨hd, hop, hg⟩ := say_of s6_14 ho
      have hx : t[35]?.getD undef = _ := hS.at d6_13 (waits (j := 13) (by kernel_rfl) ho hdep)
      simp only [V6] at hx
      have hn : done 30 = false := not_yet (k := 14) (by kernel_rfl) hcl hnd
      have hc : w.cell? ⟨BB, 8, none⟩ = some (.int .i64 c.hn) := by
        rw [cell_of_row w BB 8 _ _ _ hM.1, hn]; rfl
      refine iv_val hB ho hg hd hS (hM.keep 14 (by decide) (by decide) (by decide) (by decide) (by decide)) ?_
      unfold execOp
      simp only [hop]
      simp [hx, hc, V6, go_sem]
    | 15, _, ho, hnd, hdep =>
      obtain ⟨hd, hop, hg⟩ := say_of s6_15 ho
      have hx : t[36]?.getD undef = _ := hS.at d6_14 (waits (j := 14) (by kernel_rfl) ho hdep)
      simp only [V6] at hx
      refine iv_call 18 #[.int .i64 c.hn] hB ho hg hd hS (hM.keep 15 (by decide) (by decide) (by decide) (by decide) (by decide)) ?_ (small_any _ _)
      unfold execOp
      simp only [hop]
      simp [hx, go_sem]
    | 16, _, ho, hnd, hdep =>
      obtain ⟨hd, hop, hg⟩ := say_of s6_16 ho
      refine iv_val hB ho hg hd hS (hM.keep 16 (by decide) (by decide) (by decide) (by decide) (by decide)) ?_
      unfold execOp
      simp only [hop]
      simp [e5, V6, go_sem]
    | 17, _, ho, hnd, hdep =>
      obtain ⟨hd, hop, hg⟩ := say_of s6_17 ho
      have hx : t[38]?.getD undef = _ := hS.at d6_16 (waits (j := 16) (by kernel_rfl) ho hdep)
      simp only [V6] at hx
      refine iv_val hB ho hg hd hS (hM.keep 17 (by decide) (by decide) (by decide) (by decide) (by decide)) ?_
      unfold execOp
      simp only [hop]
      simp [hx, V6, go_sem]
    | 18, _, ho, hnd, hdep =>
      obtain ⟨hd, hop, hg⟩ := say_of s6_18 ho
      have hx : t[39]?.getD undef = _ := hS.at d6_17 (waits (j := 17) (by kernel_rfl) ho hdep)
      simp only [V6] at hx
      have hn : done 30 = false := not_yet (k := 18) (by kernel_rfl) hcl hnd
      have hc : w.cell? ⟨BB, 9, none⟩ = some (.int .i64 c.hb) := by
        rw [cell_of_row w BB 9 _ _ _ hM.1, hn]; rfl
      refine iv_val hB ho hg hd hS (hM.keep 18 (by decide) (by decide) (by decide) (by decide) (by decide)) ?_
      unfold execOp
      simp only [hop]
      simp [hx, hc, V6, go_sem]
    | 19, _, ho, hnd, hdep =>
      obtain ⟨hd, hop, hg⟩ := say_of s6_19 ho
      have hx : t[40]?.getD undef = _ := hS.at d6_18 (waits (j := 18) (by kernel_rfl) ho hdep)
      simp only [V6] at hx
      refine iv_call 18 #[.int .i64 c.hb] hB ho hg hd hS (hM.keep 19 (by decide) (by decide) (by decide) (by decide) (by decide)) ?_ (small_any _ _)
      unfold execOp
      simp only [hop]
      simp [hx, go_sem]
    | 20, _, ho, hnd, hdep =>
      obtain ⟨hd, hop, hg⟩ := say_of s6_20 ho
      have hx : t[37]?.getD undef = _ := hS.at d6_15 (waits (j := 15) (by kernel_rfl) ho hdep)
      simp only [V6] at hx
      have hy : t[41]?.getD undef = _ := hS.at d6_19 (waits (j := 19) (by kernel_rfl) ho hdep)
      simp only [V6] at hy
      refine iv_val hB ho hg hd hS (hM.keep 20 (by decide) (by decide) (by decide) (by decide) (by decide)) ?_
      unfold execOp
      simp only [hop]
      simp [hx, hy, V6, go_sem]
    | 21, _, ho, hnd, hdep =>
      obtain ⟨hd, hop, hg⟩ := say_of s6_21 ho
      refine iv_val hB ho hg hd hS (hM.keep 21 (by decide) (by decide) (by decide) (by decide) (by decide)) ?_
      unfold execOp
      simp only [hop]
      simp [e5, V6, go_sem]
    | 22, _, ho, hnd, hdep =>
      obtain ⟨hd, hop, hg⟩ := say_of s6_22 ho
      have hx : t[43]?.getD undef = _ := hS.at d6_21 (waits (j := 21) (by kernel_rfl) ho hdep)
      simp only [V6] at hx
      have hy : t[24]?.getD undef = _ := hS.at d6_2 (waits (j := 2) (by kernel_rfl) ho hdep)
      simp only [V6] at hy
      have hc := cell_of_row w BB 4 _ _ _ hM.1
      have hf := frozen_of_row w BB 4 _ _ hM.1
      simp only [List.getElem?_toArray, List.getElem?_cons_zero, List.getElem?_cons_succ] at hc
      refine iv_store (w' := w.setCell ⟨BB, 4, none⟩ (.int .i64 (sml c.keep))) ho hg hd hS ⟨?_, hM.2.setCell _ _⟩ ?_
      · rw [heap_setCell_same _ _ _ _ _ _ hM.1]
        simp [upd]
      · unfold execOp
        simp only [hop]
        simp [hx, hy, hc, hf, go_sem]
    | 23, _, ho, hnd, hdep =>
      obtain ⟨hd, hop, hg⟩ := say_of s6_23 ho
      refine iv_val hB ho hg hd hS (hM.keep 23 (by decide) (by decide) (by decide) (by decide) (by decide)) ?_
      unfold execOp
      simp only [hop]
      simp [e5, V6, go_sem]
    | 24, _, ho, hnd, hdep =>
      obtain ⟨hd, hop, hg⟩ := say_of s6_24 ho
      have hx : t[44]?.getD undef = _ := hS.at d6_23 (waits (j := 23) (by kernel_rfl) ho hdep)
      simp only [V6] at hx
      have hy : t[27]?.getD undef = _ := hS.at d6_5 (waits (j := 5) (by kernel_rfl) ho hdep)
      simp only [V6] at hy
      have hc := cell_of_row w BB 5 _ _ _ hM.1
      have hf := frozen_of_row w BB 5 _ _ hM.1
      simp only [List.getElem?_toArray, List.getElem?_cons_zero, List.getElem?_cons_succ] at hc
      refine iv_store (w' := w.setCell ⟨BB, 5, none⟩ (.int .i64 (sml c.take))) ho hg hd hS ⟨?_, hM.2.setCell _ _⟩ ?_
      · rw [heap_setCell_same _ _ _ _ _ _ hM.1]
        simp [upd]
      · unfold execOp
        simp only [hop]
        simp [hx, hy, hc, hf, go_sem]
    | 25, _, ho, hnd, hdep =>
      obtain ⟨hd, hop, hg⟩ := say_of s6_25 ho
      refine iv_val hB ho hg hd hS (hM.keep 25 (by decide) (by decide) (by decide) (by decide) (by decide)) ?_
      unfold execOp
      simp only [hop]
      simp [e5, V6, go_sem]
    | 26, _, ho, hnd, hdep =>
      obtain ⟨hd, hop, hg⟩ := say_of s6_26 ho
      have hx : t[45]?.getD undef = _ := hS.at d6_25 (waits (j := 25) (by kernel_rfl) ho hdep)
      simp only [V6] at hx
      have hy : t[30]?.getD undef = _ := hS.at d6_8 (waits (j := 8) (by kernel_rfl) ho hdep)
      simp only [V6] at hy
      have hc := cell_of_row w BB 6 _ _ _ hM.1
      have hf := frozen_of_row w BB 6 _ _ hM.1
      simp only [List.getElem?_toArray, List.getElem?_cons_zero, List.getElem?_cons_succ] at hc
      refine iv_store (w' := w.setCell ⟨BB, 6, none⟩ (.int .i64 (sml c.names))) ho hg hd hS ⟨?_, hM.2.setCell _ _⟩ ?_
      · rw [heap_setCell_same _ _ _ _ _ _ hM.1]
        simp [upd]
      · unfold execOp
        simp only [hop]
        simp [hx, hy, hc, hf, go_sem]
    | 27, _, ho, hnd, hdep =>
      obtain ⟨hd, hop, hg⟩ := say_of s6_27 ho
      refine iv_val hB ho hg hd hS (hM.keep 27 (by decide) (by decide) (by decide) (by decide) (by decide)) ?_
      unfold execOp
      simp only [hop]
      simp [e5, V6, go_sem]
    | 28, _, ho, hnd, hdep =>
      obtain ⟨hd, hop, hg⟩ := say_of s6_28 ho
      have hx : t[46]?.getD undef = _ := hS.at d6_27 (waits (j := 27) (by kernel_rfl) ho hdep)
      simp only [V6] at hx
      have hy : t[33]?.getD undef = _ := hS.at d6_11 (waits (j := 11) (by kernel_rfl) ho hdep)
      simp only [V6] at hy
      have hc := cell_of_row w BB 7 _ _ _ hM.1
      have hf := frozen_of_row w BB 7 _ _ hM.1
      simp only [List.getElem?_toArray, List.getElem?_cons_zero, List.getElem?_cons_succ] at hc
      refine iv_store (w' := w.setCell ⟨BB, 7, none⟩ (.int .i64 (sml c.bytes))) ho hg hd hS ⟨?_, hM.2.setCell _ _⟩ ?_
      · rw [heap_setCell_same _ _ _ _ _ _ hM.1]
        simp [upd]
      · unfold execOp
        simp only [hop]
        simp [hx, hy, hc, hf, go_sem]
    | 29, _, ho, hnd, hdep =>
      obtain ⟨hd, hop, hg⟩ := say_of s6_29 ho
      refine iv_val hB ho hg hd hS (hM.keep 29 (by decide) (by decide) (by decide) (by decide) (by decide)) ?_
      unfold execOp
      simp only [hop]
      simp [e5, V6, go_sem]
    | 30, _, ho, hnd, hdep =>
      obtain ⟨hd, hop, hg⟩ := say_of s6_30 ho
      have hx : t[47]?.getD undef = _ := hS.at d6_29 (waits (j := 29) (by kernel_rfl) ho hdep)
      simp only [V6] at hx
      have hy : t[42]?.getD undef = _ := hS.at d6_20 (waits (j := 20) (by kernel_rfl) ho hdep)
      simp only [V6] at hy
      have hc8 := cell_of_row w BB 8 _ _ _ hM.1
      have hf8 := frozen_of_row w BB 8 _ _ hM.1
      have hc9 := cell_of_row w BB 9 _ _ _ hM.1
      have hf9 := frozen_of_row w BB 9 _ _ hM.1
      simp only [List.getElem?_toArray, List.getElem?_cons_zero, List.getElem?_cons_succ] at hc8 hc9
      refine iv_store (w' := (w.setCell ⟨BB, 8, none⟩ (.int .i64 (sml c.hn))).setCell ⟨BB, 9, none⟩ (.int .i64 (sml c.hb))) ho hg hd hS ⟨?_, (hM.2.setCell _ _).setCell _ _⟩ ?_
      · rw [heap_setCell_same _ _ _ _ _ _ (heap_setCell_same _ _ _ _ _ _ hM.1)]
        simp [upd]
      · unfold execOp
        simp only [hop]
        simp [hx, hy, hc8, hf8, hc9, hf9, go_sem]
theorem fold6 (c : Cd) (BB : Nat) (t0 : Array Value) : fold (opsAt Try.f9 6) (V6 c BB) t0 31 = ((((((((((((((((((((((((((t0.setIfInBounds 22 (.pointer (some ⟨BB, 4, none⟩))).setIfInBounds 23 (.int .i64 c.keep)).setIfInBounds 24 (.int .i64 (sml c.keep))).setIfInBounds 25 (.pointer (some ⟨BB, 5, none⟩))).setIfInBounds 26 (.int .i64 c.take)).setIfInBounds 27 (.int .i64 (sml c.take))).setIfInBounds 28 (.pointer (some ⟨BB, 6, none⟩))).setIfInBounds 29 (.int .i64 c.names)).setIfInBounds 30 (.int .i64 (sml c.names))).setIfInBounds 31 (.pointer (some ⟨BB, 7, none⟩))).setIfInBounds 32 (.int .i64 c.bytes)).setIfInBounds 33 (.int .i64 (sml c.bytes))).setIfInBounds 34 (.pointer (some ⟨BB, 8, none⟩))).setIfInBounds 35 (.pointer (some ⟨BB, 8, none⟩))).setIfInBounds 36 (.int .i64 c.hn)).setIfInBounds 37 (.int .i64 (sml c.hn))).setIfInBounds 38 (.pointer (some ⟨BB, 8, none⟩))).setIfInBounds 39 (.pointer (some ⟨BB, 9, none⟩))).setIfInBounds 40 (.int .i64 c.hb)).setIfInBounds 41 (.int .i64 (sml c.hb))).setIfInBounds 42 (.agg #[.int .i64 (sml c.hn), .int .i64 (sml c.hb)])).setIfInBounds 43 (.pointer (some ⟨BB, 4, none⟩))).setIfInBounds 44 (.pointer (some ⟨BB, 5, none⟩))).setIfInBounds 45 (.pointer (some ⟨BB, 6, none⟩))).setIfInBounds 46 (.pointer (some ⟨BB, 7, none⟩))).setIfInBounds 47 (.pointer (some ⟨BB, 8, none⟩))) := by kernel_rfl
end Go.Proofs.Ytpenaeoodfgmpaa
