/-
  Regions that draw their order: what is said of their operations; values and calls that make memory.
-/
import Derived.Test.YtfigneaaeakbcaaDoorHInv
namespace Go.Proofs.YtfigneaaeakbcaaDoor.Hm
open Go.RowKit

/-- a region's operations -/
def regOps (n : Nat) : Code → Option (Array Oper)
  | .region id ops _ => if id = n then some ops else none
  | .seq a b => (regOps n a).or (regOps n b)
  | .cond _ a b => (regOps n a).or (regOps n b)
  | .block _ c => regOps n c
  | .loop c => regOps n c
  | .rangeFunc _ _ a b => (regOps n a).or (regOps n b)
  | .scope c => regOps n c
  | _ => none
def opsAt (f : Func) (n : Nat) : Array Oper := ((f.body).bind (regOps n)).getD #[]
/-- what is said of an operation -/
def say (ops : Array Oper) (k : Nat) : Option (Option Nat × Op × Option (Nat × Bool)) := (ops[k]?).map fun o => (o.dst, o.op, o.guard)
theorem say_of {ops : Array Oper} {k : Nat} {o : Oper} {x : Option Nat × Op × Option (Nat × Bool)} (h : say ops k = some x) (ho : ops[k]? = some o) : o.dst = x.1 ∧ o.op = x.2.1 ∧ o.guard = x.2.2 := by
  unfold say at h
  rw [ho] at h
  injection h with h
  subst h
  exact ⟨rfl, rfl, rfl⟩
/-- does k wait for j? -/
def waitB (ops : Array Oper) (k j : Nat) : Bool := ((ops[k]?).map fun o => o.after.any fun e => Region.binds .any e && e.on == j).getD false
theorem wait_spec {ops : Array Oper} {k j : Nat} {o : Oper} (h : waitB ops k j = true) (ho : ops[k]? = some o) : ∃ e ∈ o.after, Region.binds .any e = true ∧ e.on = j := by
  unfold waitB at h
  rw [ho] at h
  simp only [Option.map_some, Option.getD_some, Array.any_eq_true', Bool.and_eq_true, beq_iff_eq] at h
  exact h
theorem waits {ops : Array Oper} {k j : Nat} {o : Oper} {done : Nat → Bool} (h : waitB ops k j = true) (ho : ops[k]? = some o) (hd : Deps o done) : done j = true := by
  obtain ⟨e, he, hb, rfl⟩ := wait_spec h ho
  exact hd e he hb
theorem not_yet {ops : Array Oper} {k j : Nat} {done : Nat → Bool} (h : waitB ops j k = true) (hc : Closed ops done) (hk : done k = false) : done j = false := by
  cases hj : done j with
  | false => rfl
  | true =>
    cases ho : ops[j]? with
    | none => unfold waitB at h; rw [ho] at h; simp at h
    | some o =>
      obtain ⟨e, he, hb, rfl⟩ := wait_spec h ho
      rw [hc j o ho hj e he hb] at hk
      cases hk
/-- which slot does an operation fill? -/
def slotB (ops : Array Oper) (k : Nat) : Option Nat := (ops[k]?).bind (·.dst)
theorem Slots.at {ops : Array Oper} {V : Nat → Value} {t0 t : Array Value} {done : Nat → Bool} (h : Slots ops V t0 t done) {k d : Nat} (hk : slotB ops k = some d) (hd : done k = true) : t[d]?.getD undef = V k := by
  unfold slotB at hk
  cases ho : ops[k]? with
  | none => rw [ho] at hk; cases hk
  | some o =>
    rw [ho] at hk
    have := h.2.2 k o d ho hk hd
    rwa [Array.getD_eq_getD_getElem?] at this
def freeB (ops : Array Oper) (d : Nat) : Bool := (List.range ops.size).all fun k => slotB ops k != some d
theorem Slots.old {ops : Array Oper} {V : Nat → Value} {t0 t : Array Value} {done : Nat → Bool} (h : Slots ops V t0 t done) {d : Nat} (hf : freeB ops d = true) : t[d]?.getD undef = t0.getD d undef := by
  have := h.2.1 d (fun k o ho e => absurd e <| by
    have h1 := List.all_eq_true.1 hf k (List.mem_range.2 (Array.getElem?_eq_some_iff.1 ho).1)
    unfold slotB at h1
    rw [ho] at h1
    intro e
    simp [e] at h1)
  rwa [Array.getD_eq_getD_getElem?] at this

theorem Slots.yet {ops : Array Oper} {V : Nat → Value} {t0 t : Array Value} {done : Nat → Bool} {n : Nat} (h : Slots ops V t0 t done) (hB : dstB ops n = true) {k d : Nat} (hk : slotB ops k = some d) (hd : done k = false) : t[d]?.getD undef = t0.getD d undef := by
  unfold slotB at hk
  cases ho : ops[k]? with
  | none => rw [ho] at hk; cases hk
  | some o =>
    rw [ho] at hk
    have := h.2.1 d (fun k' o' ho' e' => by
      have := dst_ne hB ho ho' hk e'
      rw [← this]; exact hd)
    rwa [Array.getD_eq_getD_getElem?] at this
section
variable {P : Program} {ops : Array Oper} {Q : Exit → Act → World → Prop} {V : Nat → Value} {t0 t : Array Value} {done : Nat → Bool} {Mem : (Nat → Bool) → World → Prop}
theorem iv_valW {i d : Nat} {o : Oper} {w w' : World} (hB : dstB ops t0.size = true) (ho : ops[i]? = some o) (hg : o.guard = none) (hd : o.dst = some d) (hs : Slots ops V t0 t done) (hM : Mem (upd done i) w') (hrun : (execOp (Act.mk t []).eval o).run P w = .ok (.value (V i)) w') : wpOp P ops Q i (IV ops V t0 Mem (upd done i)) ⟨t, []⟩ w := by
  unfold wpOp
  rw [ho]
  simp only
  rw [if_pos (by simp [Region.wanted, hg])]
  left
  unfold Oper.wp
  rw [hrun, Oper.upon_value, hd]
  exact ⟨_, rfl, hs.put hB ho hd, hM⟩
theorem iv_callW {i d : Nat} {o : Oper} {w : World} (f : FuncId) (args : Array Value) (hB : dstB ops t0.size = true) (ho : ops[i]? = some o) (hg : o.guard = none) (hd : o.dst = some d) (hs : Slots ops V t0 t done) (hrun : (execOp (Act.mk t []).eval o).run P w = .ok (.enter f args) w) (hC : Calls P f args w fun e w' => e = .returned (V i) ∧ Mem (upd done i) w') : wpOp P ops Q i (IV ops V t0 Mem (upd done i)) ⟨t, []⟩ w := by
  unfold wpOp
  rw [ho]
  simp only
  rw [if_pos (by simp [Region.wanted, hg])]
  left
  unfold Oper.wp
  rw [hrun]
  refine Calls.mono hC ?_
  rintro e w' ⟨rfl, hM⟩
  rw [hd]
  exact ⟨_, rfl, hs.put hB ho hd, hM⟩
end
theorem upd_same (done : Nat → Bool) (i : Nat) : upd done i i = true := by simp [upd]
theorem upd_ne (done : Nat → Bool) {i j : Nat} (h : j ≠ i) : upd done i j = done j := by simp [upd, h]
end Go.Proofs.YtfigneaaeakbcaaDoor.Hm
