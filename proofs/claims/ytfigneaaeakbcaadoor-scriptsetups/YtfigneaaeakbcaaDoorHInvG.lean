/-
  Drawn regions: operations behind a guard.
-/
import Derived.Test.YtfigneaaeakbcaaDoorHInvR
namespace Go.Proofs.YtfigneaaeakbcaaDoor.Hm
open Go.RowKit

theorem yielded_at {ops : Array Oper} {t : Array Value} {k d : Nat} (hk : slotB ops k = some d) : yielded ops t k = (match t[d]? with | some (.bool b) => some b | _ => none) := by
  unfold slotB at hk
  unfold yielded
  rw [hk]
  rfl
theorem wanted_yes {ops : Array Oper} {t : Array Value} {o : Oper} {k d : Nat} {b : Bool} (hg : o.guard = some (k, b)) (hk : slotB ops k = some d) (hv : t[d]?.getD undef = .bool b) : Region.wanted o (yielded ops t) = true := by
  unfold Region.wanted
  rw [hg]
  simp only
  rw [yielded_at hk]
  cases h : t[d]? with
  | none => rw [h] at hv; simp [undef] at hv
  | some v => rw [h] at hv; simp at hv; subst hv; simp
theorem wanted_no {ops : Array Oper} {t : Array Value} {o : Oper} {k d : Nat} {b c : Bool} (hg : o.guard = some (k, b)) (hk : slotB ops k = some d) (hv : t[d]?.getD undef = .bool c) (hn : (c == b) = false) : Region.wanted o (yielded ops t) = false := by
  unfold Region.wanted
  rw [hg]
  simp only
  rw [yielded_at hk]
  cases h : t[d]? with
  | none => rw [h] at hv; simp [undef] at hv
  | some v => rw [h] at hv; simp at hv; subst hv; simpa using hn
theorem wanted_un {ops : Array Oper} {t : Array Value} {o : Oper} {k d : Nat} {b : Bool} (hg : o.guard = some (k, b)) (hk : slotB ops k = some d) (hv : t[d]?.getD undef = undef) : Region.wanted o (yielded ops t) = false := by
  unfold Region.wanted
  rw [hg]
  simp only
  rw [yielded_at hk]
  cases h : t[d]? with
  | none => simp
  | some v => rw [h] at hv; simp at hv; subst hv; simp [undef]
section
variable {P : Program} {ops : Array Oper} {Q : Exit → Act → World → Prop} {V : Nat → Value} {t0 t : Array Value} {done : Nat → Bool} {Mem : (Nat → Bool) → World → Prop}
theorem iv_valG {i d : Nat} {o : Oper} {w w' : World} (hB : dstB ops t0.size = true) (ho : ops[i]? = some o) (hg : Region.wanted o (yielded ops t) = true) (hd : o.dst = some d) (hs : Slots ops V t0 t done) (hM : Mem (upd done i) w') (hrun : (execOp (Act.mk t []).eval o).run P w = .ok (.value (V i)) w') : wpOp P ops Q i (IV ops V t0 Mem (upd done i)) ⟨t, []⟩ w := by
  unfold wpOp
  rw [ho]
  simp only
  rw [if_pos hg]
  left
  unfold Oper.wp
  rw [hrun, Oper.upon_value, hd]
  exact ⟨_, rfl, hs.put hB ho hd, hM⟩
theorem iv_skip {i d : Nat} {o : Oper} {w : World} (hB : dstB ops t0.size = true) (ho : ops[i]? = some o) (hg : Region.wanted o (yielded ops t) = false) (hd : o.dst = some d) (hs : Slots ops V t0 t done) (hM : Mem (upd done i) w) (hV : V i = undef) : wpOp P ops Q i (IV ops V t0 Mem (upd done i)) ⟨t, []⟩ w := by
  unfold wpOp
  rw [ho]
  simp only
  rw [if_neg (by rw [hg]; simp), hd]
  have := hs.put hB ho hd
  rw [hV] at this
  exact ⟨_, rfl, this, hM⟩
theorem iv_callG {i d : Nat} {o : Oper} {w : World} (f : FuncId) (args : Array Value) (hB : dstB ops t0.size = true) (ho : ops[i]? = some o) (hg : Region.wanted o (yielded ops t) = true) (hd : o.dst = some d) (hs : Slots ops V t0 t done) (hrun : (execOp (Act.mk t []).eval o).run P w = .ok (.enter f args) w) (hC : Calls P f args w fun e w' => e = .returned (V i) ∧ Mem (upd done i) w') : wpOp P ops Q i (IV ops V t0 Mem (upd done i)) ⟨t, []⟩ w := by
  unfold wpOp
  rw [ho]
  simp only
  rw [if_pos hg]
  left
  unfold Oper.wp
  rw [hrun]
  refine Calls.mono hC ?_
  rintro e w' ⟨rfl, hM⟩
  rw [hd]
  exact ⟨_, rfl, hs.put hB ho hd, hM⟩
theorem wanted_none {o : Oper} {y : Nat → Option Bool} (hg : o.guard = none) : Region.wanted o y = true := by simp [Region.wanted, hg]
end
end Go.Proofs.YtfigneaaeakbcaaDoor.Hm
