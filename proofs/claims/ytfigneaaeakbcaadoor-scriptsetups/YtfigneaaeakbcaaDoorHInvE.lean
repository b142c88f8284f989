/-
  Drawn regions where a call's answer is known only when it has come: the values as a family over a letter, chosen at the call.
-/
import Derived.Test.YtfigneaaeakbcaaDoorHInvI
namespace Go.Proofs.YtfigneaaeakbcaaDoor.Hm
open Go.RowKit

section
variable {α : Type} {P : Program} {ops : Array Oper} {Q : Exit → Act → World → Prop} {V : α → Nat → Value} {t0 t : Array Value} {done : Nat → Bool} {Mem : α → (Nat → Bool) → World → Prop}
/-- as IV, for some letter -/
def IE (ops : Array Oper) (V : α → Nat → Value) (t0 : Array Value) (Mem : α → (Nat → Bool) → World → Prop) (done : Nat → Bool) (a : Act) (w : World) : Prop := ∃ r, IV ops (V r) t0 (Mem r) done a w
/-- another letter: what is done has the same value -/
theorem Slots.re {V V' : Nat → Value} (h : Slots ops V t0 t done) (he : ∀ k, done k = true → V' k = V k) : Slots ops V' t0 t done := by
  obtain ⟨h1, h2, h3⟩ := h
  refine ⟨h1, h2, ?_⟩
  intro i o d ho hd hi
  rw [he i hi]
  exact h3 i o d ho hd hi
theorem ie_val {i d : Nat} {o : Oper} {w w' : World} (r : α) (hB : dstB ops t0.size = true) (ho : ops[i]? = some o) (hg : Region.wanted o (yielded ops t) = true) (hd : o.dst = some d) (hs : Slots ops (V r) t0 t done) (hM : Mem r (upd done i) w') (hrun : (execOp (Act.mk t []).eval o).run P w = .ok (.value (V r i)) w') : wpOp P ops Q i (IE ops V t0 Mem (upd done i)) ⟨t, []⟩ w := by
  unfold wpOp
  rw [ho]
  simp only
  rw [if_pos hg]
  left
  unfold Oper.wp
  rw [hrun, Oper.upon_value, hd]
  exact ⟨r, _, rfl, hs.put hB ho hd, hM⟩
theorem ie_store {i : Nat} {o : Oper} {w w' : World} (r : α) (ho : ops[i]? = some o) (hg : Region.wanted o (yielded ops t) = true) (hd : o.dst = none) (hs : Slots ops (V r) t0 t done) (hM : Mem r (upd done i) w') (hrun : (execOp (Act.mk t []).eval o).run P w = .ok .skip w') : wpOp P ops Q i (IE ops V t0 Mem (upd done i)) ⟨t, []⟩ w := by
  unfold wpOp
  rw [ho]
  simp only
  rw [if_pos hg]
  left
  unfold Oper.wp
  rw [hrun, Oper.upon_skip, hd]
  exact ⟨r, _, rfl, hs.skip ho hd, hM⟩
/-- the call chooses the letter -/
theorem ie_call {i d : Nat} {o : Oper} {w : World} (r : α) (f : FuncId) (args : Array Value) (hB : dstB ops t0.size = true) (ho : ops[i]? = some o) (hg : Region.wanted o (yielded ops t) = true) (hd : o.dst = some d) (hs : Slots ops (V r) t0 t done) (hrun : (execOp (Act.mk t []).eval o).run P w = .ok (.enter f args) w)
    (hC : Calls P f args w fun e w' => ∃ r', e = .returned (V r' i) ∧ (∀ k, done k = true → V r' k = V r k) ∧ Mem r' (upd done i) w') : wpOp P ops Q i (IE ops V t0 Mem (upd done i)) ⟨t, []⟩ w := by
  unfold wpOp
  rw [ho]
  simp only
  rw [if_pos hg]
  left
  unfold Oper.wp
  rw [hrun]
  refine Calls.mono hC ?_
  rintro e w' ⟨r', rfl, he, hM⟩
  rw [hd]
  exact ⟨r', _, rfl, (hs.re he).put hB ho hd, hM⟩
end
end Go.Proofs.YtfigneaaeakbcaaDoor.Hm
