/-
  REGIONS THAT DRAW THEIR ORDER, by what each operation leaves: one proof an operation, whatever the order.
-/
import Derived.Test.YtfigneaaeakbcaaDoorBase
namespace Go.Proofs.YtfigneaaeakbcaaDoor.Hm
open Go.RowKit

section
variable {P : Program} {ops : Array Oper} {Q : Exit → Act → World → Prop}
/-- every bond leads to an earlier operation -/
def backB (ops : Array Oper) : Bool := (List.range ops.size).all fun i => ((ops[i]?).map fun o => o.after.all fun e => !Region.binds .any e || decide (e.on < i)).getD true
theorem back_spec (h : backB ops = true) {i : Nat} {o : Oper} (hi : ops[i]? = some o) : ∀ e ∈ o.after, Region.binds .any e = true → e.on < i := by
  intro e he hb
  have h1 := List.all_eq_true.1 h i (List.mem_range.2 (Array.getElem?_eq_some_iff.1 hi).1)
  rw [hi] at h1
  simp only [Option.map_some, Option.getD_some, Array.all_eq_true_iff_forall_mem] at h1
  have h2 := h1 e he
  rw [hb] at h2
  simpa using h2
/-- the lists of what is done: as long as the region -/
theorem eff_any (B : Act → World → Prop) (E : Nat → Act → World → Prop) (hback : backB ops = true)
    (hs : ∀ i o, ops[i]? = some o → ∀ a w, B a w → (∀ e ∈ o.after, Region.binds .any e = true → E e.on a w) → wpOp P ops Q i (fun a' w' => B a' w' ∧ E i a' w' ∧ ∀ j, j ≠ i → E j a w → E j a' w') a w)
    (hd : ∀ a w, B a w → (∀ i, i < ops.size → E i a w) → Q .normal a w) :
    ∀ (n : Nat) (listed : Array Bool) (a : Act) (w : World), listed.size = ops.size → listed.toList.count false ≤ n → B a w → (∀ i, listed.getD i false = true → E i a w) → wpAny P .any ops Q n listed a w := by
  have full : ∀ (listed : Array Bool) (a : Act) (w : World), listed.size = ops.size → B a w → (∀ i, listed.getD i false = true → E i a w) → Region.ready .any ops listed = [] → Q .normal a w := by
    intro listed a w hz hB hE hr
    refine hd a w hB ?_
    have : ∀ i, i < ops.size → listed.getD i false = true := by
      intro i
      induction i using Nat.strongRecOn with
      | ind i ih =>
        intro hi
        cases hl : listed.getD i false with
        | true => rfl
        | false =>
          have hm : i ∈ Region.ready .any ops listed := by
            refine mem_ready.2 ⟨?_, ops[i], by simp [hi], fun e he hb => ?_⟩
            · have : i < listed.size := by omega
              simp [Array.getD, this] at hl ⊢
              exact hl
            · have hlt := back_spec hback (i := i) (o := ops[i]) (by simp [hi]) e he hb
              exact ih e.on hlt (by omega)
          rw [hr] at hm
          cases hm
    exact fun i hi => hE i (this i hi)
  intro n
  induction n with
  | zero =>
    intro listed a w hz hc hB hE
    have hr : Region.ready .any ops listed = [] := by
      rw [List.eq_nil_iff_forall_not_mem]
      intro i hi
      obtain ⟨h1, _⟩ := mem_ready.1 hi
      have hlt : i < listed.size := by
        by_cases h : i < listed.size
        · exact h
        · simp [Array.getD, h] at h1
      have : listed.toList.count false = 0 := by omega
      rw [List.count_eq_zero] at this
      refine this ?_
      simp [Array.getD, hlt] at h1
      rw [← h1]
      exact Array.getElem_mem_toList hlt
    exact ⟨hr, full listed a w hz hB hE hr⟩
  | succ n ih =>
    intro listed a w hz hc hB hE
    refine ⟨full listed a w hz hB hE, fun i hi => ?_⟩
    obtain ⟨h1, o, ho, h2⟩ := mem_ready.1 hi
    have hlt : i < listed.size := by
      by_cases h : i < listed.size
      · exact h
      · simp [Array.getD, h] at h1
    refine wpOp_mono (fun a' w' ⟨k1, k2, k3⟩ => ih _ a' w' (by simp [hz]) ?_ k1 fun j hj => ?_) (hs i o ho a w hB fun e he hb => hE _ (h2 e he hb))
    · simp [Array.getD, hlt] at h1
      have e1 : (listed.setIfInBounds i true).toList = listed.toList.set i true := by simp
      rw [e1, List.count_set (by simpa using hlt)]
      have : listed.toList[i]'(by simpa using hlt) = false := by simpa using h1
      rw [this]
      have hpos : 0 < listed.toList.count false := List.count_pos_iff.2 (by rw [← this]; exact List.getElem_mem _)
      simp only [beq_self_eq_true, if_true, Bool.true_eq_false, beq_iff_eq, if_false, Nat.add_zero]
      omega
    · by_cases hji : j = i
      · subst hji; exact k2
      · refine k3 j hji (hE j ?_)
        rw [← hj]
        by_cases hjl : j < listed.size
        · simp only [Array.getD, hjl, Array.size_setIfInBounds, dif_pos]
          exact (Array.getElem_setIfInBounds_ne hjl (Ne.symm hji)).symm
        · simp [Array.getD, hjl]
theorem eff_region {id : Nat} {a : Act} {w : World} (hm : P.follows .mixedOrders = true) (B : Act → World → Prop) (E : Nat → Act → World → Prop) (hback : backB ops = true) (h0 : B a w.drew)
    (hs : ∀ i o, ops[i]? = some o → ∀ a w, B a w → (∀ e ∈ o.after, Region.binds .any e = true → E e.on a w) → wpOp P ops Q i (fun a' w' => B a' w' ∧ E i a' w' ∧ ∀ j, j ≠ i → E j a w → E j a' w') a w)
    (hd : ∀ a w, B a w → (∀ i, i < ops.size → E i a w) → Q .normal a w) : (Code.region id ops true).wp P Q a w := by
  refine wp_region_any hm (eff_any B E hback hs hd ops.size _ a _ (by simp) ?_ h0 fun i hi => ?_)
  · simp
  · simp [Array.getD] at hi
end
end Go.Proofs.YtfigneaaeakbcaaDoor.Hm
