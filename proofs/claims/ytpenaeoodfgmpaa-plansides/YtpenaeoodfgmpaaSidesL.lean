/-
  Plans with the sides exchanged, in Lean alone.
-/
import Derived.Test.YtpenaeoodfgmpaaPlain
namespace Go.Proofs.Ytpenaeoodfgmpaa

/-- a cell, an item with the sides exchanged -/
def sw (c : Cd) : Cd := { c with side := if c.side = 1 ∨ c.side = 2 then 3 - c.side else c.side }
def swI (t : It) : It := { t with frm := t.to, to := t.frm }
theorem sw_at (L : List Cd) (k : Nat) : (L.map sw)[k]? = (L[k]?).map sw := by simp
theorem sw_cnt (c : Cd) : cnt (sw c) = sw (cnt c) := rfl
theorem sw_don (c : Cd) : don (sw c) = don c := by
  unfold don sw
  by_cases a : c.side = 1
  · simp [a]
  · by_cases b : c.side = 2
    · simp [b]
    · simp [a, b]
theorem sw_gat (L : List Cd) (m : Int) (s : Nat) : ∀ k, gat (L.map sw) m s k = gat L m s k
  | 0 => rfl
  | k + 1 => by
    simp only [gat, sw_at]
    rw [sw_gat L m s k]
    cases L[k]? <;> rfl
theorem sw_wst (L : List Cd) (m : Int) : ∀ k, wst (L.map sw) m k = wst L m k
  | 0 => rfl
  | k + 1 => by
    simp only [wst, sw_at]
    rw [sw_wst L m k]
    cases L[k]? <;> rfl
theorem sw_leave (L : List Cd) (m : Int) : leave (L.map sw) m = leave L m := by
  unfold leave
  simp only [List.length_map, sw_gat, sw_wst]
theorem sw_mkI (n k : Nat) {c : Cd} (h : don c = true) : mkI n k (sw c) = swI (mkI n k c) := by
  have hs : c.side = 1 ∨ c.side = 2 := by
    unfold don at h
    simp only [Bool.and_eq_true, Bool.or_eq_true, decide_eq_true_eq] at h
    exact h.2
  rcases hs with e | e <;> simp [mkI, sw, swI, e]
theorem sw_its (L : List Cd) (B : List Bool) : ∀ k, its (L.map sw) B k = (its L B k).map swI
  | 0 => rfl
  | k + 1 => by
    simp only [its, sw_at]
    rw [sw_its L B k]
    cases L[k]? with
    | none => rfl
    | some c =>
      simp only [Option.map_some, sw_don]
      split
      · rename_i h
        rw [List.map_append, List.length_map, sw_mkI _ _ h.2]
        rfl
      · rfl
/-- an item goes from one volume to the other -/
def It.way (t : It) : Prop := (t.to = 0 ∧ t.frm = 1) ∨ (t.to = 1 ∧ t.frm = 0)
theorem its_way (L : List Cd) (B : List Bool) : ∀ k, ∀ t ∈ its L B k, t.way
  | 0 => by simp [its]
  | k + 1 => by
    intro t ht
    simp only [its] at ht
    split at ht
    · rename_i c hc
      split at ht
      · rcases List.mem_append.1 ht with h | h
        · exact its_way L B k t h
        · simp at h
          subst h
          unfold mkI It.way
          simp only
          split <;> simp
      · exact its_way L B k t ht
    · exact its_way L B k t ht
theorem sw_acc (L : List Cd) (T : List It) (hT : ∀ t ∈ T, t.way) (v u : Int) (hvu : (v = 0 ∧ u = 1) ∨ (v = 1 ∧ u = 0)) : ∀ k, acc (L.map sw) (T.map swI) v k = acc L T u k
  | 0 => rfl
  | k + 1 => by
    have ih := sw_acc L T hT v u hvu k
    simp only [acc, List.getElem?_map]
    rw [ih]
    cases ht : T[k]? with
    | none => rfl
    | some t =>
      have hw := hT t (List.mem_of_getElem? ht)
      have e1 : (swI t).to = t.frm := rfl
      have e2 : (swI t).what = t.what := rfl
      have e3 : cellOf (L.map sw) (swI t) = (cellOf L t).map sw := by unfold cellOf; rw [sw_at]; rfl
      simp only [Option.map_some, e1, e2, e3]
      have hiff : (t.frm = v ∧ t.what = 3) ↔ (t.to = u ∧ t.what = 3) := by unfold It.way at hw; omega
      by_cases hc : t.to = u ∧ t.what = 3
      · rw [if_pos hc, if_pos (hiff.2 hc)]
        cases cellOf L t <;> rfl
      · rw [if_neg hc, if_neg (fun h => hc (hiff.1 h))]
theorem sw_plan (L : List Cd) (most : Int) : planF (L.map sw) most = ⟨(planF L most).items.map swI, (planF L most).left, (planF L most).nb, (planF L most).bb, (planF L most).na, (planF L most).ba⟩ := by
  have e : (L.map sw).map cnt = (L.map cnt).map sw := by simp [List.map_map, Function.comp_def, sw_cnt]
  unfold planF
  simp only [e, sw_leave, List.length_map, sw_its]
  rw [sw_acc _ _ (its_way _ _ _) 0 1 (.inl ⟨rfl, rfl⟩), sw_acc _ _ (its_way _ _ _) 1 0 (.inr ⟨rfl, rfl⟩)]
end Go.Proofs.Ytpenaeoodfgmpaa
