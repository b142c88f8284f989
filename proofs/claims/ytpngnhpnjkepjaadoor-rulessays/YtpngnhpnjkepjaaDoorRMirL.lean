/-
  What mirrors say, and what lies below, in Lean alone.
-/
import Derived.Test.YtpngnhpnjkepjaaDoorRMir
import Derived.Test.YtpngnhpnjkepjaaDoorRPref
namespace Go.Proofs.YtpngnhpnjkepjaaDoor

theorem mirK_one (k : Nat) : mirK k = 1 ↔ k = 1 := by
  unfold mirK
  repeat' split
  all_goals omega
theorem skipsOf_mir (L : List Ru) : skipsOf (mirR L) = skipsOf L := by
  unfold skipsOf mirR
  rw [List.filter_map, List.map_map]
  have e : ((fun r : Ru => decide (r.1 = 1)) ∘ fun r : Ru => (mirK r.1, r.2)) = fun r : Ru => decide (r.1 = 1) := by
    funext r
    simp [mirK_one]
  rw [e]
  rfl
theorem skipR_mir (L : List Ru) (p : By) : skipR (mirR L) p = skipR L p := by unfold skipR; rw [skipsOf_mir]
theorem prefsOf_mir {L : List Ru} (h : ∀ r ∈ L, r.1 = 1 ∨ r.1 = 2 ∨ r.1 = 3) : prefsOf (mirR L) = (prefsOf L).map (fun r => (3 - r.1, r.2)) ∧ ∀ r ∈ prefsOf L, r.1 = 1 ∨ r.1 = 2 := by
  induction L with
  | nil => exact ⟨rfl, by simp [prefsOf]⟩
  | cons x L ih =>
    obtain ⟨i1, i2⟩ := ih fun r hr => h r (by simp [hr])
    obtain ⟨k, q⟩ := x
    have hk := h (k, q) (by simp)
    have e : mirR ((k, q) :: L) = (mirK k, q) :: mirR L := rfl
    rw [e]
    simp only at hk
    rcases hk with rfl | rfl | rfl
    · have a1 : prefsOf ((mirK 1, q) :: mirR L) = prefsOf (mirR L) := by simp [prefsOf, mirK]
      have a2 : prefsOf ((1, q) :: L) = prefsOf L := by simp [prefsOf]
      rw [a1, a2]; exact ⟨i1, i2⟩
    · have a1 : prefsOf ((mirK 2, q) :: mirR L) = (2, q) :: prefsOf (mirR L) := by simp [prefsOf, mirK]
      have a2 : prefsOf ((2, q) :: L) = (1, q) :: prefsOf L := by simp [prefsOf]
      rw [a1, a2, i1]
      refine ⟨rfl, fun r hr => ?_⟩
      rcases List.mem_cons.1 hr with rfl | hr
      · exact .inl rfl
      · exact i2 r hr
    · have a1 : prefsOf ((mirK 3, q) :: mirR L) = (1, q) :: prefsOf (mirR L) := by simp [prefsOf, mirK]
      have a2 : prefsOf ((3, q) :: L) = (2, q) :: prefsOf L := by simp [prefsOf]
      rw [a1, a2, i1]
      refine ⟨rfl, fun r hr => ?_⟩
      rcases List.mem_cons.1 hr with rfl | hr
      · exact .inr rfl
      · exact i2 r hr
theorem firstNZ_cons (x : Nat) (l : List Nat) : firstNZ (x :: l) = if x = 0 then firstNZ l else x := by
  unfold firstNZ
  by_cases h : x = 0
  · subst h; simp
  · simp [h]
theorem firstNZ_mir (p : By) : ∀ (qs : List (Nat × By)), (∀ r ∈ qs, r.1 = 1 ∨ r.1 = 2) →
    (firstNZ (qs.map fun r => sideR r p) = 0 ∧ firstNZ (qs.map fun r => sideR (3 - r.1, r.2) p) = 0) ∨ (firstNZ (qs.map fun r => sideR r p) + firstNZ (qs.map fun r => sideR (3 - r.1, r.2) p) = 3 ∧ 1 ≤ firstNZ (qs.map fun r => sideR r p) ∧ 1 ≤ firstNZ (qs.map fun r => sideR (3 - r.1, r.2) p))
  | [], _ => .inl ⟨rfl, rfl⟩
  | r :: qs, h => by
    have ih := firstNZ_mir p qs fun x hx => h x (by simp [hx])
    have hr := h r (by simp)
    rw [List.map_cons, List.map_cons, firstNZ_cons, firstNZ_cons]
    unfold sideR
    simp only
    by_cases hm : (matchV r.2 p).1 = true
    · right
      rw [if_pos hm, if_pos hm, if_neg (by omega), if_neg (by omega)]
      omega
    · rw [if_neg hm, if_neg hm, if_pos rfl, if_pos rfl]
      exact ih
theorem prefR_mir {L : List Ru} (h : ∀ r ∈ L, r.1 = 1 ∨ r.1 = 2 ∨ r.1 = 3) (p : By) : (prefR L p = 0 ∧ prefR (mirR L) p = 0) ∨ (prefR L p + prefR (mirR L) p = 3 ∧ 1 ≤ prefR L p ∧ 1 ≤ prefR (mirR L) p) := by
  obtain ⟨h1, h2⟩ := prefsOf_mir h
  have := firstNZ_mir p (prefsOf L).reverse (fun r hr => h2 r (List.mem_reverse.1 hr))
  unfold prefR
  rw [h1, ← List.map_reverse, List.map_map]
  exact this
theorem skipR_root (L : List Ru) : skipR L [] = false := by
  unfold skipR
  rw [show pieces [] = [] from rfl]; simp
theorem prefR_root (L : List Ru) : prefR L [] = 0 := by
  unfold prefR
  refine firstNZ_zero fun x hx => ?_
  obtain ⟨r, _, rfl⟩ := List.mem_map.1 hx
  unfold sideR
  rw [matchV_root]; rfl
/-- what lies below what is let be -/
theorem skipR_below {L : List Ru} {p nm : By} (hp : p ≠ []) (hs : skipR L p = true) (hq : splitE (joinL [p, nm]) 64 = 0) : skipR L (joinL [p, nm]) = true := by
  have e0 : joinL [p, nm] = p ++ 47 :: nm := rfl
  have e1 : pieces (joinL [p, nm]) = pieces p ++ cuts nm := by
    rw [e0]
    unfold pieces
    rw [if_neg (by simp), if_neg hp, cuts_mid]
  unfold skipR at hs ⊢
  rw [hq]
  simp only [decide_true, Bool.true_and]
  rw [Bool.and_eq_true] at hs
  obtain ⟨k, hk, hh⟩ := List.any_eq_true.1 hs.2
  have hkl := List.mem_range.1 hk
  refine List.any_eq_true.2 ⟨k, List.mem_range.2 (by rw [e1, List.length_append]; omega), ?_⟩
  rw [e1, List.take_append_of_le_length (by omega)]
  exact hh
end Go.Proofs.YtpngnhpnjkepjaaDoor
