import Derived.Test.YtnhnggnldhmepabGreatDoorBase
namespace Go.Proofs.YtnhnggnldhmepabGreatDoor
open Go.RowKit

/-- is p root, or below it? -/
noncomputable def underB (p root : By) : Bool := @decide (underL p root) (Classical.propDecidable _)
theorem underB_iff {p root : By} : underB p root = true ↔ underL p root := by unfold underB; simp

theorem hasPrefix_yes (a p : ByteArray) (r : By) (w : World) (_ha : a.size ≤ 1152921504606846976) (h : tl a = tl p ++ r) :
    Calls Tryz.prog 159 #[.string a, .string p] w fun e w' => e = .returned (.bool true) ∧ w' = w := by
  have h1 := congrArg List.length h
  rw [List.length_append, tl_len, tl_len] at h1
  have i1 : (p.size : Int) ≤ (a.size : Int) := by omega
  have e1 : (a.extract 0 p.size).toList = p.toList := by
    have := tl_extract a 0 p.size
    rw [h] at this
    simp only [tl] at this
    rw [this]
    have hl := tl_len p
    simp only [tl] at hl
    simp [List.drop_zero, ← hl]
  have e2 : ((a.extract 0 p.size).toList == p.toList) = true := by simpa using e1
  go_enter Tryz.func159, Tryz.ntmps159
  go_wp2
  go_ret
  exact ⟨rfl, rfl⟩
theorem hasPrefix_no (a p : ByteArray) (w : World) (_ha : a.size ≤ 1152921504606846976) (_hp : p.size ≤ 1152921504606846976) (h : ∀ r, tl a ≠ tl p ++ r) :
    Calls Tryz.prog 159 #[.string a, .string p] w fun e w' => e = .returned (.bool false) ∧ w' = w := by
  by_cases hl : p.size ≤ a.size
  · have i1 : (p.size : Int) ≤ (a.size : Int) := by omega
    have e1 : (a.extract 0 p.size).toList ≠ p.toList := by
      intro e
      have h2 := tl_extract a 0 p.size
      simp only [tl] at h2
      rw [e] at h2
      refine h ((tl a).drop p.size) ?_
      have : tl p = (tl a).take p.size := by simp only [tl]; rw [h2]; simp
      rw [this, List.take_append_drop]
    have e2 : ((a.extract 0 p.size).toList == p.toList) = false := by simpa using e1
    go_enter Tryz.func159, Tryz.ntmps159
    go_wp2
    go_ret
    exact ⟨rfl, rfl⟩
  · have i1 : ¬ ((p.size : Int) ≤ (a.size : Int)) := by omega
    go_enter Tryz.func159, Tryz.ntmps159
    go_wp2
    go_ret
    exact ⟨rfl, rfl⟩
set_option maxHeartbeats 400000 in
theorem cutPrefix_yes (a p : ByteArray) (r : By) (w : World) (ha : a.size ≤ 1152921504606846976) (h : tl a = tl p ++ r) :
    Calls Tryz.prog 86 #[.string a, .string p] w fun e w' => e = .returned (.tuple #[.string (a.extract p.size a.size), .bool true]) ∧ w' = w := by
  have C := fun W => hasPrefix_yes a p r W ha h
  have h1 := congrArg List.length h
  rw [List.length_append, tl_len, tl_len] at h1
  have i1 : (p.size : Int) ≤ (a.size : Int) := by omega
  clear h h1
  go_enter Tryz.func86, Tryz.ntmps86
  go_wp2_with (first
    | (go_at_call 159; refine (C _).mono ?_; rintro e w1 ⟨rfl, rfl⟩)
    | go_in)
  go_ret2
  exact ⟨rfl, rfl⟩
set_option maxHeartbeats 400000 in
theorem cutPrefix_no (a p : ByteArray) (w : World) (ha : a.size ≤ 1152921504606846976) (hp : p.size ≤ 1152921504606846976) (h : ∀ r, tl a ≠ tl p ++ r) :
    Calls Tryz.prog 86 #[.string a, .string p] w fun e w' => e = .returned (.tuple #[.string a, .bool false]) ∧ w' = w := by
  have C := fun W => hasPrefix_no a p W ha hp h
  clear h
  go_enter Tryz.func86, Tryz.ntmps86
  go_wp2_with (first
    | (go_at_call 159; refine (C _).mono ?_; rintro e w1 ⟨rfl, rfl⟩)
    | go_in)
  go_ret2
  exact ⟨rfl, rfl⟩
set_option maxHeartbeats 400000 in
set_option maxRecDepth 100000 in
theorem under_any (a p : ByteArray) (w : World) (ha : a.size ≤ 1152921504606846976) (hp : p.size ≤ 1152921504606846976) :
    Calls Tryz.prog 53 #[.string a, .string p] w fun e w' => e = .returned (.bool (underB (tl a) (tl p))) ∧ w' = w := by
  by_cases h1 : p.toList = []
  · rw [underB_iff.2 (.inl h1)]
    have b1 : p.toList.isEmpty = true := by simpa using h1
    go_enter Tryz.func53, Tryz.ntmps53
    go_wp2
    go_ret
    exact ⟨rfl, rfl⟩
  · have b1 : p.toList.isEmpty = false := by simpa using h1
    by_cases h2 : a.toList = p.toList
    · rw [underB_iff.2 (.inr (.inl h2))]
      have b2 : (a.toList == p.toList) = true := by simpa using h2
      go_enter Tryz.func53, Tryz.ntmps53
      go_wp2
      go_ret
      exact ⟨rfl, rfl⟩
    · have b2 : (a.toList == p.toList) = false := by simpa using h2
      by_cases h3 : ∃ r, tl a = tl p ++ r
      · obtain ⟨r, hr⟩ := h3
        have C := cutPrefix_yes a p r w ha hr
        have hx : tl (a.extract p.size a.size) = r := by
          rw [tl_extract, hr, ← tl_len p, List.drop_left]
          have := congrArg List.length hr
          rw [List.length_append, tl_len, tl_len] at this
          apply List.take_of_length_le
          rw [tl_len]; omega
        have hsz : (a.extract p.size a.size).size = r.length := by rw [← tl_len, hx]
        cases r with
        | nil => exact absurd (by rw [List.append_nil] at hr; exact hr) h2
        | cons x r =>
          have hlt : 0 < (a.extract p.size a.size).size := by rw [hsz]; simp
          have e0 := tl_at _ 0 hlt
          rw [hx] at e0
          simp at e0
          have hU : underB (tl a) (tl p) = decide ((x.toNat : Int) = 47) := by
            by_cases hxx : x = 47
            · subst hxx
              rw [underB_iff.2 (.inr (.inr ⟨r, hr⟩))]; rfl
            · have : underB (tl a) (tl p) = false := by
                rw [Bool.eq_false_iff]
                intro q
                rcases underB_iff.1 q with q | q | ⟨r', q⟩
                · exact h1 q
                · exact h2 q
                · rw [hr] at q; simp at q; exact hxx q.1
              rw [this, eq_comm]
              simp only [decide_eq_false_iff_not]
              intro q; exact hxx (UInt8.toNat_inj.1 (by show x.toNat = 47; omega))
          rw [hU]
          have hltI : (0 : Int) < ((a.extract p.size a.size).size : Int) := by omega
          clear hU hr hx hsz h2
          generalize a.extract p.size a.size = c at *
          go_enter Tryz.func53, Tryz.ntmps53
          go_wp2_with (go_at_call 86; refine C.mono ?_; rintro e w1 ⟨rfl, rfl⟩)
          go_ret
          refine ⟨?_, rfl⟩
          show Ending.returned (Value.bool _) = _
          simp [← e0]
          rfl
      · have C := cutPrefix_no a p w ha hp (fun r q => h3 ⟨r, q⟩)
        have : underB (tl a) (tl p) = false := by
          rw [Bool.eq_false_iff]
          intro q
          rcases underB_iff.1 q with q | q | ⟨r', q⟩
          · exact h1 q
          · exact h2 q
          · exact h3 ⟨_, q⟩
        rw [this]
        go_enter Tryz.func53, Tryz.ntmps53
        go_wp2_with (go_at_call 86; refine C.mono ?_; rintro e w1 ⟨rfl, rfl⟩)
        go_ret
        exact ⟨rfl, rfl⟩
end Go.Proofs.YtnhnggnldhmepabGreatDoor
