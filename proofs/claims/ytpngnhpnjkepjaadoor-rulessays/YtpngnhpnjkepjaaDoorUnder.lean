import Derived.Test.YtpngnhpnjkepjaaDoorBase
namespace Go.Proofs.YtpngnhpnjkepjaaDoor
open Go.RowKit

/-- is p root, or below it? -/
noncomputable def underB (p root : By) : Bool := @decide (underL p root) (Classical.propDecidable _)
theorem underB_iff {p root : By} : underB p root = true ↔ underL p root := by unfold underB; simp

theorem hasPrefix_yes (a p : ByteArray) (r : By) (w : World) (_ha : a.size ≤ 1152921504606846976) (h : tl a = tl p ++ r) :
    Calls Tryd.prog 98 #[.string a, .string p] w fun e w' => e = .returned (.bool true) ∧ w' = w := by
  have h1 := congrArg List.length h
  rw [List.length_append, tl_len, tl_len] at h1
  have i1 : (p.size : Int) ≤ (a.size : Int) := by omega
  have e1 : (a.extract 0 p.size).toList = p.toList := by
    have := tl_extract a 0 p.size
    rw [h] at this
    simp only [tl] at this
    rw [this]
    have hl := tl_len p
    simp only [tl] at hl
    simp [List.drop_zero, ← hl]
  have e2 : ((a.extract 0 p.size).toList == p.toList) = true := by simpa using e1
  go_enter Tryd.func98, Tryd.ntmps98
  go_wp2
  go_ret
  exact ⟨rfl, rfl⟩
theorem hasPrefix_no (a p : ByteArray) (w : World) (_ha : a.size ≤ 1152921504606846976) (_hp : p.size ≤ 1152921504606846976) (h : ∀ r, tl a ≠ tl p ++ r) :
    Calls Tryd.prog 98 #[.string a, .string p] w fun e w' => e = .returned (.bool false) ∧ w' = w := by
  by_cases hl : p.size ≤ a.size
  · have i1 : (p.size : Int) ≤ (a.size : Int) := by omega
    have e1 : (a.extract 0 p.size).toList ≠ p.toList := by
      intro e
      have h2 := tl_extract a 0 p.size
      simp only [tl] at h2
      rw [e] at h2
      refine h ((tl a).drop p.size) ?_
      have : tl p = (tl a).take p.size := by simp only [tl]; rw [h2]; simp
      rw [this, List.take_append_drop]
    have e2 : ((a.extract 0 p.size).toList == p.toList) = false := by simpa using e1
    go_enter Tryd.func98, Tryd.ntmps98
    go_wp2
    go_ret
    exact ⟨rfl, rfl⟩
  · have i1 : ¬ ((p.size : Int) ≤ (a.size : Int)) := by omega
    go_enter Tryd.func98, Tryd.ntmps98
    go_wp2
    go_ret
    exact ⟨rfl, rfl⟩
set_option maxHeartbeats 400000 in
theorem cutPrefix_yes (a p : ByteArray) (r : By) (w : World) (ha : a.size ≤ 1152921504606846976) (h : tl a = tl p ++ r) :
    Calls Tryd.prog 67 #[.string a, .string p] w fun e w' => e = .returned (.tuple #[.string (a.extract p.size a.size), .bool true]) ∧ w' = w := by
  have C := fun W => hasPrefix_yes a p r W ha h
  have h1 := congrArg List.length h
  rw [List.length_append, tl_len, tl_len] at h1
  have i1 : (p.size : Int) ≤ (a.size : Int) := by omega
  clear h h1
  go_enter Tryd.func67, Tryd.ntmps67
  go_wp2_with (first
    | (go_at_call 98; refine (C _).mono ?_; rintro e w1 ⟨rfl, rfl⟩)
    | go_in)
  go_ret2
  exact ⟨rfl, rfl⟩
set_option maxHeartbeats 400000 in
theorem cutPrefix_no (a p : ByteArray) (w : World) (ha : a.size ≤ 1152921504606846976) (hp : p.size ≤ 1152921504606846976) (h : ∀ r, tl a ≠ tl p ++ r) :
    Calls Tryd.prog 67 #[.string a, .string p] w fun e w' => e = .returned (.tuple #[.string a, .bool false]) ∧ w' = w := by
  have C := fun W => hasPrefix_no a p W ha hp h
  clear h
  go_enter Tryd.func67, Tryd.ntmps67
  go_wp2_with (first
    | (go_at_call 98; refine (C _).mono ?_; rintro e w1 ⟨rfl, rfl⟩)
    | go_in)
  go_ret2
  exact ⟨rfl, rfl⟩
end Go.Proofs.YtpngnhpnjkepjaaDoor
