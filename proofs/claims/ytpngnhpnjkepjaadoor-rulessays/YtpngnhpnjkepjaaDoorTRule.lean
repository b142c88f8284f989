/-
  The reference's after, rule by contract.
-/
import Derived.Test.YtpngnhpnjkepjaaDoorTLines
namespace Go.Proofs.YtpngnhpnjkepjaaDoor
open Go.RowKit

theorem after_yes (a p : ByteArray) (r : By) (w : World) (_ : a.size ≤ 1048576) (h : tl a = tl p ++ r) :
    Calls Tryd.prog 44 #[.string a, .string p] w fun e w' => e = .returned (.tuple #[.string (ofB r), .bool true]) ∧ w' = w := by
  have h1 := congrArg List.length h
  rw [List.length_append, tl_len, tl_len] at h1
  have i1 : (p.size : Int) ≤ (a.size : Int) := by omega
  have e1 : (a.extract 0 p.size).toList = p.toList := by
    have := tl_extract a 0 p.size
    rw [h] at this
    simp only [tl] at this
    rw [this]
    have hl := tl_len p
    simp only [tl] at hl
    simp [List.drop_zero, ← hl]
  have e2 : ((a.extract 0 p.size).toList == p.toList) = true := by simpa using e1
  have hx : a.extract p.size a.size = ofB r := by
    refine ext_of _ _ ?_
    have hl := tl_len p
    rw [tl_ofB, tl_extract, h, ← hl, List.drop_left, List.take_of_length_le (by rw [hl]; omega)]
  clear h h1 e1
  go_enter Tryd.func44, Tryd.ntmps44
  go_wp2
  go_ret2
  exact ⟨by rw [← hx]; rfl, rfl⟩
theorem after_no (a p : ByteArray) (w : World) (_ : a.size ≤ 1048576) (_ : p.size ≤ 1048576) (h : ∀ r, tl a ≠ tl p ++ r) :
    Calls Tryd.prog 44 #[.string a, .string p] w fun e w' => e = .returned (.tuple #[.string ⟨#[]⟩, .bool false]) ∧ w' = w := by
  by_cases hl : p.size ≤ a.size
  · have i1 : (p.size : Int) ≤ (a.size : Int) := by omega
    have e1 : (a.extract 0 p.size).toList ≠ p.toList := by
      intro e
      have h2 := tl_extract a 0 p.size
      simp only [tl] at h2
      rw [e] at h2
      refine h ((tl a).drop p.size) ?_
      have : tl p = (tl a).take p.size := by simp only [tl]; rw [h2]; simp
      rw [this, List.take_append_drop]
    have e2 : ((a.extract 0 p.size).toList == p.toList) = false := by simpa using e1
    go_enter Tryd.func44, Tryd.ntmps44
    go_wp2
    go_ret2
    exact ⟨rfl, rfl⟩
  · have i1 : (a.size : Int) < (p.size : Int) := by omega
    go_enter Tryd.func44, Tryd.ntmps44
    go_wp2
    go_ret2
    exact ⟨rfl, rfl⟩
theorem cutR_before {l : By} {k : Nat} (hk : k = 1 ∨ k = 2 ∨ k = 3) (hn : ∀ j, 1 ≤ j → j < k → ¬ headB j <+: l) (r : By) (h : l = headB k ++ r) : cutR l = some (k, r) := by
  rw [cutR_at hk hn ⟨r, h.symm⟩, h, List.drop_left]
end Go.Proofs.YtpngnhpnjkepjaaDoor
