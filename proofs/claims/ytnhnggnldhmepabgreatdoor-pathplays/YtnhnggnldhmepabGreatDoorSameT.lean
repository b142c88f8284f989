/-
  the Book's sameTexts, where the two hold the same.
-/
import Derived.Test.YtnhnggnldhmepabGreatDoorTexts
namespace Go.Proofs.YtnhnggnldhmepabGreatDoor
open Go.RowKit

set_option maxHeartbeats 1000000 in
set_option maxRecDepth 100000 in
theorem sameTexts_eq (va vb : Value) (A : List ByteArray) (w : World) (ha : HasT w va A) (hb : HasT w vb A) (hal : A.length ≤ 1048576) :
    Calls Tryz.prog 60 #[va, vb] w fun e w' => e = .returned (.bool true) ∧ w' = w := by
  have HA : Hid (HasT w va A) := ha
  have HB : Hid (HasT w vb A) := hb
  obtain ⟨ao, ca, rfl, _⟩ := ha.form
  obtain ⟨bo, cb, rfl, _⟩ := hb.form
  clear ha hb
  have hlb : ((A.length : Int) != (A.length : Int)) = false := by simp
  go_enter Tryz.func60, Tryz.ntmps60
  go_wp2
  go_loopw [5] (fun i wr => ∃ k : Nat, wr = w ∧ k ≤ A.length ∧ i = .int .i64 k) (fun i _ => A.length - iOf i)
  case atStart => exact ⟨0, rfl, Nat.zero_le _, rfl⟩
  case round =>
    obtain ⟨k, rfl, hk, rfl⟩ := hrel
    by_cases hlt : k < A.length
    · have i1 : (k : Int) < (A.length : Int) := by omega
      obtain ⟨x, hx⟩ : ∃ x, A[k]? = some x := ⟨_, List.getElem?_eq_getElem hlt⟩
      obtain ⟨a0, _, hva, hca⟩ := HA.out.at hx
      obtain ⟨b0, _, hvb, hcb⟩ := HB.out.at hx
      simp at hva hvb
      obtain ⟨rfl, rfl⟩ := hva
      obtain ⟨rfl, rfl⟩ := hvb
      have hq : (x.toList != x.toList) = false := by simp
      clear hx
      go_wp2
      go_roundw
      case rel => exact ⟨k + 1, by simp, by omega, by go_num⟩
      case measure => simp; omega
    · have i1 : ¬ ((k : Int) < (A.length : Int)) := by omega
      go_wp2
      go_ret
      exact ⟨rfl, rfl⟩
end Go.Proofs.YtnhnggnldhmepabGreatDoor
