/-
  THE REFERENCE: digits and quoted texts.
-/
import Derived.Test.YtfigneaaeakbcaaDoorCv
namespace Go.Proofs.YtfigneaaeakbcaaDoor
open Go.RowKit Hm
attribute [local go_sem] Oper.semAt_some

theorem rdigit_any (c : UInt8) (w : World) : Calls Tryd.prog 39 #[.int .u8 (c.toNat : Int)] w fun e w' => e = .returned (.int .i64 (match dig c.toNat with | some d => (d : Int) | none => -1)) ∧ w' = w := by
  have hc := c.toNat_lt
  obtain ⟨E, hE⟩ : ∃ E : Int, (match dig c.toNat with | some d => (d : Int) | none => -1) = E := ⟨_, rfl⟩
  rw [hE]
  generalize c.toNat = n at *
  unfold dig at hE
  by_cases h1 : 48 ≤ n
  · by_cases h2 : n ≤ 57
    · rw [if_pos ⟨h1, h2⟩] at hE
      subst hE
      have i1 : (48 : Int) ≤ n := by omega
      have i2 : (n : Int) ≤ 57 := by omega
      have i3 : IntKind.u8.wrap ((n : Int) - 48) = ((n - 48 : Nat) : Int) := by simp [IntKind.wrap, IntKind.signed, IntKind.bits]; omega
      have i4 : IntKind.i64.wrap ((n - 48 : Nat) : Int) = ((n - 48 : Nat) : Int) := by rw [IntKind.wrap_i64]; omega
      go_enter Tryd.func39, Tryd.ntmps39
      go_wp2
      go_ret
      simp []
    · have i1 : (48 : Int) ≤ n := by omega
      have i2 : ¬ (n : Int) ≤ 57 := by omega
      rw [if_neg (by omega)] at hE
      by_cases h3 : 97 ≤ n ∧ n ≤ 102
      · rw [if_pos h3] at hE
        subst hE
        have i5 : (97 : Int) ≤ n := by omega
        have i6 : (n : Int) ≤ 102 := by omega
        have i3 : IntKind.u8.wrap ((n : Int) - 97) = ((n - 97 : Nat) : Int) := by simp [IntKind.wrap, IntKind.signed, IntKind.bits]; omega
        have i4 : IntKind.i64.wrap ((n - 97 : Nat) : Int) = ((n - 97 : Nat) : Int) := by rw [IntKind.wrap_i64]; omega
        have i7 : IntKind.i64.wrap (((n - 97 : Nat) : Int) + 10) = ((n - 87 : Nat) : Int) := by rw [IntKind.wrap_i64]; omega
        go_enter Tryd.func39, Tryd.ntmps39
        go_wp2
        go_ret
        simp []
      · rw [if_neg h3] at hE
        subst hE
        by_cases h4 : 97 ≤ n
        · have i5 : (97 : Int) ≤ n := by omega
          have i6 : ¬ (n : Int) ≤ 102 := by omega
          go_enter Tryd.func39, Tryd.ntmps39
          go_wp2
          go_ret
          simp
        · have i5 : ¬ (97 : Int) ≤ n := by omega
          go_enter Tryd.func39, Tryd.ntmps39
          go_wp2
          go_ret
          simp
  · have i1 : ¬ (48 : Int) ≤ n := by omega
    have i5 : ¬ (97 : Int) ≤ n := by omega
    rw [if_neg (by omega), if_neg (by omega)] at hE
    subst hE
    go_enter Tryd.func39, Tryd.ntmps39
    go_wp2
    go_ret
    simp
end Go.Proofs.YtfigneaaeakbcaaDoor
