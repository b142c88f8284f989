/-
  What a version tells of checked data passes Check.
-/
import Derived.Test.YtglnpmdigghibaaFold
import Derived.Test.YtglnpmdigghibaaOrd
namespace Go.Proofs.Ytglnpmdigghibaa
open Go.RowKit

theorem unkV_kind (v : Vd) : (unkV v).kind = v.kind := by unfold unkV; split <;> rfl
theorem rightVB_unk {v : Vd} (h : rightVB v = true) : rightVB (unkV v) = true := by
  by_cases h3 : v.kind = 3
  · unfold unkV; rw [if_pos h3]; exact h
  · unfold rightVB at h ⊢
    rw [unkV_kind]
    by_cases h1 : v.kind = 1
    · rw [if_pos h1] at h ⊢
      rw [decide_eq_true_eq] at h ⊢
      unfold unkV
      rw [if_neg h3]
      exact ⟨⟨by show (0 : Int) ≤ 8; decide, by show (8 : Int) ≤ 8; decide⟩, h.2⟩
    · rw [if_neg h1] at h ⊢
      by_cases h2 : v.kind = 2
      · rw [if_pos h2] at h ⊢
        rw [decide_eq_true_eq] at h ⊢
        unfold unkV
        rw [if_neg h3]
        exact ⟨⟨by show (0 : Int) ≤ 8; decide, by show (8 : Int) ≤ 8; decide⟩, h.2⟩
      · rw [if_neg h2, if_neg h3] at h
        cases h
theorem rightVB_of_own {v : Vd} {m : Md} {b : Bool} (h : ownE v m b = 0) : rightVB v = true := by
  unfold ownE at h
  split at h
  · cases h
  · split at h
    · cases h
    · split at h
      · cases h
      · rename_i q
        simpa using q
theorem pv_kind (ver : Int) (v : Vd) : (pv ver v).kind = v.kind := by unfold pv; split; exact unkV_kind v; rfl
theorem rightVB_pv (ver : Int) {v : Vd} (h : rightVB v = true) : rightVB (pv ver v) = true := by unfold pv; split; exact rightVB_unk h; exact h
theorem ownE_pv (ver : Int) {v : Vd} {m : Md} {b : Bool} (h : ownE v m b = 0) : ownE (pv ver v) Md.zero b = 0 := by
  have hr := rightVB_of_own h
  have hu := rightVB_pv ver hr
  unfold ownE at h ⊢
  rw [pv_kind, hu]
  split at h
  · cases h
  · rename_i h1
    rw [if_neg h1]
    split at h
    · cases h
    · rename_i h2
      rw [if_neg h2, if_neg (by simp), if_neg (fun q => by rcases q.2 with q | q <;> exact absurd q (by decide)), if_neg (fun q => q.2 rfl)]
theorem faultF_pv (ver : Int) : ∀ (f : F) (prev : Option ByteArray) (L : List ByteArray), faultF f prev L = none → faultF (f.mp (pv ver) noM) prev L = none
  | .nil, _, _, _ => rfl
  | .cons nm v m ks r, prev, L, h => by
    rw [faultF] at h
    rw [F.mp, faultF]
    split at h
    · cases h
    · rename_i h1
      split at h
      · cases h
      · rename_i h2
        split at h
        · cases h
        · rename_i h3
          rw [if_neg h1, F.mp_len, noM, if_neg (by rw [ownE_pv ver (Classical.not_not.1 h2)]; simp), faultF_pv ver ks none (L ++ [nm]) h3]
          exact faultF_pv ver r (some nm) L h
/-- what a version tells of checked data passes Check -/
theorem checkE_pv (ver : Int) {v : Vd} {m : Md} {ks : F} (h : checkE v m ks = 0) : checkE (pv ver v) Md.zero (ks.mp (pv ver) noM) = 0 := by
  obtain ⟨h1, h2⟩ := check_none h
  unfold checkE faultN
  rw [F.mp_len, if_neg (by rw [ownE_pv ver h1]; simp), faultF_pv ver ks none [] h2]
  rfl
end Go.Proofs.Ytglnpmdigghibaa
