/-
  A bare word in one go.
-/
import Derived.Test.YtfigneaaeakbcaaDoorPr
namespace Go.Proofs.YtfigneaaeakbcaaDoor
open Go

def spc (c : Nat) : Prop := c = 32 ∨ c = 9 ∨ c = 35 ∨ c = 34
theorem drop_at {l : By} {i : Nat} {c : UInt8} (h : l[i]? = some c) : l.drop i = c :: l.drop (i + 1) := by
  have hl := (List.getElem?_eq_some_iff.1 h).1
  rw [List.drop_eq_getElem_cons hl]; congr 1; exact (List.getElem?_eq_some_iff.1 h).2
theorem next_b0 (line : By) (at_ i c f : Nat) (s : By) (l : List W) : nextC line at_ i c ⟨0, f, s, l⟩ = bareC line at_ i c ⟨0, f, s, l⟩ := rfl
theorem next_b1 (line : By) (at_ i c f : Nat) (s : By) (l : List W) : nextC line at_ i c ⟨1, f, s, l⟩ = bareC line at_ i c ⟨1, f, s, l⟩ := rfl
theorem w_blank {line : By} {at_ i f : Nat} {s : By} {l : List W} {c : UInt8} (h : line[i]? = some c) (hc : c.toNat = 32 ∨ c.toNat = 9) : wOf line at_ (line.drop i) i ⟨0, f, s, l⟩ = wOf line at_ (line.drop (i + 1)) (i + 1) ⟨0, f, s, l⟩ := by
  rw [drop_at h, w_cons _ _ _ _ _ _ (by simp), next_b0, bareC, if_pos hc]
  rfl
theorem w_hash {line : By} {at_ i f : Nat} {s : By} {l : List W} {c : UInt8} (h : line[i]? = some c) (hc : c.toNat = 35) : wOf line at_ (line.drop i) i ⟨0, f, s, l⟩ = l := by
  rw [drop_at h, w_cons _ _ _ _ _ _ (by simp), next_b0, bareC, if_neg (by omega), if_pos hc, w_six _ _ _ _ _ rfl]
  rfl
theorem w_quote {line : By} {at_ i f : Nat} {s : By} {l : List W} {c : UInt8} (h : line[i]? = some c) (hc : c.toNat = 34) : wOf line at_ (line.drop i) i ⟨0, f, s, l⟩ = wOf line at_ (line.drop (i + 1)) (i + 1) ⟨2, i, [], l⟩ := by
  rw [drop_at h, w_cons _ _ _ _ _ _ (by simp), next_b0, bareC, if_neg (by omega), if_neg (by omega), if_pos hc]
  rfl
theorem w_bare {line : By} {at_ i f : Nat} {s : By} {l : List W} {c : UInt8} (h : line[i]? = some c) (hc : ¬ spc c.toNat) : wOf line at_ (line.drop i) i ⟨0, f, s, l⟩ = wOf line at_ (line.drop (i + 1)) (i + 1) ⟨1, i, s, l⟩ := by
  unfold spc at hc
  rw [drop_at h, w_cons _ _ _ _ _ _ (by simp), next_b0, bareC, if_neg (by omega), if_neg (by omega), if_neg (by omega), if_pos rfl]
theorem w_in {line : By} {at_ i f : Nat} {s : By} {l : List W} {c : UInt8} (h : line[i]? = some c) (hc : ¬ spc c.toNat) : wOf line at_ (line.drop i) i ⟨1, f, s, l⟩ = wOf line at_ (line.drop (i + 1)) (i + 1) ⟨1, f, s, l⟩ := by
  unfold spc at hc
  rw [drop_at h, w_cons _ _ _ _ _ _ (by simp), next_b1, bareC, if_neg (by omega), if_neg (by omega), if_neg (by omega), if_neg (by simp)]
theorem bare35 {line : By} {a i c : Nat} (x : Cs) (h : c = 35) : bareC line a i c x = leaveC line a i 6 x := by unfold bareC; rw [if_neg (by omega), if_pos h]
theorem bare34 {line : By} {a i c : Nat} (x : Cs) (h : c = 34) : bareC line a i c x = quoS i (leaveC line a i 2 x) := by unfold bareC; rw [if_neg (by omega), if_neg (by omega), if_pos h]
theorem bare32 {line : By} {a i c : Nat} (x : Cs) (h : c = 32 ∨ c = 9) : bareC line a i c x = leaveC line a i 0 x := by unfold bareC; rw [if_pos h]
theorem w_out {line : By} {at_ k f : Nat} {s : By} {l : List W} (h : k = line.length ∨ ∃ c, line[k]? = some c ∧ spc c.toNat) : wOf line at_ (line.drop k) k ⟨1, f, s, l⟩ = wOf line at_ (line.drop k) k ⟨0, f, s, l ++ [⟨at_ + f, 0, (line.drop f).take (k - f)⟩]⟩ := by
  rcases h with rfl | ⟨c, hc, hs⟩
  · rw [List.drop_length]
    unfold wOf runC closeC
    rw [if_pos rfl, if_neg (by simp), if_neg (by simp)]
    unfold leaveC
    rw [if_pos rfl]
    rfl
  · rw [drop_at hc, w_cons _ _ _ _ _ _ (by simp), w_cons _ _ _ _ _ _ (by simp), next_b1, next_b0]
    congr 1
    rcases hs with hs | hs | hs | hs
    · rw [bare32 _ (.inl hs), bare32 _ (.inl hs)]; rfl
    · rw [bare32 _ (.inr hs), bare32 _ (.inr hs)]; rfl
    · rw [bare35 _ hs, bare35 _ hs]; rfl
    · rw [bare34 _ hs, bare34 _ hs]; rfl
theorem w_end {line : By} {at_ i f : Nat} {s : By} {l : List W} (h : line.length ≤ i) : wOf line at_ (line.drop i) i ⟨0, f, s, l⟩ = l := by
  rw [List.drop_of_length_le h]
  rfl
end Go.Proofs.YtfigneaaeakbcaaDoor
