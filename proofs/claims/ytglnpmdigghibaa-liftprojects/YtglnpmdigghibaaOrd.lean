/-
  THE ORDER OF NAMES, byte by byte; forests that rise; cmp.Compare and find by contract.
-/
import Derived.Test.YtglnpmdigghibaaOf
namespace Go.Proofs.Ytglnpmdigghibaa
open Go.RowKit

theorem bl_irrefl : ∀ l : List UInt8, Op.bytesLess l l = false
  | [] => rfl
  | a :: l => by simp [Op.bytesLess, bl_irrefl l]
theorem bl_trans : ∀ {a b c : List UInt8}, Op.bytesLess a b = true → Op.bytesLess b c = true → Op.bytesLess a c = true
  | _, _, [], _, h => by simp [Op.bytesLess] at h
  | _, [], _ :: _, h, _ => by simp [Op.bytesLess] at h
  | [], _ :: _, _ :: _, _, _ => rfl
  | a :: x, b :: y, c :: z, h, k => by
    simp only [Op.bytesLess, Bool.or_eq_true, decide_eq_true_eq, Bool.and_eq_true, beq_iff_eq] at h k ⊢
    rcases h with h | ⟨rfl, h⟩
    · rcases k with k | ⟨rfl, k⟩
      · exact .inl (UInt8.lt_trans h k)
      · exact .inl h
    · rcases k with k | ⟨rfl, k⟩
      · exact .inl k
      · exact .inr ⟨rfl, bl_trans h k⟩
theorem u8_tri (a b : UInt8) : a < b ∨ a = b ∨ b < a := by
  rcases Nat.lt_trichotomy a.toNat b.toNat with h | h | h
  · exact .inl (UInt8.lt_iff_toNat_lt.2 h)
  · exact .inr (.inl (UInt8.toNat_inj.1 h))
  · exact .inr (.inr (UInt8.lt_iff_toNat_lt.2 h))
theorem bl_tri : ∀ a b : List UInt8, a = b ∨ Op.bytesLess a b = true ∨ Op.bytesLess b a = true
  | [], [] => .inl rfl
  | [], _ :: _ => .inr (.inl rfl)
  | _ :: _, [] => .inr (.inr rfl)
  | a :: x, b :: y => by
    simp only [Op.bytesLess, Bool.or_eq_true, decide_eq_true_eq, Bool.and_eq_true, beq_iff_eq]
    rcases u8_tri a b with h | h | h
    · exact .inr (.inl (.inl h))
    · subst h
      rcases bl_tri x y with h | h | h
      · exact .inl (by rw [h])
      · exact .inr (.inl (.inr ⟨rfl, h⟩))
      · exact .inr (.inr (.inr ⟨rfl, h⟩))
    · exact .inr (.inr (.inl h))
theorem toList_inj {a b : ByteArray} (h : a.toList = b.toList) : a = b := by
  rw [ByteArray.toList_eq, ByteArray.toList_eq] at h
  cases a
  cases b
  simp only [ByteArray.mk.injEq]
  exact Array.toList_inj.1 h
/-- a stands ahead of b -/
def lt (a b : ByteArray) : Prop := Op.bytesLess a.toList b.toList = true
theorem lt_irrefl (a : ByteArray) : ¬ lt a a := fun h => by unfold lt at h; rw [bl_irrefl] at h; cases h
theorem lt_trans {a b c : ByteArray} (h : lt a b) (k : lt b c) : lt a c := bl_trans h k
theorem lt_tri (a b : ByteArray) : a = b ∨ lt a b ∨ lt b a := (bl_tri a.toList b.toList).imp toList_inj id
theorem lt_no {a b : ByteArray} (h : lt a b) : ¬ lt b a ∧ a ≠ b := ⟨fun k => lt_irrefl _ (lt_trans h k), fun e => lt_irrefl b (e ▸ h)⟩

/-- all names stand behind nm -/
def F.above (nm : ByteArray) : F → Prop
  | .nil => True
  | .cons n _ _ _ r => lt nm n ∧ F.above nm r
/-- all names stand ahead of nm -/
def F.under (nm : ByteArray) : F → Prop
  | .nil => True
  | .cons n _ _ _ r => lt n nm ∧ F.under nm r
/-- the names rise, at every height -/
def F.rises : F → Prop
  | .nil => True
  | .cons n _ _ k r => F.above n r ∧ F.rises k ∧ F.rises r
theorem F.above_mono {a b : ByteArray} (h : lt a b) : ∀ {f : F}, f.above b → f.above a
  | .nil, _ => trivial
  | .cons _ _ _ _ _, ⟨h1, h2⟩ => ⟨lt_trans h h1, F.above_mono h h2⟩
theorem F.above_app {nm : ByteArray} : ∀ {f g : F}, (f.app g).above nm ↔ f.above nm ∧ g.above nm
  | .nil, g => by simp [F.app, F.above]
  | .cons _ _ _ _ r, g => by simp [F.app, F.above, F.above_app (f := r), and_assoc]
theorem F.rises_app {n : ByteArray} {v : Vd} {m : Md} {k : F} : ∀ {f g : F}, (f.app (.cons n v m k g)).rises ↔ f.rises ∧ f.under n ∧ g.above n ∧ k.rises ∧ g.rises ∧ (∀ x, f.under x ∨ True)
  | .nil, g => by simp [F.app, F.rises, F.under]
  | .cons n' v' m' k' r, g => by
    simp only [F.app, F.rises, F.rises_app (f := r), F.above_app, F.above, F.under]
    constructor
    · rintro ⟨⟨h1, h2, h3⟩, h4, h5, h6, h7, h8, h9, _⟩
      exact ⟨⟨h1, h4, h5⟩, ⟨h2, h6⟩, h7, h8, h9, fun _ => .inr trivial⟩
    · rintro ⟨⟨h1, h4, h5⟩, ⟨h2, h6⟩, h7, h8, h9, _⟩
      exact ⟨⟨h1, h2, F.above_mono h2 h7⟩, h4, h5, h6, h7, h8, h9, fun _ => .inr trivial⟩

theorem leP_lt {nm p : ByteArray} (h : leP nm (some p) = false) : lt p nm := by
  have h' : leB nm p = false := h
  unfold leB at h'
  simp only [Bool.or_eq_false_iff, beq_eq_false_iff_ne] at h'
  rcases lt_tri p nm with e | e | e
  · exact absurd (by rw [e]) h'.2
  · exact e
  · unfold lt at e; rw [h'.1] at e; cases e
/-- what Check takes rises -/
theorem faultF_rises : ∀ {f : F} {prev : Option ByteArray} {L : List ByteArray}, faultF f prev L = none → f.rises ∧ ∀ p, prev = some p → f.above p
  | .nil, _, _, _ => ⟨trivial, fun _ _ => trivial⟩
  | .cons nm v m ks r, prev, L, h => by
    rw [faultF] at h
    by_cases h1 : placeE prev nm (L.length + 1) ≠ 0
    · rw [if_pos h1] at h; cases h
    rw [if_neg h1] at h
    by_cases h2 : ownE v m (decide (0 < ks.len)) ≠ 0
    · rw [if_pos h2] at h; cases h
    rw [if_neg h2] at h
    cases h3 : faultF ks none (L ++ [nm]) with
    | some x => rw [h3] at h; cases h
    | none =>
      rw [h3] at h
      have ih1 := faultF_rises h3
      have ih2 := faultF_rises (f := r) (prev := some nm) (L := L) h
      refine ⟨⟨ih2.2 nm rfl, ih1.1, ih2.1⟩, fun p hp => ?_⟩
      subst hp
      have h4 : lt p nm := by
        refine leP_lt ?_
        have h5 : placeE (some p) nm (L.length + 1) = 0 := by simpa using h1
        unfold placeE at h5
        split at h5
        · cases h5
        split at h5
        · cases h5
        split at h5
        · cases h5
        · rename_i h6; simpa using h6
      exact ⟨h4, F.above_mono h4 (ih2.2 nm rfl)⟩
theorem faultF_nz : ∀ {f : F} {prev : Option ByteArray} {L : List ByteArray} {x : List ByteArray × Int}, faultF f prev L = some x → x.2 ≠ 0
  | .nil, _, _, _, h => by cases h
  | .cons nm v m ks r, prev, L, x, h => by
    rw [faultF] at h
    by_cases h1 : placeE prev nm (L.length + 1) ≠ 0
    · rw [if_pos h1] at h; cases h; exact h1
    rw [if_neg h1] at h
    by_cases h2 : ownE v m (decide (0 < ks.len)) ≠ 0
    · rw [if_pos h2] at h; cases h; exact h2
    rw [if_neg h2] at h
    cases h3 : faultF ks none (L ++ [nm]) with
    | some y => rw [h3] at h; cases h; exact faultF_nz h3
    | none => rw [h3] at h; exact faultF_nz (f := r) h
theorem check_none {v : Vd} {m : Md} {ks : F} (h : checkE v m ks = 0) : ownE v m (decide (0 < ks.len)) = 0 ∧ faultF ks none [] = none := by
  unfold checkE faultN at h
  by_cases h2 : ownE v m (decide (0 < ks.len)) ≠ 0
  · rw [if_pos h2] at h; exact absurd h h2
  rw [if_neg h2] at h
  refine ⟨by simpa using h2, ?_⟩
  cases h3 : faultF ks none [] with
  | none => rfl
  | some x => rw [h3] at h; exact absurd h (faultF_nz h3)
theorem rises_of_check {v : Vd} {m : Md} {ks : F} (h : checkE v m ks = 0) : ks.rises := (faultF_rises (check_none h).2).1

/-- cmp.Compare of two names -/
def cmp3 (a b : ByteArray) : Int := if Op.bytesLess a.toList b.toList then -1 else if Op.bytesLess b.toList a.toList then 1 else 0
theorem cmp3_eq {a b : ByteArray} : cmp3 a b = 0 ↔ a = b := by
  unfold cmp3
  rcases lt_tri a b with h | h | h
  · subst h; simp [bl_irrefl]
  · have hn := (lt_no h).2
    unfold lt at h
    rw [if_pos h]; exact ⟨fun e => absurd e (by decide), fun e => absurd e hn⟩
  · have := (lt_no h).1
    unfold lt at this h
    rw [if_neg this, if_pos h]
    exact ⟨fun e => absurd e (by decide), fun e => by subst e; rw [bl_irrefl] at h; cases h⟩
theorem cmp3_lt {a b : ByteArray} (h : lt a b) : cmp3 a b = -1 := if_pos h
theorem cmp3_gt {a b : ByteArray} (h : lt b a) : cmp3 a b = 1 := by
  have := (lt_no h).1
  unfold lt at this h
  unfold cmp3
  rw [if_neg this, if_pos h]
end Go.Proofs.Ytglnpmdigghibaa
