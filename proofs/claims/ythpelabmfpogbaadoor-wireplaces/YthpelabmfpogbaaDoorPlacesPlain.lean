/-
  The place of a fault: what stands behind it doesn't help; what is too short is helped: lists and numbers.
-/
import Derived.Test.YthpelabmfpogbaaDoorFault
namespace Go.Proofs.YthpelabmfpogbaaDoor
open Wire

theorem rd_form_take : ∀ (l more : List Int) (j i : Nat), rd j l = .form i → j ≤ i ∧ i < j + l.length ∧ rd j (l.take (i + 1 - j) ++ more) = .form i
  | [], _, j, i, h => by simp [rd] at h
  | c :: t, more, j, i, h => by
    simp only [rd] at h
    by_cases hb : bad j c = true
    · simp [hb] at h
      subst h
      refine ⟨Nat.le_refl _, by simp, ?_⟩
      rw [show j + 1 - j = 1 by omega]
      simp [rd, hb]
    · simp only [hb, Bool.false_eq_true, if_false] at h
      by_cases hc : c < 128
      · simp [hc] at h
      · simp only [hc, if_false] at h
        cases hr : rd (j + 1) t with
        | ok m k => rw [hr] at h; simp [Rd.plus] at h
        | form k =>
          rw [hr] at h
          simp only [Rd.plus, Rd.form.injEq] at h
          subst h
          obtain ⟨h1, h2, h3⟩ := rd_form_take t more (j + 1) k hr
          refine ⟨by omega, by simp; omega, ?_⟩
          rw [show k + 1 - j = (k + 1 - (j + 1)) + 1 by omega, List.take_succ_cons, List.cons_append]
          simp only [rd, hb, Bool.false_eq_true, if_false, hc, h3, Rd.plus]
        | short => rw [hr] at h; simp [Rd.plus] at h

theorem rd_short_one : ∀ (l : List Int) (j : Nat), rd j l = .short → ∃ n k, rd j (l ++ [1]) = .ok n k
  | [], j, _ => ⟨1 * 128 ^ j, j + 1, by simp [rd, bad]⟩
  | c :: t, j, h => by
    simp only [rd] at h
    by_cases hb : bad j c = true
    · simp [hb] at h
    · simp only [hb, Bool.false_eq_true, if_false] at h
      by_cases hc : c < 128
      · simp [hc] at h
      · simp only [hc, if_false] at h
        cases hr : rd (j + 1) t with
        | ok m k => rw [hr] at h; simp [Rd.plus] at h
        | form k => rw [hr] at h; simp [Rd.plus] at h
        | short =>
          obtain ⟨n, k, hn⟩ := rd_short_one t (j + 1) hr
          exact ⟨_, k, by simp [rd, hb, hc, hn, Rd.plus]; rfl⟩

theorem rd_append_ok : ∀ (l more : List Int) (j n k : Nat), rd j l = .ok n k → rd j (l ++ more) = .ok n k
  | [], _, j, n, k, h => by simp [rd] at h
  | c :: t, more, j, n, k, h => by
    obtain ⟨hb, ⟨hc, hn, hk⟩ | ⟨hc, m, hr, hn⟩⟩ := rd_cons_ok h
    · simp [rd, hb, hc, hn, hk]
    · have := rd_append_ok t more (j + 1) m k hr
      simp [rd, hb, hc, this, Rd.plus, hn]

/-- A fault of the form: its place, and that it stands. -/
theorem place_form {l : List Int} {kind n : Int} (h : (oneS l kind n).fe = 11) : ∃ i : Nat, oneS l kind n = ⟨0, i, 11⟩ ∧ i < l.length ∧ ∀ more, oneS (l.take (i + 1) ++ more) kind n = ⟨0, i, 11⟩ := by
  by_cases h1 : kind = 1
  · subst h1
    simp only [oneS, if_true, byteS, ne_eq, not_true_eq_false, if_false] at h
    split at h <;> simp at h
  by_cases h2 : kind = 2
  · subst h2
    have e : ∀ l, oneS l 2 n = (uintS l ⟨0, 0, 0⟩ 18446744073709551615).2 := fun l => by simp [oneS]
    simp only [e] at h ⊢
    cases hr : rd 0 l with
    | ok m k =>
      simp only [uintS, ne_eq, not_true_eq_false, if_false, List.drop_zero, hr] at h
      split at h <;> simp at h
    | form i =>
      obtain ⟨_, h2, _⟩ := rd_form_take l [] 0 i hr
      refine ⟨i, by simp [uintS, hr], by omega, fun more => ?_⟩
      have := (rd_form_take l more 0 i hr).2.2
      simp at this
      simp [uintS, this]
    | short => simp [uintS, hr] at h
  by_cases h3 : kind = 3
  · subst h3
    have e : ∀ l, oneS l 3 n = (textS l ⟨0, 0, 0⟩ 4611686018427387904).2 := fun l => by simp [oneS]
    simp only [e] at h ⊢
    cases hr : rd 0 l with
    | ok m k =>
      simp only [textS, ne_eq, not_true_eq_false, if_false, List.drop_zero, hr] at h
      split at h
      · simp at h
      · split at h <;> simp at h
    | form i =>
      obtain ⟨_, h2, _⟩ := rd_form_take l [] 0 i hr
      refine ⟨i, by simp [textS, hr], by omega, fun more => ?_⟩
      have := (rd_form_take l more 0 i hr).2.2
      simp at this
      simp [textS, this]
    | short => simp [textS, hr] at h
  by_cases h4 : kind = 4
  · subst h4
    simp only [oneS] at h
    simp only [show ¬ ((4 : Int) = 1) by decide, show ¬ ((4 : Int) = 2) by decide, show ¬ ((4 : Int) = 3) by decide, if_false, if_true, rawS, ne_eq, not_true_eq_false] at h
    split at h <;> simp at h
  · simp [oneS, h1, h2, h3, h4] at h

theorem place_kind {l : List Int} {kind n : Int} (h : (oneS l kind n).fe = 10) : kind = 1 ∨ kind = 2 ∨ kind = 3 ∨ kind = 4 := by
  by_cases h1 : kind = 1
  · exact .inl h1
  by_cases h2 : kind = 2
  · exact .inr (.inl h2)
  by_cases h3 : kind = 3
  · exact .inr (.inr (.inl h3))
  by_cases h4 : kind = 4
  · exact .inr (.inr (.inr h4))
  · simp [oneS, h1, h2, h3, h4] at h

theorem short_byte {l : List Int} {n : Int} (h : (oneS l 1 n).fe = 10) : oneS l 1 n = ⟨0, l.length, 10⟩ ∧ (oneS (l ++ [0]) 1 n).fe = 0 := by
  simp only [oneS, if_true, byteS, ne_eq, not_true_eq_false, if_false] at h ⊢
  by_cases hl : 0 < l.length
  · simp [hl] at h
  · exact ⟨by simp [hl], by simp⟩

theorem short_uint {l : List Int} {n : Int} (h : (oneS l 2 n).fe = 10) : oneS l 2 n = ⟨0, l.length, 10⟩ ∧ (oneS (l ++ [1]) 2 n).fe = 0 := by
  have e : ∀ l, oneS l 2 n = (uintS l ⟨0, 0, 0⟩ 18446744073709551615).2 := fun l => by simp [oneS]
  simp only [e] at h ⊢
  cases hr : rd 0 l with
  | ok m k =>
    simp only [uintS, ne_eq, not_true_eq_false, if_false, List.drop_zero, hr] at h
    split at h <;> simp at h
  | form i => simp [uintS, hr] at h
  | short =>
    refine ⟨by simp [uintS, hr], ?_⟩
    obtain ⟨m, k, hm⟩ := rd_short_one l 0 hr
    have := rd_lt64 hm
    simp only [uintS, ne_eq, not_true_eq_false, if_false, List.drop_zero, hm]
    rw [if_pos (by omega)]

theorem short_raw {l : List Int} {n : Int} (h : (oneS l 4 n).fe = 10) (z : List Int) (hz : n.toNat ≤ l.length + z.length) : oneS l 4 n = ⟨0, l.length, 10⟩ ∧ (oneS (l ++ z) 4 n).fe = 0 := by
  have e : ∀ l, oneS l 4 n = rawS l ⟨0, 0, 0⟩ n := fun l => by simp [oneS]
  simp only [e] at h ⊢
  simp only [rawS, ne_eq, not_true_eq_false, if_false, Nat.zero_add] at h ⊢
  by_cases hl : l.length < n.toNat
  · refine ⟨by simp [hl], ?_⟩
    rw [if_neg (by simp; omega)]
  · simp [hl] at h

theorem short_text {l : List Int} {n : Int} (h : (oneS l 3 n).fe = 10) : oneS l 3 n = ⟨0, l.length, 10⟩ ∧
    ∀ m st, uintS l ⟨0, 0, 0⟩ 18446744073709551615 = (m, st) → st.fe = 0 → ∀ z : List Int, m + st.p ≤ l.length + z.length → (oneS (l ++ z) 3 n).fe = 0 := by
  have e : ∀ l, oneS l 3 n = (textS l ⟨0, 0, 0⟩ 4611686018427387904).2 := fun l => by simp [oneS]
  simp only [e] at h ⊢
  cases hr : rd 0 l with
  | ok m k =>
    simp only [textS, ne_eq, not_true_eq_false, if_false, List.drop_zero, hr, Nat.zero_add] at h
    by_cases hm : (4611686018427387904 : Int) < m
    · simp [hm] at h
    · simp only [hm, if_false] at h
      by_cases hl : l.length < k + m
      · refine ⟨by simp [textS, hr, hm, hl], fun m' st hu hf z hz => ?_⟩
        obtain ⟨k', hk', rfl⟩ := uint_ok_inv hu hf
        rw [hr] at hk'
        simp only [Rd.ok.injEq] at hk'
        obtain ⟨rfl, rfl⟩ := hk'
        have := rd_append_ok l z 0 m k hr
        simp only [textS, ne_eq, not_true_eq_false, if_false, List.drop_zero, this, hm, Nat.zero_add]
        rw [if_neg (by simp at hz ⊢; omega)]
      · simp [hl] at h
  | form i => simp [textS, hr] at h
  | short =>
    refine ⟨by simp [textS, hr], fun m' st hu hf z hz => ?_⟩
    obtain ⟨k', hk', _⟩ := uint_ok_inv hu hf
    rw [hr] at hk'
    simp at hk'
end Go.Proofs.YthpelabmfpogbaaDoor
