/-
  What is read has just one form; no beginning of it is read: lists and numbers.
-/
import Derived.Test.YthpelabmfpogbaaDoorBackWalk
namespace Go.Proofs.YthpelabmfpogbaaDoor
open Wire

theorem rd_cons_ok {i n k : Nat} {c : Int} {t : List Int} (h : rd i (c :: t) = .ok n k) : bad i c = false ∧ ((c < 128 ∧ n = c.toNat * 128 ^ i ∧ k = i + 1) ∨ (¬ c < 128 ∧ ∃ m, rd (i + 1) t = .ok m k ∧ n = c.toNat % 128 * 128 ^ i + m)) := by
  simp only [rd] at h
  by_cases hb : bad i c = true
  · simp [hb] at h
  · simp only [hb, Bool.false_eq_true, if_false] at h
    refine ⟨by simpa using hb, ?_⟩
    by_cases hc : c < 128
    · simp only [hc, if_true, Rd.ok.injEq] at h
      exact .inl ⟨hc, h.1.symm, h.2.symm⟩
    · simp only [hc, if_false] at h
      cases hr : rd (i + 1) t with
      | ok m j =>
        rw [hr] at h
        simp only [Rd.plus, Rd.ok.injEq] at h
        exact .inr ⟨hc, m, by rw [h.2], h.1.symm⟩
      | form j => rw [hr] at h; simp [Rd.plus] at h
      | short => rw [hr] at h; simp [Rd.plus] at h

/-- The one form. -/
theorem rd_enc_back : ∀ (l : List Int) (i n k : Nat), Bytes l → rd i l = .ok n k → ∃ m, n = m * 128 ^ i ∧ enc m = l.take (k - i) ∧ (0 < i → 0 < m)
  | [], i, n, k, _, h => by simp [rd] at h
  | c :: t, i, n, k, hB, h => by
    have hc0 := hB c (by simp)
    obtain ⟨hb, ⟨hc, hn, hk⟩ | ⟨hc, m, hr, hn⟩⟩ := rd_cons_ok h
    · refine ⟨c.toNat, hn, ?_, fun hi => ?_⟩
      · rw [enc_lt (by omega), hk, show i + 1 - i = 1 by omega]
        simp; omega
      · simp [bad] at hb; omega
    · obtain ⟨m', hm, he, hp⟩ := rd_enc_back t (i + 1) m k (fun x hx => hB x (by simp [hx])) hr
      have hp' := hp (by omega)
      have hle := (rd_le t (i + 1) m k hr).1
      refine ⟨c.toNat % 128 + 128 * m', ?_, ?_, fun _ => by omega⟩
      · rw [hn, hm, Nat.pow_succ, Nat.add_mul, Nat.mul_comm 128 m', Nat.mul_assoc m' 128, Nat.mul_comm 128 (128 ^ i)]
      · rw [enc_ge (by omega), show (c.toNat % 128 + 128 * m') / 128 = m' by omega, he, show k - i = (k - (i + 1)) + 1 by omega, List.take_succ_cons]
        congr 1
        omega

theorem form_enc {l : List Int} {n k : Nat} (hB : Bytes l) (h : rd 0 l = .ok n k) : enc n = l.take k := by
  obtain ⟨m, hm, he, _⟩ := rd_enc_back l 0 n k hB h
  simp at hm he
  rw [hm]; exact he

/-- No beginning of it is read. -/
theorem rd_take_short : ∀ (l : List Int) (i j n k : Nat), rd i l = .ok n k → i + j < k → rd i (l.take j) = .short
  | [], i, j, n, k, h, _ => by simp [rd] at h
  | c :: t, i, 0, n, k, h, hj => by simp [rd]
  | c :: t, i, j + 1, n, k, h, hj => by
    obtain ⟨hb, ⟨hc, hn, hk⟩ | ⟨hc, m, hr, hn⟩⟩ := rd_cons_ok h
    · omega
    · have := rd_take_short t (i + 1) j m k hr (by omega)
      simp [rd, hb, hc, this, Rd.plus]

/-- What stands behind it does not matter. -/
theorem rd_take_ok : ∀ (l : List Int) (i j n k : Nat), rd i l = .ok n k → k ≤ i + j → rd i (l.take j) = .ok n k
  | [], i, j, n, k, h, _ => by simp [rd] at h
  | c :: t, i, 0, n, k, h, hj => by have := (rd_le _ _ _ _ h).1; omega
  | c :: t, i, j + 1, n, k, h, hj => by
    obtain ⟨hb, ⟨hc, hn, hk⟩ | ⟨hc, m, hr, hn⟩⟩ := rd_cons_ok h
    · simp [rd, hb, hc, hn, hk]
    · have := rd_take_ok t (i + 1) j m k hr (by omega)
      simp [rd, hb, hc, this, Rd.plus, hn]

theorem form_uint_short {l : List Int} {n k i : Nat} (h : rd 0 l = .ok n k) (hi : i < k) (most : Nat) : (uintS (l.take i) ⟨0, 0, 0⟩ most).2.fe ≠ 0 := by
  have := rd_take_short l 0 i n k h (by omega)
  simp [uintS, this]

theorem form_text_short {l : List Int} {n k i : Nat} {most : Int} (h : rd 0 l = .ok n k) (_hl : k + n ≤ l.length) (hi : i < k + n) (hm : ¬ most < n) : (textS (l.take i) ⟨0, 0, 0⟩ most).2.fe ≠ 0 := by
  by_cases hk : i < k
  · have := rd_take_short l 0 i n k h (by omega)
    simp [textS, this]
  · have := rd_take_ok l 0 i n k h (by omega)
    have h2 : (l.take i).length < k + n := by simp; omega
    simp only [textS, ne_eq, not_true_eq_false, if_false, List.drop_zero, this, hm, Nat.zero_add, h2, if_true]
    decide

theorem strB_mkStr {l : List Int} (hB : Bytes l) : strB (mkStr l) = l := by
  simp only [strB, mkStr, List.toList_toArray, List.map_map]
  conv => rhs; rw [← List.map_id l]
  apply List.map_congr_left
  intro c hc
  have := hB c hc
  simp
  omega

theorem mkStr_size (l : List Int) : (mkStr l).size = l.length := by
  show (mkStr l).data.size = _
  simp [mkStr]
end Go.Proofs.YthpelabmfpogbaaDoor
