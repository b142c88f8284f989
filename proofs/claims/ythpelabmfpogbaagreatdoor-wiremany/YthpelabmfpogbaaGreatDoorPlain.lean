/-
  PLAIN: a number's bytes, and what is read of bytes: lists and numbers alone.
-/
namespace Wire

/-- A number's bytes, the lowest group first. -/
def enc (n : Nat) : List Int := if n < 128 then [(n : Int)] else ((n % 128 + 128 : Nat) : Int) :: enc (n / 128)
termination_by n
decreasing_by omega

/-- What is read of a number. -/
inductive Rd where
  | ok (n k : Nat)
  | form (i : Nat)
  | short

def Rd.plus (a : Nat) : Rd → Rd
  | .ok n k => .ok (a + n) k
  | .form i => .form i
  | .short => .short

/-- Does byte c at place i break the form? -/
def bad (i : Nat) (c : Int) : Bool := (decide (0 < i) && decide (c = 0)) || (decide (i = 9) && decide (c ≠ 1))

def rd : Nat → List Int → Rd
  | _, [] => .short
  | i, c :: t => if bad i c = true then .form i else if c < 128 then .ok (c.toNat * 128 ^ i) (i + 1) else (rd (i + 1) t).plus ((c.toNat % 128) * 128 ^ i)

/-- Each is a byte. -/
def Bytes (l : List Int) : Prop := ∀ x ∈ l, 0 ≤ x ∧ x < 256

theorem Bytes.drop {l : List Int} (h : Bytes l) (k : Nat) : Bytes (l.drop k) := fun x hx => h x (List.mem_of_mem_drop hx)
theorem Bytes.take {l : List Int} (h : Bytes l) (k : Nat) : Bytes (l.take k) := fun x hx => h x (List.mem_of_mem_take hx)
theorem Bytes.append {l m : List Int} (h : Bytes l) (g : Bytes m) : Bytes (l ++ m) := fun x hx => by
  rcases List.mem_append.1 hx with hx | hx
  · exact h x hx
  · exact g x hx
theorem Bytes.at {l : List Int} (h : Bytes l) {i : Nat} (hi : i < l.length) : 0 ≤ l[i]?.getD 0 ∧ l[i]?.getD 0 < 256 := by
  rw [List.getElem?_eq_getElem hi]; exact h _ (List.getElem_mem hi)

theorem enc_lt {n : Nat} (h : n < 128) : enc n = [(n : Int)] := by rw [enc, if_pos h]
theorem enc_ge {n : Nat} (h : ¬ n < 128) : enc n = ((n % 128 + 128 : Nat) : Int) :: enc (n / 128) := by rw [enc, if_neg h]

theorem enc_bytes (n : Nat) : Bytes (enc n) := by
  induction n using Nat.strongRecOn with
  | _ n ih =>
    by_cases h : n < 128
    · rw [enc_lt h]; intro x hx; simp at hx; omega
    · rw [enc_ge h]; intro x hx
      rcases List.mem_cons.1 hx with rfl | hx
      · omega
      · exact ih (n / 128) (by omega) x hx

theorem enc_pos (n : Nat) : 1 ≤ (enc n).length := by
  by_cases h : n < 128
  · rw [enc_lt h]; simp
  · rw [enc_ge h]; simp

theorem enc_len : ∀ (k n : Nat), n < 128 ^ k → 1 ≤ k → (enc n).length ≤ k
  | 0, _, _, h => by omega
  | k + 1, n, hn, _ => by
    by_cases h : n < 128
    · rw [enc_lt h]; simp
    · rw [enc_ge h]
      have h1 : n / 128 < 128 ^ k := by rw [Nat.pow_succ] at hn; omega
      have hk : 1 ≤ k := by
        rcases Nat.eq_zero_or_pos k with rfl | hk
        · simp at h1; omega
        · exact hk
      have := enc_len k (n / 128) h1 hk
      simp; omega

theorem enc_len64 {n : Nat} (h : n < 18446744073709551616) : (enc n).length ≤ 10 :=
  enc_len 10 n (Nat.lt_of_lt_of_le h (by decide)) (by decide)

/-- The last byte is no 0, unless it is the first. -/
theorem rd_enc_aux : ∀ (i n : Nat) (more : List Int), i ≤ 9 → n < 18446744073709551616 / 128 ^ i → (0 < i → 0 < n) → rd i (enc n ++ more) = .ok (n * 128 ^ i) (i + (enc n).length) := by
  intro i n
  induction n using Nat.strongRecOn generalizing i with
  | _ n ih =>
    intro more hi hn hp
    by_cases h : n < 128
    · rw [enc_lt h]
      have hb : bad i (n : Int) = false := by
        simp only [bad, Bool.or_eq_false_iff, Bool.and_eq_false_iff, decide_eq_false_iff_not]
        constructor
        · by_cases h0 : 0 < i
          · have := hp h0; right; omega
          · left; exact h0
        · by_cases h9 : i = 9
          · subst h9
            have h2 : (18446744073709551616 : Nat) / 128 ^ 9 = 2 := by decide
            rw [h2] at hn
            have := hp (by decide)
            right; omega
          · left; exact h9
      simp only [List.cons_append, List.nil_append, rd, hb, Bool.false_eq_true, if_false]
      rw [if_pos (by omega)]; simp
    · rw [enc_ge h]
      have h9 : i < 9 := by
        rcases Nat.lt_or_ge i 9 with h' | h'
        · exact h'
        · have : i = 9 := by omega
          subst this
          have h2 : (18446744073709551616 : Nat) / 128 ^ 9 = 2 := by decide
          omega
      have hb : bad i ((n % 128 + 128 : Nat) : Int) = false := by
        simp only [bad, Bool.or_eq_false_iff, Bool.and_eq_false_iff, decide_eq_false_iff_not]
        constructor
        · right; omega
        · left; omega
      simp only [List.cons_append, rd, hb, Bool.false_eq_true, if_false]
      rw [if_neg (by omega)]
      have hq : n / 128 < 18446744073709551616 / 128 ^ (i + 1) := by
        rw [Nat.pow_succ, ← Nat.div_div_eq_div_mul]
        have hd : 18446744073709551616 / 128 ^ i = (18446744073709551616 / 128 ^ i / 128) * 128 := by
          have : ∀ j, j < 9 → 18446744073709551616 / 128 ^ j = (18446744073709551616 / 128 ^ j / 128) * 128 := by decide
          exact this i h9
        omega
      rw [ih (n / 128) (by omega) (i + 1) more (by omega) hq (by intro; omega)]
      simp only [Rd.plus]
      congr 1
      · have e1 : ((n % 128 + 128 : Nat) : Int).toNat % 128 = n % 128 := by omega
        rw [e1, Nat.pow_succ]
        have e2 : n = n % 128 + (n / 128) * 128 := by omega
        calc n % 128 * 128 ^ i + n / 128 * (128 ^ i * 128) = (n % 128 + (n / 128) * 128) * 128 ^ i := by
              rw [Nat.add_mul, Nat.mul_assoc (n / 128) 128, Nat.mul_comm 128 (128 ^ i)]
          _ = n * 128 ^ i := by rw [← e2]
      · simp; omega

theorem rd_enc {n : Nat} (more : List Int) (h : n < 18446744073709551616) : rd 0 (enc n ++ more) = .ok n (enc n).length := by
  have := rd_enc_aux 0 n more (by omega) (by simpa using h) (by omega)
  simpa using this

theorem rd_le : ∀ (l : List Int) (i n k : Nat), rd i l = .ok n k → i < k ∧ k ≤ i + l.length
  | [], i, n, k, h => by simp [rd] at h
  | c :: t, i, n, k, h => by
    simp only [rd] at h
    split at h
    · simp at h
    · split at h
      · simp at h; simp; omega
      · cases hr : rd (i + 1) t with
        | ok m j =>
          rw [hr] at h
          simp [Rd.plus] at h
          have := rd_le t (i + 1) m j hr
          simp; omega
        | form j => rw [hr] at h; simp [Rd.plus] at h
        | short => rw [hr] at h; simp [Rd.plus] at h

theorem rd_room : ∀ (l : List Int) (i n k : Nat), i ≤ 9 → rd i l = .ok n k → n + 128 ^ i ≤ 18446744073709551616
  | [], i, n, k, _, h => by simp [rd] at h
  | c :: t, i, n, k, hi, h => by
    simp only [rd] at h
    by_cases hb : bad i c = true
    · simp [hb] at h
    · simp only [hb, Bool.false_eq_true, if_false] at h
      have hb' : bad i c = false := by simpa using hb
      have hp : ∀ j, j ≤ 8 → 128 ^ j ≤ 72057594037927936 := by decide
      by_cases hc : c < 128
      · simp only [hc, if_true, Rd.ok.injEq] at h
        rw [← h.1]
        by_cases h9 : i = 9
        · subst h9
          have h1 : c = 1 := by
            simp [bad] at hb'; omega
          subst h1; decide
        · have h8 := hp i (by omega)
          have : c.toNat * 128 ^ i ≤ 127 * 128 ^ i := Nat.mul_le_mul_right _ (by omega)
          omega
      · simp only [hc, if_false] at h
        have h9 : i ≠ 9 := by
          intro e; subst e
          simp [bad] at hb'; omega
        cases hr : rd (i + 1) t with
        | ok m j =>
          rw [hr] at h
          simp only [Rd.plus, Rd.ok.injEq] at h
          rw [← h.1]
          have ih := rd_room t (i + 1) m j (by omega) hr
          rw [Nat.pow_succ] at ih
          have : c.toNat % 128 * 128 ^ i ≤ 127 * 128 ^ i := Nat.mul_le_mul_right _ (by omega)
          omega
        | form j => rw [hr] at h; simp [Rd.plus] at h
        | short => rw [hr] at h; simp [Rd.plus] at h

theorem rd_lt64 {l : List Int} {n k : Nat} (h : rd 0 l = .ok n k) : n < 18446744073709551616 := by
  have := rd_room l 0 n k (by omega) h
  simp at this; omega

end Wire
