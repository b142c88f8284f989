/-
  NUMBERS: what strconv reads and writes again, against the reference's number.
-/
import Derived.Test.YtfigneaaeakbcaaDoorPl
namespace Go.Proofs.YtfigneaaeakbcaaDoor
open Go

/-- the reference's number -/
def numR (l : By) : Option Int :=
  let neg := l.head? = some 45
  let d := if neg then l.tail else l
  if d = [] ∨ 13 < d.length ∨ (d.head? = some 48 ∧ 1 < d.length) ∨ (neg ∧ d.head? = some 48) then none
  else match Lib.decFrom 0 d with
    | some n => if 1099511627776 < n then none else some (if neg then -(n : Int) else n)
    | none => none
/-- the program's -/
def numP (l : By) : Option Int := match Lib.atoiAll l with
  | .ok v => if Lib.itoa v = l ∧ -1099511627776 ≤ v ∧ v ≤ 1099511627776 then some v else none
  | _ => none

theorem ofNat_lt (d : Nat) (h : d < 256) : (UInt8.ofNat d).toNat = d := by
  rw [UInt8.toNat_ofNat']; exact Nat.mod_eq_of_lt h
theorem head_app {a b : By} (h : a ≠ []) : (a ++ b).head? = a.head? := by
  cases a with
  | nil => exact absurd rfl h
  | cons c r => rfl
theorem digitVal_of (d : Nat) (h : d < 10) : Lib.digitVal (UInt8.ofNat (48 + d)) = some d := by
  have : ∀ d : Fin 10, Lib.digitVal (UInt8.ofNat (48 + d)) = some d.1 := by decide
  exact this ⟨d, h⟩
theorem digitVal_inv {b : UInt8} {d : Nat} (h : Lib.digitVal b = some d) : d < 10 ∧ b = UInt8.ofNat (48 + d) := by
  unfold Lib.digitVal at h
  split at h
  · rename_i hb
    injection h with h
    subst h
    have hb' : 48 ≤ b.toNat ∧ b.toNat ≤ 57 := by simpa using hb
    refine ⟨by omega, ?_⟩
    apply UInt8.toNat_inj.1
    rw [ofNat_lt _ (by omega)]
    omega
  · cases h
theorem decFrom_app : ∀ (l m : By) (a : Nat), Lib.decFrom a (l ++ m) = (Lib.decFrom a l).bind fun n => Lib.decFrom n m
  | [], _, _ => rfl
  | b :: l, m, a => by
    rw [List.cons_append, Lib.decFrom, Lib.decFrom]
    cases Lib.digitVal b with
    | none => rfl
    | some d => exact decFrom_app l m _
theorem dec_digits (u : Nat) : Lib.decFrom 0 (Lib.decDigits u) = some u := by
  induction u using Nat.strongRecOn with
  | _ u ih =>
    rw [Lib.decDigits]
    split
    · rename_i h
      rw [Lib.decFrom, digitVal_of u h]
      simp [Lib.decFrom]
    · rename_i h
      rw [decFrom_app, ih (u / 10) (by omega)]
      simp only [Option.bind_some, Lib.decFrom, digitVal_of (u % 10) (by omega)]
      congr 1; omega
theorem digits_ne (u : Nat) : Lib.decDigits u ≠ [] := by
  rw [Lib.decDigits]; split <;> simp
theorem digits_head (u : Nat) : (Lib.decDigits u).head? = some 48 → u = 0 := by
  induction u using Nat.strongRecOn with
  | _ u ih =>
    rw [Lib.decDigits]
    split
    · rename_i h
      intro e
      have : ∀ d : Fin 10, some (UInt8.ofNat (48 + d)) = some 48 → d.1 = 0 := by decide
      exact this ⟨u, h⟩ (by simpa using e)
    · rename_i h
      intro e
      rw [head_app (digits_ne _)] at e
      have := ih (u / 10) (by omega) e
      omega
theorem digits_head' (u : Nat) (c : UInt8) (h : (Lib.decDigits u).head? = some c) : 48 ≤ c.toNat ∧ c.toNat ≤ 57 := by
  have := dec_digits u
  cases hd : Lib.decDigits u with
  | nil => exact absurd hd (digits_ne u)
  | cons b r =>
    rw [hd] at this h
    simp at h
    subst h
    rw [Lib.decFrom] at this
    cases hb : Lib.digitVal b with
    | none => rw [hb] at this; cases this
    | some d =>
      obtain ⟨h1, h2⟩ := digitVal_inv hb
      rw [h2, ofNat_lt _ (by omega)]
      omega
theorem digits_pow (k u : Nat) (h : u < 10 ^ (k + 1)) : (Lib.decDigits u).length ≤ k + 1 := by
  rw [Lib.decDigits_length]
  induction k generalizing u with
  | zero => rw [Lib.nDigits_small (by simpa using h)]; omega
  | succ k ih =>
    by_cases h10 : u < 10
    · rw [Lib.nDigits_small h10]; omega
    · rw [Lib.nDigits_big h10]
      have := ih (u / 10) (by rw [Nat.pow_succ] at h; omega)
      omega
/-- digits without a zero ahead are the number's own -/
theorem digits_back : ∀ (n : Nat) (l : By), l.length = n → ∀ u, l ≠ [] → (l.head? = some 48 → l.length = 1) → Lib.decFrom 0 l = some u → Lib.decDigits u = l
  | 0, l, hn, _, h, _, _ => absurd (List.length_eq_zero_iff.1 hn) h
  | n + 1, l, hn, u, h, hz, hd => by
    obtain ⟨m, b, rfl⟩ : ∃ m b, l = m ++ [b] := ⟨l.dropLast, l.getLast h, (List.dropLast_concat_getLast h).symm⟩
    rw [decFrom_app] at hd
    cases hm : Lib.decFrom 0 m with
    | none => rw [hm] at hd; cases hd
    | some v =>
      rw [hm] at hd
      simp only [Option.bind_some, Lib.decFrom] at hd
      cases hb : Lib.digitVal b with
      | none => rw [hb] at hd; cases hd
      | some d =>
        rw [hb] at hd
        obtain ⟨h1, h2⟩ := digitVal_inv hb
        have hu : u = v * 10 + d := by injection hd with hd; exact hd.symm
        by_cases hm0 : m = []
        · subst hm0
          have hv : v = 0 := by injection hm with hm; exact hm.symm
          rw [Lib.decDigits, dif_pos (by omega), h2]
          simp; congr 1; omega
        · have hl : m.length = n := by simpa using hn
          have ih := digits_back n m hl v hm0 (fun e => by
            have := hz (by rw [head_app hm0]; exact e)
            simp at this
            exact absurd (this) hm0) hm
          have hv : v ≠ 0 := by
            intro e
            subst e
            have e2 : Lib.decDigits 0 = [48] := by rw [Lib.decDigits, dif_pos (by omega)]; rfl
            rw [e2] at ih
            have := hz (by rw [← ih]; rfl)
            rw [← ih] at this
            simp at this
          rw [Lib.decDigits, dif_neg (by omega), h2, show u / 10 = v by omega, show u % 10 = d by omega, ih]
theorem numR_itoa (v : Int) (h1 : -1099511627776 ≤ v) (h2 : v ≤ 1099511627776) : numR (Lib.itoa v) = some v := by
  unfold Lib.itoa
  split
  · rename_i hv
    obtain ⟨u, hu⟩ : ∃ u, v.natAbs = u := ⟨_, rfl⟩
    rw [hu]
    unfold numR
    have hl := digits_pow 12 u (by omega)
    simp only [List.head?_cons, if_true, List.tail_cons]
    rw [if_neg, dec_digits]
    · dsimp only
      rw [if_neg (by omega)]
      congr 1; omega
    · rintro (h | h | h | h)
      · exact digits_ne u h
      · omega
      · have := digits_head u h.1; omega
      · have := digits_head u h.2; omega
  · rename_i hv
    obtain ⟨u, hu⟩ : ∃ u, v.toNat = u := ⟨_, rfl⟩
    rw [hu]
    have hn : ¬ (Lib.decDigits u).head? = some 45 := fun e => by have := digits_head' u _ e; simp at this
    unfold numR
    have hl := digits_pow 12 u (by omega)
    simp only [hn, if_false, false_and, or_false]
    rw [if_neg, dec_digits]
    · dsimp only
      rw [if_neg (by omega)]
      congr 1; omega
    · rintro (h | h | h)
      · exact digits_ne u h
      · omega
      · have := digits_head u h.1
        subst this
        have e2 : Lib.decDigits 0 = [48] := by rw [Lib.decDigits, dif_pos (by omega)]; rfl
        rw [e2] at h
        simp at h
theorem numR_inv (l : By) (v : Int) (h : numR l = some v) : Lib.itoa v = l ∧ -1099511627776 ≤ v ∧ v ≤ 1099511627776 := by
  unfold numR at h
  by_cases hn : l.head? = some 45
  · obtain ⟨r, rfl⟩ : ∃ r, l = 45 :: r := by
      cases l with
      | nil => cases hn
      | cons c r => simp at hn; exact ⟨r, by rw [hn]⟩
    simp only [List.head?_cons, if_true, List.tail_cons, true_and] at h
    split at h
    · cases h
    · rename_i hc
      simp only [not_or, not_and] at hc
      split at h
      · rename_i n hd
        split at h
        · cases h
        · rename_i hb
          injection h with h
          have hz : n ≠ 0 := by
            intro e
            subst e
            have := digits_back r.length r rfl 0 hc.1 (fun e => absurd e hc.2.2.2) hd
            have e2 : Lib.decDigits 0 = [48] := by rw [Lib.decDigits, dif_pos (by omega)]; rfl
            rw [e2] at this
            exact hc.2.2.2 (by rw [← this]; rfl)
          refine ⟨?_, by omega, by omega⟩
          unfold Lib.itoa
          rw [if_pos (by omega), show v.natAbs = n by omega, digits_back r.length r rfl n hc.1 (fun e => absurd e hc.2.2.2) hd]
      · cases h
  · simp only [hn, if_false, false_and, or_false] at h
    split at h
    · cases h
    · rename_i hc
      simp only [not_or, not_and] at hc
      split at h
      · rename_i n hd
        split at h
        · cases h
        · rename_i hb
          injection h with h
          refine ⟨?_, by omega, by omega⟩
          unfold Lib.itoa
          rw [if_neg (by omega), show v.toNat = n by omega]
          refine digits_back l.length l rfl n hc.1 (fun e => ?_) hd
          have := hc.2.2 e
          have := List.length_pos_iff.2 hc.1
          omega
      · cases h
theorem atoi_itoa (v : Int) (h1 : -1099511627776 ≤ v) (h2 : v ≤ 1099511627776) : Lib.atoiAll (Lib.itoa v) = .ok v := by
  have hlen : (Lib.itoa v).length ≤ 18 := by
    unfold Lib.itoa
    split
    · have := digits_pow 12 v.natAbs (by omega)
      simp; omega
    · have := digits_pow 12 v.toNat (by omega)
      omega
  rw [Lib.atoiAll_short _ hlen]
  suffices h : Lib.atoi (Lib.itoa v) = some v by rw [h]; rfl
  unfold Lib.itoa
  split
  · have hn := digits_ne v.natAbs
    rw [Lib.atoi]
    simp only [beq_self_eq_true, if_true, Lib.decNat, List.isEmpty_iff, hn, if_false, dec_digits, Option.map_some]
    congr 1; omega
  · cases hd : Lib.decDigits v.toNat with
    | nil => exact absurd hd (digits_ne _)
    | cons b r =>
      have hb := digits_head' v.toNat b (by rw [hd]; rfl)
      have b1 : (b == 45) = false := by rw [beq_eq_false_iff_ne]; rintro rfl; simp at hb
      have b2 : (b == 43) = false := by rw [beq_eq_false_iff_ne]; rintro rfl; simp at hb
      rw [Lib.atoi]
      simp only [b1, b2, Bool.false_eq_true, if_false, Lib.decNat, List.isEmpty_cons]
      rw [← hd, dec_digits]
      simp only [Option.map_some]
      congr 1; omega
theorem numP_numR (l : By) : numP l = numR l := by
  cases hr : numR l with
  | some v =>
    obtain ⟨h1, h2, h3⟩ := numR_inv l v hr
    unfold numP
    rw [← h1, atoi_itoa v h2 h3]
    simp [h2, h3]
  | none =>
    unfold numP
    split
    · rename_i v hv
      split
      · rename_i h
        have := numR_itoa v h.2.1 h.2.2
        rw [h.1, hr] at this
        cases this
      · rfl
    · rfl
end Go.Proofs.YtfigneaaeakbcaaDoor
