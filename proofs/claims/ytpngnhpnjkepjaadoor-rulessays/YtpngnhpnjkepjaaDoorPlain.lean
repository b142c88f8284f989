import Derived.Laws.RangeAny
set_option autoImplicit false
namespace Go.Proofs.YtpngnhpnjkepjaaDoor
open Go

abbrev By := List UInt8

/-- how a byte ranks: 47 ahead of all -/
def rank (x : UInt8) : Int := if x = 47 then -1 else (x.toNat : Int)
theorem rank_inj {x y : UInt8} (h : rank x = rank y) : x = y := by
  unfold rank at h
  split at h <;> split at h
  · simp_all
  · have := y.toNat_lt; omega
  · have := x.toNat_lt; omega
  · exact UInt8.toNat_inj.1 (by omega)
theorem rank_lo {x : UInt8} (h : x ≠ 47) : rank (47 : UInt8) < rank x := by
  unfold rank
  rw [if_pos rfl, if_neg h]
  omega

/-- the order of two texts -/
def cmpL : By → By → Int
  | [], [] => 0
  | [], _ :: _ => -1
  | _ :: _, [] => 1
  | x :: xs, y :: ys => if x = y then cmpL xs ys else if rank x < rank y then -1 else 1

theorem cmpL_self : ∀ a : By, cmpL a a = 0
  | [] => rfl
  | x :: xs => by rw [cmpL, if_pos rfl]; exact cmpL_self xs
theorem cmpL_three : ∀ a b : By, cmpL a b = -1 ∨ cmpL a b = 0 ∨ cmpL a b = 1
  | [], [] => by simp [cmpL]
  | [], _ :: _ => by simp [cmpL]
  | _ :: _, [] => by simp [cmpL]
  | x :: xs, y :: ys => by
    rw [cmpL]
    split
    · exact cmpL_three xs ys
    · split <;> simp
theorem cmpL_neg : ∀ a b : By, cmpL b a = - cmpL a b
  | [], [] => by simp [cmpL]
  | [], _ :: _ => by simp [cmpL]
  | _ :: _, [] => by simp [cmpL]
  | x :: xs, y :: ys => by
    rw [cmpL, cmpL]
    by_cases h : x = y
    · rw [if_pos h, if_pos h.symm]; exact cmpL_neg xs ys
    · rw [if_neg h, if_neg (fun e => h e.symm)]
      have : rank x ≠ rank y := fun e => h (rank_inj e)
      split <;> split <;> omega
theorem cmpL_zero : ∀ a b : By, cmpL a b = 0 ↔ a = b
  | [], [] => by simp [cmpL]
  | [], _ :: _ => by simp [cmpL]
  | _ :: _, [] => by simp [cmpL]
  | x :: xs, y :: ys => by
    rw [cmpL]
    by_cases h : x = y
    · rw [if_pos h, cmpL_zero xs ys]; simp [h]
    · rw [if_neg h]
      constructor
      · intro e; split at e <;> omega
      · intro e; simp at e; exact absurd e.1 h
theorem cmpL_trans : ∀ a b c : By, cmpL a b ≤ 0 → cmpL b c ≤ 0 → cmpL a c ≤ 0
  | [], b, [] => by simp [cmpL]
  | [], b, _ :: _ => by simp [cmpL]
  | _ :: _, [], c => by simp [cmpL]
  | _ :: _, _ :: _, [] => by simp [cmpL]
  | x :: xs, y :: ys, z :: zs => by
    have ih := cmpL_trans xs ys zs
    rw [cmpL, cmpL, cmpL]
    by_cases h : x = y
    · subst h
      rw [if_pos rfl]
      by_cases h2 : x = z
      · rw [if_pos h2, if_pos h2]; exact ih
      · rw [if_neg h2, if_neg h2]; intro _ h; exact h
    · rw [if_neg h]
      by_cases h2 : y = z
      · subst h2
        rw [if_pos rfl, if_neg h]; intro h _; exact h
      · rw [if_neg h2]
        intro h3 h4
        have h5 : rank x < rank y := by by_cases q : rank x < rank y; exact q; rw [if_neg q] at h3; omega
        have h6 : rank y < rank z := by by_cases q : rank y < rank z; exact q; rw [if_neg q] at h4; omega
        have h7 : x ≠ z := fun e => by subst e; omega
        rw [if_neg h7, if_pos (by omega)]
        omega

/-- is p root, or below it? -/
def underL (p root : By) : Prop := root = [] ∨ p = root ∨ ∃ r, p = root ++ 47 :: r

theorem under_cmp {a b : By} (h : underL a b) : cmpL b a ≤ 0 := by
  rcases h with rfl | rfl | ⟨r, rfl⟩
  · cases a <;> simp [cmpL]
  · rw [cmpL_self]; omega
  · induction b with
    | nil => simp [cmpL]
    | cons x xs ih => rw [List.cons_append, cmpL, if_pos rfl]; exact ih
theorem under_between {a b c : By} (h : underL c a) (h1 : cmpL a b = -1) (h2 : cmpL b c = -1) : underL b a := by
  rcases h with rfl | rfl | ⟨r, rfl⟩
  · exact .inl rfl
  · have := cmpL_neg c b; omega
  · refine .inr ?_
    induction a generalizing b with
    | nil =>
      cases b with
      | nil => simp [cmpL] at h1
      | cons y ys =>
        by_cases h : y = 47
        · subst h; exact .inr ⟨ys, rfl⟩
        · rw [List.nil_append, cmpL, if_neg h] at h2
          have := rank_lo h
          rw [if_neg (by omega)] at h2; omega
    | cons x xs ih =>
      cases b with
      | nil => simp [cmpL] at h1
      | cons y ys =>
        rw [List.cons_append] at h2
        rw [cmpL] at h1 h2
        by_cases h : x = y
        · subst h
          rw [if_pos rfl] at h1 h2
          rcases ih h1 h2 with rfl | ⟨r', rfl⟩
          · exact .inl rfl
          · exact .inr ⟨r', rfl⟩
        · rw [if_neg h] at h1
          rw [if_neg (fun e => h e.symm)] at h2
          have : rank x ≠ rank y := fun e => h (rank_inj e)
          split at h1 <;> split at h2 <;> omega

/-- pieces of a text, by 47 (of the empty text: one empty piece) -/
def cut : By → By × List By
  | [] => ([], [])
  | x :: xs => if x = 47 then ([], (cut xs).1 :: (cut xs).2) else (x :: (cut xs).1, (cut xs).2)
def cuts (l : By) : List By := (cut l).1 :: (cut l).2
def pieces (l : By) : List By := if l = [] then [] else cuts l
/-- texts, with 47 between them -/
def joinL : List By → By
  | [] => []
  | [x] => x
  | x :: y :: t => x ++ 47 :: joinL (y :: t)
theorem join_cuts : ∀ l : By, joinL (cuts l) = l
  | [] => rfl
  | x :: xs => by
    have ih := join_cuts xs
    unfold cuts at ih ⊢
    rw [cut]
    by_cases h : x = 47
    · rw [if_pos h]; subst h; simp only [joinL, List.nil_append]; rw [ih]
    · rw [if_neg h]
      simp only
      revert ih
      cases (cut xs).2 with
      | nil => intro ih; simp only [joinL] at ih ⊢; rw [ih]
      | cons y t => intro ih; simp only [joinL, List.cons_append] at ih ⊢; rw [ih]
theorem cuts_none {l : By} (h : ∀ x ∈ l, x ≠ 47) : cut l = (l, []) := by
  induction l with
  | nil => rfl
  | cons x xs ih => rw [cut, if_neg (h x (by simp)), ih (fun y hy => h y (by simp [hy]))]
theorem cut_at {l r : By} (h : ∀ x ∈ l, x ≠ 47) : cut (l ++ 47 :: r) = (l, cuts r) := by
  induction l with
  | nil => rw [List.nil_append, cut, if_pos rfl]; rfl
  | cons x xs ih => rw [List.cons_append, cut, if_neg (h x (by simp)), ih (fun y hy => h y (by simp [hy]))]
theorem cuts_join : ∀ {l : List By}, l ≠ [] → (∀ p ∈ l, ∀ x ∈ p, x ≠ 47) → cuts (joinL l) = l
  | [], h, _ => absurd rfl h
  | [x], _, h => by rw [joinL, cuts, cuts_none (h x (by simp))]
  | x :: y :: t, _, h => by
    rw [joinL, cuts, cut_at (h x (by simp)), cuts_join (by simp) (fun p hp => h p (by simp at hp ⊢; exact .inr hp))]
theorem cut_no : ∀ (l : By), (∀ x ∈ (cut l).1, x ≠ 47) ∧ ∀ p ∈ (cut l).2, ∀ x ∈ p, x ≠ 47
  | [] => by simp [cut]
  | x :: xs => by
    have ⟨i1, i2⟩ := cut_no xs
    rw [cut]
    by_cases h : x = 47
    · rw [if_pos h]
      refine ⟨by simp, fun p hp => ?_⟩
      simp only [List.mem_cons] at hp
      rcases hp with rfl | hp
      · exact i1
      · exact i2 p hp
    · rw [if_neg h]
      refine ⟨fun y hy => ?_, i2⟩
      simp only [List.mem_cons] at hy
      rcases hy with rfl | hy
      · exact h
      · exact i1 y hy
theorem cuts_no {l : By} : ∀ p ∈ cuts l, ∀ x ∈ p, x ≠ 47 := by
  intro p hp
  simp only [cuts, List.mem_cons] at hp
  rcases hp with rfl | hp
  · exact (cut_no l).1
  · exact (cut_no l).2 p hp
theorem cut_len : ∀ l : By, (cut l).2.length = l.count 47
  | [] => rfl
  | x :: xs => by
    rw [cut, List.count_cons]
    by_cases h : x = 47
    · rw [if_pos h, if_pos (by simp [h])]; simp [cut_len xs]
    · rw [if_neg h, if_neg (by simp [h])]; simp [cut_len xs]
theorem cuts_len (l : By) : (cuts l).length = l.count 47 + 1 := by
  rw [cuts, List.length_cons, cut_len]
end Go.Proofs.YtpngnhpnjkepjaaDoor
