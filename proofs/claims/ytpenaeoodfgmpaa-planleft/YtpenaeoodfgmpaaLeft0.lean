/-
  PlanLeft: what is left out, in Lean alone.
-/
import Derived.Test.YtpenaeoodfgmpaaSafe0
namespace Go.Proofs.Ytpenaeoodfgmpaa

/-- the places of what grows by a sort, of the first k cells -/
def grw (L : List Cd) (s : Nat) : Nat → List Int
  | 0 => []
  | k + 1 => match L[k]? with
    | some c => if srt c = s then grw L s k ++ [(k : Int)] else grw L s k
    | none => grw L s k
theorem grw_yes {L : List Cd} {s k : Nat} {c : Cd} (h : L[k]? = some c) (hs : srt c = s) : grw L s (k + 1) = grw L s k ++ [(k : Int)] := by simp [grw, h, hs]
theorem grw_no {L : List Cd} {s k : Nat} {c : Cd} (h : L[k]? = some c) (hs : srt c ≠ s) : grw L s (k + 1) = grw L s k := by simp [grw, h, hs]
theorem grw_len (L : List Cd) (s : Nat) : ∀ k, (grw L s k).length ≤ k
  | 0 => by simp [grw]
  | k + 1 => by
    have := grw_len L s k
    simp only [grw]
    split
    · split <;> simp <;> omega
    · omega
theorem grw_gat (L : List Cd) (most : Int) (s : Nat) : ∀ k, grw L s k = (gat L most s k).map (fun p => (p.1 : Int))
  | 0 => rfl
  | k + 1 => by
    have ih := grw_gat L most s k
    cases hc : L[k]? with
    | none => simp only [grw, gat, hc]; exact ih
    | some c =>
      simp only [grw, gat, hc]
      split <;> simp [ih]
/-- what the gathered ones are -/
theorem gat_cell (L : List Cd) (most : Int) (s : Nat) : ∀ k, ∀ q ∈ gat L most s k, q.1 < k ∧ ∃ c, L[q.1]? = some c ∧ q.2 = fall c most ∧ srt c = s
  | 0 => by simp [gat]
  | k + 1 => by
    intro q hq
    simp only [gat] at hq
    split at hq
    · rename_i c hc
      rcases List.mem_append.1 hq with h | h
      · have := gat_cell L most s k q h
        exact ⟨by omega, this.2⟩
      · split at h
        · rename_i hs
          simp at h
          subst h
          exact ⟨by simp, c, hc, rfl, hs⟩
        · simp at h
    · have := gat_cell L most s k q hq
      exact ⟨by omega, this.2⟩
theorem gat_nodup (L : List Cd) (most : Int) (s : Nat) : ∀ k, ((gat L most s k).map (·.1)).Nodup
  | 0 => by simp [gat]
  | k + 1 => by
    have ih := gat_nodup L most s k
    simp only [gat]
    split
    · split
      · rw [List.map_append, List.nodup_append]
        refine ⟨ih, by simp, ?_⟩
        intro x hx y hy
        obtain ⟨q, hq, rfl⟩ := List.mem_map.1 hx
        have := (gat_cell L most s k q hq).1
        simp at hy
        omega
      · simpa using ih
    · exact ih
/-- the two sorts, each from its end on -/
def rsF (L : List Cd) (most : Int) : List (Nat × Int) := (gat L most 0 L.length).reverse ++ (gat L most 1 L.length).reverse
theorem rsF_cell {L : List Cd} {most : Int} {q : Nat × Int} (h : q ∈ rsF L most) : q.1 < L.length ∧ ∃ c, L[q.1]? = some c ∧ q.2 = fall c most := by
  unfold rsF at h
  rcases List.mem_append.1 h with h | h
  · obtain ⟨a, c, b, d, _⟩ := gat_cell L most 0 L.length q (by simpa using h)
    exact ⟨a, c, b, d⟩
  · obtain ⟨a, c, b, d, _⟩ := gat_cell L most 1 L.length q (by simpa using h)
    exact ⟨a, c, b, d⟩
theorem rsF_nodup (L : List Cd) (most : Int) : ((rsF L most).map (·.1)).Nodup := by
  unfold rsF
  rw [List.map_append, List.map_reverse, List.map_reverse, List.nodup_append]
  have rv : ∀ l : List Nat, l.Nodup → l.reverse.Nodup := fun l h => by
    unfold List.Nodup at *
    rw [List.pairwise_reverse]
    exact h.imp fun h => h.symm
  refine ⟨rv _ (gat_nodup L most 0 L.length), rv _ (gat_nodup L most 1 L.length), ?_⟩
  intro x hx y hy e
  subst e
  obtain ⟨q, hq, hq1⟩ := List.mem_map.1 (by simpa using hx : x ∈ (gat L most 0 L.length).map (·.1))
  obtain ⟨r, hr, hr1⟩ := List.mem_map.1 (by simpa using hy : x ∈ (gat L most 1 L.length).map (·.1))
  obtain ⟨_, c, h1, _, h2⟩ := gat_cell L most 0 L.length q hq
  obtain ⟨_, d, h3, _, h4⟩ := gat_cell L most 1 L.length r hr
  rw [hq1] at h1
  rw [hr1, h1] at h3
  injection h3 with h3
  subst h3
  omega
/-- the worst by shares, these being left out -/
def wP (L : List Cd) (most : Int) (P : Nat → Bool) : Nat → Int
  | 0 => 0
  | k + 1 => match L[k]? with
    | some c => wP L most P k + (if P k then shr c.keep most else shr (mx c.keep c.take) most)
    | none => wP L most P k
theorem wP_none (L : List Cd) (most : Int) : ∀ k, wP L most (fun _ => false) k = wst L most k
  | 0 => rfl
  | k + 1 => by
    have ih := wP_none L most k
    cases hc : L[k]? with
    | none => simp only [wP, wst, hc]; exact ih
    | some c => simp [wP, wst, hc, ih]
theorem wP_set {L : List Cd} {most : Int} {P : Nat → Bool} {p : Nat} {c : Cd} (hc : L[p]? = some c) (hp : P p = false) : ∀ k, wP L most (fun i => P i || i == p) k = wP L most P k - (if p < k then fall c most else 0)
  | 0 => by simp [wP]
  | k + 1 => by
    have ih := wP_set (most := most) hc hp k
    simp only [wP]
    by_cases e : k = p
    · subst e
      rw [hc]
      simp only [hp, beq_self_eq_true, Bool.or_true, if_true, Bool.false_eq_true, if_false]
      rw [ih]
      have : ¬ k < k := by omega
      have : k < k + 1 := by omega
      simp [*, fall]
      omega
    · have hb : (k == p) = false := by simp [e]
      have hq : (P k || k == p) = P k := by rw [hb, Bool.or_false]
      split
      · simp only [hq]
        rw [ih]
        by_cases h : p < k
        · have : p < k + 1 := by omega
          simp only [h, this, if_true]; omega
        · have : ¬ p < k + 1 := by omega
          simp only [h, this, if_false]; omega
      · rw [ih]
        by_cases h : p < k
        · have : p < k + 1 := by omega
          simp only [h, this, if_true]
        · have : ¬ p < k + 1 := by omega
          simp only [h, this, if_false]
theorem contains_cons' (q : Nat) (T : List Nat) (P : Nat → Bool) : (fun i => P i || (q :: T).contains i) = (fun i => (P i || i == q) || T.contains i) := by
  funext i
  rw [List.contains_cons, Bool.or_assoc]
theorem lv_spec (L : List Cd) (most : Int) (n : Nat) : ∀ (Rs : List (Nat × Int)) (B : List Bool) (P : Nat → Bool) (w : Int), B.length = n → (∀ i, i < n → B[i]? = some (P i)) → w = wP L most P n →
    (∀ q ∈ Rs, q.1 < n ∧ P q.1 = false ∧ ∃ c, L[q.1]? = some c ∧ q.2 = fall c most) → (Rs.map (·.1)).Nodup →
    ∃ m, m ≤ Rs.length ∧ (∀ i, i < n → (lv most Rs w B).2[i]? = some (P i || ((Rs.take m).map (·.1)).contains i)) ∧ (m < Rs.length → wP L most (fun i => P i || ((Rs.take m).map (·.1)).contains i) n ≤ most) ∧
      (∀ k, m = k + 1 → ¬ wP L most (fun i => P i || ((Rs.take k).map (·.1)).contains i) n ≤ most)
  | [], B, P, w, hl, hB, hw, _, _ => ⟨0, by simp, fun i hi => by simpa [lv] using hB i hi, by simp, by simp⟩
  | q :: Rs, B, P, w, hl, hB, hw, hR, hN => by
    by_cases h : w ≤ most
    · refine ⟨0, by simp, fun i hi => ?_, fun _ => ?_, by simp⟩
      · rw [lv_le h]
        simpa using hB i hi
      · simpa [← hw] using h
    · obtain ⟨q1, q2, c, q3, q4⟩ := hR q (by simp)
      simp only [List.map_cons, List.nodup_cons] at hN
      have hset : wP L most (fun i => P i || i == q.1) n = w - q.2 := by
        rw [wP_set q3 q2 n, if_pos q1, ← q4, ← hw]
      obtain ⟨m, i1, i2, i3, i4⟩ := lv_spec L most n Rs (B.set q.1 true) (fun i => P i || i == q.1) (w - q.2) (by simpa using hl) (fun i hi => by
        by_cases e : q.1 = i
        · subst e
          rw [List.getElem?_set_self (by omega)]
          simp
        · have : (i == q.1) = false := by simp; omega
          rw [List.getElem?_set_ne e, hB i hi, this, Bool.or_false]) hset.symm (fun r hr => by
        obtain ⟨a, b, d⟩ := hR r (by simp [hr])
        refine ⟨a, ?_, d⟩
        have : r.1 ≠ q.1 := fun e => hN.1 (e ▸ List.mem_map.2 ⟨r, hr, rfl⟩)
        simp [b, this]) hN.2
      refine ⟨m + 1, by simp; omega, fun i hi => ?_, fun hm => ?_, fun k hk => ?_⟩
      · have : lv most (q :: Rs) w B = lv most Rs (w - q.2) (B.set q.1 true) := by simp [lv, h]
        rw [this, i2 i hi, List.take_succ_cons, List.map_cons, List.contains_cons, Bool.or_assoc]
      · rw [List.take_succ_cons, List.map_cons, contains_cons']
        exact i3 (by simpa using hm)
      · obtain rfl : m = k := by omega
        cases m with
        | zero =>
          simp only [List.take_zero, List.map_nil, List.contains_nil, Bool.or_false]
          have e : wP L most (fun i => P i) n = w := hw.symm
          rw [e]
          exact h
        | succ k =>
          rw [List.take_succ_cons, List.map_cons, contains_cons']
          exact i4 k rfl
/-- shares against numbers -/
theorem wP_le {L : List Cd} {most : Int} {P : Nat → Bool} {R : List Int} (hR : ∀ k, k < L.length → R.contains (k : Int) = P k) : ∀ k, k ≤ L.length → wP L most P k ≤ wS L R k
  | 0, _ => by simp [wP, wS]
  | k + 1, hk => by
    have ih := wP_le (most := most) hR k (by omega)
    have hx := hR k (by omega)
    cases hc : L[k]? with
    | none => simp only [wP, wS, hc]; exact ih
    | some c =>
      simp only [wP, wS, hc, hx]
      have s1 : ∀ x : Int, shr x most ≤ x := fun x => by unfold shr mn; split <;> omega
      have := s1 c.keep
      have := s1 (mx c.keep c.take)
      split <;> omega
theorem wP_nn {L : List Cd} {most : Int} {P : Nat → Bool} (hP : ∀ c ∈ L, c.pos) (hm : 0 ≤ most) : ∀ k, 0 ≤ wP L most P k
  | 0 => by simp [wP]
  | k + 1 => by
    have ih := wP_nn (P := P) hP hm k
    simp only [wP]
    split
    · rename_i c hc
      have h := hP c (List.mem_of_getElem? hc)
      have h1 := shr_bd (n := c.keep) h.1 hm
      have h2 := shr_bd (n := mx c.keep c.take) (mx_nn h.1) hm
      split <;> omega
    · exact ih
theorem wP_eq {L : List Cd} {most : Int} {P : Nat → Bool} {R : List Int} (hP : ∀ c ∈ L, c.pos) (hm : 0 ≤ most) (hR : ∀ k, k < L.length → R.contains (k : Int) = P k) : ∀ k, k ≤ L.length → wP L most P k ≤ most → wS L R k = wP L most P k
  | 0, _, _ => by simp [wP, wS]
  | k + 1, hk, hle => by
    have ih := wP_eq hP hm hR k (by omega)
    have hx := hR k (by omega)
    have h0 := wP_nn (P := P) hP hm k
    cases hc : L[k]? with
    | some c =>
      simp only [wP, hc] at hle ⊢
      simp only [wS, hc]
      have h := hP c (List.mem_of_getElem? hc)
      have h1 := shr_bd (n := c.keep) h.1 hm
      have h2 := shr_bd (n := mx c.keep c.take) (mx_nn h.1) hm
      have s1 : ∀ x : Int, shr x most ≤ most → shr x most = x := fun x => by unfold shr mn; split <;> omega
      rw [hx]
      cases hp : P k with
      | true =>
        rw [hp] at hle
        simp only [if_true] at hle ⊢
        rw [ih (by omega), s1 _ (by omega)]
      | false =>
        rw [hp] at hle
        simp only [Bool.false_eq_true, if_false] at hle ⊢
        rw [ih (by omega), s1 _ (by omega)]
    | none =>
      simp only [wP, hc] at hle ⊢
      simp only [wS, hc]
      exact ih hle
theorem pls_nodup (B : List Bool) : ∀ n, (pls B n).Nodup
  | 0 => by simp [pls]
  | n + 1 => by
    have ih := pls_nodup B n
    simp only [pls]
    split
    · rw [List.nodup_append]
      refine ⟨ih, by simp, ?_⟩
      intro x hx y hy e
      simp at hy
      subst hy
      subst e
      have := ((pls_mem B n n).1 hx).1
      omega
    · exact ih
theorem pls_nat (B : List Bool) : ∀ n, ∀ x ∈ pls B n, ∃ i : Nat, x = (i : Int) ∧ i < n
  | 0 => by simp [pls]
  | n + 1 => by
    intro x hx
    simp only [pls] at hx
    split at hx
    · rcases List.mem_append.1 hx with h | h
      · obtain ⟨i, a, b⟩ := pls_nat B n x h
        exact ⟨i, a, by omega⟩
      · simp at h
        exact ⟨n, h, by omega⟩
    · obtain ⟨i, a, b⟩ := pls_nat B n x hx
      exact ⟨i, a, by omega⟩
/-- rising -/
theorem pls_rises (B : List Bool) : ∀ n (i : Nat) (x y : Int), (pls B n)[i]? = some x → (pls B n)[i + 1]? = some y → x < y
  | 0, i, x, y => by simp [pls]
  | n + 1, i, x, y => by
    have ih := pls_rises B n i x y
    simp only [pls]
    split
    · intro hx hy
      have hl := (List.getElem?_eq_some_iff.1 hy).1
      simp only [List.length_append, List.length_singleton] at hl
      rw [List.getElem?_append_left (by omega)] at hx
      by_cases h : i + 1 < (pls B n).length
      · rw [List.getElem?_append_left h] at hy
        exact ih hx hy
      · rw [List.getElem?_append_right (by omega)] at hy
        have e : i + 1 - (pls B n).length = 0 := by omega
        rw [e] at hy
        simp at hy
        subst hy
        obtain ⟨j, e2, hj⟩ := pls_nat B n x (List.mem_of_getElem? hx)
        omega
    · exact ih
end Go.Proofs.Ytpenaeoodfgmpaa
