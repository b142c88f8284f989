/-
  What the reference leaves out is what the program leaves out: in Lean alone.
-/
import Derived.Test.YtpenaeoodfgmpaaGreatDoorPlain
namespace Go.Proofs.YtpenaeoodfgmpaaGreatDoor

/-- the worst by its definition, of the first k cells -/
def wS (L : List Cd) (R : List Int) : Nat → Int
  | 0 => 0
  | k + 1 => match L[k]? with
    | some c => wS L R k + (if R.contains (k : Int) then c.keep else mx c.keep c.take)
    | none => wS L R k
theorem wS_step {L : List Cd} {R : List Int} {k : Nat} {c : Cd} (h : L[k]? = some c) : wS L R (k + 1) = wS L R k + (if R.contains (k : Int) then c.keep else mx c.keep c.take) := by simp only [wS, h]
theorem pls_mem (B : List Bool) : ∀ (n i : Nat), (i : Int) ∈ pls B n ↔ i < n ∧ B[i]? = some true
  | 0, i => by simp [pls]
  | n + 1, i => by
    have ih := pls_mem B n i
    simp only [pls]
    split
    · rename_i h
      rw [List.mem_append, ih]
      simp only [List.mem_singleton, Int.natCast_inj]
      constructor
      · rintro (⟨a, b⟩ | rfl)
        · exact ⟨by omega, b⟩
        · exact ⟨by omega, h⟩
      · rintro ⟨a, b⟩
        by_cases e : i = n
        · exact .inr e
        · exact .inl ⟨by omega, b⟩
    · rename_i h
      rw [ih]
      constructor
      · rintro ⟨a, b⟩; exact ⟨by omega, b⟩
      · rintro ⟨a, b⟩
        have : i ≠ n := fun e => h (e ▸ b)
        exact ⟨by omega, b⟩
theorem pls_in {B : List Bool} {i : Nat} {b : Bool} (h : B[i]? = some b) : (pls B B.length).contains (i : Int) = b := by
  have hl := (List.getElem?_eq_some_iff.1 h).1
  cases b with
  | true => simpa using (pls_mem B B.length i).2 ⟨hl, h⟩
  | false =>
    have : ¬ (i : Int) ∈ pls B B.length := fun hm => by
      have := ((pls_mem B B.length i).1 hm).2
      rw [h] at this; cases this
    simpa using this
end Go.Proofs.YtpenaeoodfgmpaaGreatDoor
namespace Go.Proofs.YtpenaeoodfgmpaaGreatDoor

/-- the places of what grows by a sort, of the first k cells -/
def grw (L : List Cd) (s : Nat) : Nat → List Int
  | 0 => []
  | k + 1 => match L[k]? with
    | some c => if srt c = s then grw L s k ++ [(k : Int)] else grw L s k
    | none => grw L s k
theorem grw_yes {L : List Cd} {s k : Nat} {c : Cd} (h : L[k]? = some c) (hs : srt c = s) : grw L s (k + 1) = grw L s k ++ [(k : Int)] := by simp [grw, h, hs]
theorem grw_no {L : List Cd} {s k : Nat} {c : Cd} (h : L[k]? = some c) (hs : srt c ≠ s) : grw L s (k + 1) = grw L s k := by simp [grw, h, hs]
theorem grw_len (L : List Cd) (s : Nat) : ∀ k, (grw L s k).length ≤ k
  | 0 => by simp [grw]
  | k + 1 => by
    have := grw_len L s k
    simp only [grw]
    split
    · split <;> simp <;> omega
    · omega
theorem grw_gat (L : List Cd) (most : Int) (s : Nat) : ∀ k, grw L s k = (gat L most s k).map (fun p => (p.1 : Int))
  | 0 => rfl
  | k + 1 => by
    have ih := grw_gat L most s k
    cases hc : L[k]? with
    | none => simp only [grw, gat, hc]; exact ih
    | some c =>
      simp only [grw, gat, hc]
      split <;> simp [ih]
/-- what the gathered ones are -/
theorem gat_cell (L : List Cd) (most : Int) (s : Nat) : ∀ k, ∀ q ∈ gat L most s k, q.1 < k ∧ ∃ c, L[q.1]? = some c ∧ q.2 = fall c most ∧ srt c = s
  | 0 => by simp [gat]
  | k + 1 => by
    intro q hq
    simp only [gat] at hq
    split at hq
    · rename_i c hc
      rcases List.mem_append.1 hq with h | h
      · have := gat_cell L most s k q h
        exact ⟨by omega, this.2⟩
      · split at h
        · rename_i hs
          simp at h
          subst h
          exact ⟨by simp, c, hc, rfl, hs⟩
        · simp at h
    · have := gat_cell L most s k q hq
      exact ⟨by omega, this.2⟩
theorem gat_nodup (L : List Cd) (most : Int) (s : Nat) : ∀ k, ((gat L most s k).map (·.1)).Nodup
  | 0 => by simp [gat]
  | k + 1 => by
    have ih := gat_nodup L most s k
    simp only [gat]
    split
    · split
      · rw [List.map_append, List.nodup_append]
        refine ⟨ih, by simp, ?_⟩
        intro x hx y hy
        obtain ⟨q, hq, rfl⟩ := List.mem_map.1 hx
        have := (gat_cell L most s k q hq).1
        simp at hy
        omega
      · simpa using ih
    · exact ih
/-- the two sorts, each from its end on -/
def rsF (L : List Cd) (most : Int) : List (Nat × Int) := (gat L most 0 L.length).reverse ++ (gat L most 1 L.length).reverse
theorem rsF_cell {L : List Cd} {most : Int} {q : Nat × Int} (h : q ∈ rsF L most) : q.1 < L.length ∧ ∃ c, L[q.1]? = some c ∧ q.2 = fall c most := by
  unfold rsF at h
  rcases List.mem_append.1 h with h | h
  · obtain ⟨a, c, b, d, _⟩ := gat_cell L most 0 L.length q (by simpa using h)
    exact ⟨a, c, b, d⟩
  · obtain ⟨a, c, b, d, _⟩ := gat_cell L most 1 L.length q (by simpa using h)
    exact ⟨a, c, b, d⟩
theorem rsF_nodup (L : List Cd) (most : Int) : ((rsF L most).map (·.1)).Nodup := by
  unfold rsF
  rw [List.map_append, List.map_reverse, List.map_reverse, List.nodup_append]
  have rv : ∀ l : List Nat, l.Nodup → l.reverse.Nodup := fun l h => by
    unfold List.Nodup at *
    rw [List.pairwise_reverse]
    exact h.imp fun h => h.symm
  refine ⟨rv _ (gat_nodup L most 0 L.length), rv _ (gat_nodup L most 1 L.length), ?_⟩
  intro x hx y hy e
  subst e
  obtain ⟨q, hq, hq1⟩ := List.mem_map.1 (by simpa using hx : x ∈ (gat L most 0 L.length).map (·.1))
  obtain ⟨r, hr, hr1⟩ := List.mem_map.1 (by simpa using hy : x ∈ (gat L most 1 L.length).map (·.1))
  obtain ⟨_, c, h1, _, h2⟩ := gat_cell L most 0 L.length q hq
  obtain ⟨_, d, h3, _, h4⟩ := gat_cell L most 1 L.length r hr
  rw [hq1] at h1
  rw [hr1, h1] at h3
  injection h3 with h3
  subst h3
  omega
/-- the worst by shares, these being left out -/
def wP (L : List Cd) (most : Int) (P : Nat → Bool) : Nat → Int
  | 0 => 0
  | k + 1 => match L[k]? with
    | some c => wP L most P k + (if P k then shr c.keep most else shr (mx c.keep c.take) most)
    | none => wP L most P k
theorem wP_none (L : List Cd) (most : Int) : ∀ k, wP L most (fun _ => false) k = wst L most k
  | 0 => rfl
  | k + 1 => by
    have ih := wP_none L most k
    cases hc : L[k]? with
    | none => simp only [wP, wst, hc]; exact ih
    | some c => simp [wP, wst, hc, ih]
theorem wP_set {L : List Cd} {most : Int} {P : Nat → Bool} {p : Nat} {c : Cd} (hc : L[p]? = some c) (hp : P p = false) : ∀ k, wP L most (fun i => P i || i == p) k = wP L most P k - (if p < k then fall c most else 0)
  | 0 => by simp [wP]
  | k + 1 => by
    have ih := wP_set (most := most) hc hp k
    simp only [wP]
    by_cases e : k = p
    · subst e
      rw [hc]
      simp only [hp, beq_self_eq_true, Bool.or_true, if_true, Bool.false_eq_true, if_false]
      rw [ih]
      have : ¬ k < k := by omega
      have : k < k + 1 := by omega
      simp [*, fall]
      omega
    · have hb : (k == p) = false := by simp [e]
      have hq : (P k || k == p) = P k := by rw [hb, Bool.or_false]
      split
      · simp only [hq]
        rw [ih]
        by_cases h : p < k
        · have : p < k + 1 := by omega
          simp only [h, this, if_true]; omega
        · have : ¬ p < k + 1 := by omega
          simp only [h, this, if_false]; omega
      · rw [ih]
        by_cases h : p < k
        · have : p < k + 1 := by omega
          simp only [h, this, if_true]
        · have : ¬ p < k + 1 := by omega
          simp only [h, this, if_false]
theorem contains_cons' (q : Nat) (T : List Nat) (P : Nat → Bool) : (fun i => P i || (q :: T).contains i) = (fun i => (P i || i == q) || T.contains i) := by
  funext i
  rw [List.contains_cons, Bool.or_assoc]
theorem lv_spec (L : List Cd) (most : Int) (n : Nat) : ∀ (Rs : List (Nat × Int)) (B : List Bool) (P : Nat → Bool) (w : Int), B.length = n → (∀ i, i < n → B[i]? = some (P i)) → w = wP L most P n →
    (∀ q ∈ Rs, q.1 < n ∧ P q.1 = false ∧ ∃ c, L[q.1]? = some c ∧ q.2 = fall c most) → (Rs.map (·.1)).Nodup →
    ∃ m, m ≤ Rs.length ∧ (∀ i, i < n → (lv most Rs w B).2[i]? = some (P i || ((Rs.take m).map (·.1)).contains i)) ∧ (m < Rs.length → wP L most (fun i => P i || ((Rs.take m).map (·.1)).contains i) n ≤ most) ∧
      (∀ k, m = k + 1 → ¬ wP L most (fun i => P i || ((Rs.take k).map (·.1)).contains i) n ≤ most)
  | [], B, P, w, hl, hB, hw, _, _ => ⟨0, by simp, fun i hi => by simpa [lv] using hB i hi, by simp, by simp⟩
  | q :: Rs, B, P, w, hl, hB, hw, hR, hN => by
    by_cases h : w ≤ most
    · refine ⟨0, by simp, fun i hi => ?_, fun _ => ?_, by simp⟩
      · rw [lv_le h]
        simpa using hB i hi
      · simpa [← hw] using h
    · obtain ⟨q1, q2, c, q3, q4⟩ := hR q (by simp)
      simp only [List.map_cons, List.nodup_cons] at hN
      have hset : wP L most (fun i => P i || i == q.1) n = w - q.2 := by
        rw [wP_set q3 q2 n, if_pos q1, ← q4, ← hw]
      obtain ⟨m, i1, i2, i3, i4⟩ := lv_spec L most n Rs (B.set q.1 true) (fun i => P i || i == q.1) (w - q.2) (by simpa using hl) (fun i hi => by
        by_cases e : q.1 = i
        · subst e
          rw [List.getElem?_set_self (by omega)]
          simp
        · have : (i == q.1) = false := by simp; omega
          rw [List.getElem?_set_ne e, hB i hi, this, Bool.or_false]) hset.symm (fun r hr => by
        obtain ⟨a, b, d⟩ := hR r (by simp [hr])
        refine ⟨a, ?_, d⟩
        have : r.1 ≠ q.1 := fun e => hN.1 (e ▸ List.mem_map.2 ⟨r, hr, rfl⟩)
        simp [b, this]) hN.2
      refine ⟨m + 1, by simp; omega, fun i hi => ?_, fun hm => ?_, fun k hk => ?_⟩
      · have : lv most (q :: Rs) w B = lv most Rs (w - q.2) (B.set q.1 true) := by simp [lv, h]
        rw [this, i2 i hi, List.take_succ_cons, List.map_cons, List.contains_cons, Bool.or_assoc]
      · rw [List.take_succ_cons, List.map_cons, contains_cons']
        exact i3 (by simpa using hm)
      · obtain rfl : m = k := by omega
        cases m with
        | zero =>
          simp only [List.take_zero, List.map_nil, List.contains_nil, Bool.or_false]
          have e : wP L most (fun i => P i) n = w := hw.symm
          rw [e]
          exact h
        | succ k =>
          rw [List.take_succ_cons, List.map_cons, contains_cons']
          exact i4 k rfl
/-- shares against numbers -/
theorem wP_le {L : List Cd} {most : Int} {P : Nat → Bool} {R : List Int} (hR : ∀ k, k < L.length → R.contains (k : Int) = P k) : ∀ k, k ≤ L.length → wP L most P k ≤ wS L R k
  | 0, _ => by simp [wP, wS]
  | k + 1, hk => by
    have ih := wP_le (most := most) hR k (by omega)
    have hx := hR k (by omega)
    cases hc : L[k]? with
    | none => simp only [wP, wS, hc]; exact ih
    | some c =>
      simp only [wP, wS, hc, hx]
      have s1 : ∀ x : Int, shr x most ≤ x := fun x => by unfold shr mn; split <;> omega
      have := s1 c.keep
      have := s1 (mx c.keep c.take)
      split <;> omega
theorem wP_nn {L : List Cd} {most : Int} {P : Nat → Bool} (hP : ∀ c ∈ L, c.pos) (hm : 0 ≤ most) : ∀ k, 0 ≤ wP L most P k
  | 0 => by simp [wP]
  | k + 1 => by
    have ih := wP_nn (P := P) hP hm k
    simp only [wP]
    split
    · rename_i c hc
      have h := hP c (List.mem_of_getElem? hc)
      have h1 := shr_bd (n := c.keep) h.1 hm
      have h2 := shr_bd (n := mx c.keep c.take) (mx_nn h.1) hm
      split <;> omega
    · exact ih
theorem wP_eq {L : List Cd} {most : Int} {P : Nat → Bool} {R : List Int} (hP : ∀ c ∈ L, c.pos) (hm : 0 ≤ most) (hR : ∀ k, k < L.length → R.contains (k : Int) = P k) : ∀ k, k ≤ L.length → wP L most P k ≤ most → wS L R k = wP L most P k
  | 0, _, _ => by simp [wP, wS]
  | k + 1, hk, hle => by
    have ih := wP_eq hP hm hR k (by omega)
    have hx := hR k (by omega)
    have h0 := wP_nn (P := P) hP hm k
    cases hc : L[k]? with
    | some c =>
      simp only [wP, hc] at hle ⊢
      simp only [wS, hc]
      have h := hP c (List.mem_of_getElem? hc)
      have h1 := shr_bd (n := c.keep) h.1 hm
      have h2 := shr_bd (n := mx c.keep c.take) (mx_nn h.1) hm
      have s1 : ∀ x : Int, shr x most ≤ most → shr x most = x := fun x => by unfold shr mn; split <;> omega
      rw [hx]
      cases hp : P k with
      | true =>
        rw [hp] at hle
        simp only [if_true] at hle ⊢
        rw [ih (by omega), s1 _ (by omega)]
      | false =>
        rw [hp] at hle
        simp only [Bool.false_eq_true, if_false] at hle ⊢
        rw [ih (by omega), s1 _ (by omega)]
    | none =>
      simp only [wP, hc] at hle ⊢
      simp only [wS, hc]
      exact ih hle
theorem pls_nodup (B : List Bool) : ∀ n, (pls B n).Nodup
  | 0 => by simp [pls]
  | n + 1 => by
    have ih := pls_nodup B n
    simp only [pls]
    split
    · rw [List.nodup_append]
      refine ⟨ih, by simp, ?_⟩
      intro x hx y hy e
      simp at hy
      subst hy
      subst e
      have := ((pls_mem B n n).1 hx).1
      omega
    · exact ih
theorem pls_nat (B : List Bool) : ∀ n, ∀ x ∈ pls B n, ∃ i : Nat, x = (i : Int) ∧ i < n
  | 0 => by simp [pls]
  | n + 1 => by
    intro x hx
    simp only [pls] at hx
    split at hx
    · rcases List.mem_append.1 hx with h | h
      · obtain ⟨i, a, b⟩ := pls_nat B n x h
        exact ⟨i, a, by omega⟩
      · simp at h
        exact ⟨n, h, by omega⟩
    · obtain ⟨i, a, b⟩ := pls_nat B n x hx
      exact ⟨i, a, by omega⟩
/-- rising -/
theorem pls_rises (B : List Bool) : ∀ n (i : Nat) (x y : Int), (pls B n)[i]? = some x → (pls B n)[i + 1]? = some y → x < y
  | 0, i, x, y => by simp [pls]
  | n + 1, i, x, y => by
    have ih := pls_rises B n i x y
    simp only [pls]
    split
    · intro hx hy
      have hl := (List.getElem?_eq_some_iff.1 hy).1
      simp only [List.length_append, List.length_singleton] at hl
      rw [List.getElem?_append_left (by omega)] at hx
      by_cases h : i + 1 < (pls B n).length
      · rw [List.getElem?_append_left h] at hy
        exact ih hx hy
      · rw [List.getElem?_append_right (by omega)] at hy
        have e : i + 1 - (pls B n).length = 0 := by omega
        rw [e] at hy
        simp at hy
        subst hy
        obtain ⟨j, e2, hj⟩ := pls_nat B n x (List.mem_of_getElem? hx)
        omega
    · exact ih
end Go.Proofs.YtpenaeoodfgmpaaGreatDoor
namespace Go.Proofs.YtpenaeoodfgmpaaGreatDoor

theorem lv_spec2 (L : List Cd) (most : Int) (n : Nat) : ∀ (Rs : List (Nat × Int)) (B : List Bool) (P : Nat → Bool) (w : Int), B.length = n → (∀ i, i < n → B[i]? = some (P i)) → w = wP L most P n →
    (∀ q ∈ Rs, q.1 < n ∧ P q.1 = false ∧ ∃ c, L[q.1]? = some c ∧ q.2 = fall c most) → (Rs.map (·.1)).Nodup →
    ∃ m, m ≤ Rs.length ∧ (∀ i, i < n → (lv most Rs w B).2[i]? = some (P i || ((Rs.take m).map (·.1)).contains i)) ∧ (m < Rs.length → wP L most (fun i => P i || ((Rs.take m).map (·.1)).contains i) n ≤ most) ∧
      (∀ k, k < m → ¬ wP L most (fun i => P i || ((Rs.take k).map (·.1)).contains i) n ≤ most)
  | [], B, P, w, hl, hB, hw, _, _ => ⟨0, by simp, fun i hi => by simpa [lv] using hB i hi, by simp, by simp⟩
  | q :: Rs, B, P, w, hl, hB, hw, hR, hN => by
    by_cases h : w ≤ most
    · refine ⟨0, by simp, fun i hi => ?_, fun _ => ?_, by simp⟩
      · rw [lv_le h]
        simpa using hB i hi
      · simpa [← hw] using h
    · obtain ⟨q1, q2, c, q3, q4⟩ := hR q (by simp)
      simp only [List.map_cons, List.nodup_cons] at hN
      have hset : wP L most (fun i => P i || i == q.1) n = w - q.2 := by
        rw [wP_set q3 q2 n, if_pos q1, ← q4, ← hw]
      obtain ⟨m, i1, i2, i3, i4⟩ := lv_spec2 L most n Rs (B.set q.1 true) (fun i => P i || i == q.1) (w - q.2) (by simpa using hl) (fun i hi => by
        by_cases e : q.1 = i
        · subst e
          rw [List.getElem?_set_self (by omega)]
          simp
        · have : (i == q.1) = false := by simp; omega
          rw [List.getElem?_set_ne e, hB i hi, this, Bool.or_false]) hset.symm (fun r hr => by
        obtain ⟨a, b, d⟩ := hR r (by simp [hr])
        refine ⟨a, ?_, d⟩
        have : r.1 ≠ q.1 := fun e => hN.1 (e ▸ List.mem_map.2 ⟨r, hr, rfl⟩)
        simp [b, this]) hN.2
      refine ⟨m + 1, by simp; omega, fun i hi => ?_, fun hm => ?_, fun k hk => ?_⟩
      · have : lv most (q :: Rs) w B = lv most Rs (w - q.2) (B.set q.1 true) := by simp [lv, h]
        rw [this, i2 i hi, List.take_succ_cons, List.map_cons, List.contains_cons, Bool.or_assoc]
      · rw [List.take_succ_cons, List.map_cons, contains_cons']
        exact i3 (by simpa using hm)
      · cases k with
        | zero =>
          simp only [List.take_zero, List.map_nil, List.contains_nil, Bool.or_false]
          have e : wP L most (fun i => P i) n = w := hw.symm
          rw [e]
          exact h
        | succ k =>
          rw [List.take_succ_cons, List.map_cons, contains_cons']
          exact i4 k (by omega)
/-- the places of the first m that are left out -/
def tk (C : List Cd) (most : Int) (m : Nat) : List Nat := ((rsF C most).take m).map (·.1)
/-- the worst by shares, the first m being left out -/
def wT (C : List Cd) (most : Int) (m : Nat) : Int := wP C most (fun i => (tk C most m).contains i) C.length
theorem leave_tk (C : List Cd) (most : Int) : ∃ m, m ≤ (rsF C most).length ∧ (∀ i, i < C.length → (leave C most)[i]? = some ((tk C most m).contains i)) ∧ (m < (rsF C most).length → wT C most m ≤ most) ∧ (∀ k, k < m → ¬ wT C most k ≤ most) := by
  obtain ⟨m, m1, m2, m3, m4⟩ := lv_spec2 C most C.length (rsF C most) (List.replicate C.length false) (fun _ => false) (wst C most C.length) (by simp) (fun i hi => by simp [hi]) (wP_none C most _).symm (fun q hq => by
    obtain ⟨h1, h2⟩ := rsF_cell hq
    exact ⟨h1, rfl, h2⟩) (rsF_nodup C most)
  simp only [Bool.false_or] at m2 m3 m4
  refine ⟨m, m1, fun i hi => ?_, m3, m4⟩
  have := m2 i hi
  simpa [leave, rsF, tk] using this
/-- what is so is what is left out -/
theorem leave_is {C : List Cd} {most : Int} {m : Nat} (h1 : m ≤ (rsF C most).length) (h2 : m < (rsF C most).length → wT C most m ≤ most) (h3 : ∀ k, k < m → ¬ wT C most k ≤ most) {B : List Bool} (hl : B.length = C.length) (hB : ∀ i, i < C.length → B[i]? = some ((tk C most m).contains i)) : B = leave C most := by
  obtain ⟨m', a1, a2, a3, a4⟩ := leave_tk C most
  have e : m = m' := by
    rcases Nat.lt_trichotomy m m' with h | h | h
    · exact absurd (h2 (by omega)) (a4 m h)
    · exact h
    · exact absurd (a3 (by omega)) (h3 m' h)
  subst e
  apply List.ext_getElem?
  intro i
  by_cases hi : i < C.length
  · rw [hB i hi, a2 i hi]
  · rw [List.getElem?_eq_none (by omega), List.getElem?_eq_none (by rw [leave_len]; omega)]
/-- the last one that grows by a sort and isn't left out -/
def lastF (C : List Cd) (P : Nat → Bool) (s : Nat) : Nat → Int
  | 0 => -1
  | k + 1 => match C[k]? with
    | some c => if P k = false ∧ srt c = s then (k : Int) else lastF C P s k
    | none => lastF C P s k
def hd (l : List (Nat × Int)) : Int := match l with | [] => -1 | q :: _ => (q.1 : Int)
theorem lastF_hd (C : List Cd) (most : Int) (P : Nat → Bool) (s : Nat) : ∀ k, lastF C P s k = hd ((gat C most s k).reverse.filter (fun q => !P q.1))
  | 0 => rfl
  | k + 1 => by
    have ih := lastF_hd C most P s k
    cases hc : C[k]? with
    | none => simp only [lastF, gat, hc]; exact ih
    | some c =>
      simp only [lastF, gat, hc]
      by_cases hs : srt c = s
      · cases hp : P k with
        | false => simp [hs, hp, hd]
        | true => simp [hs, hp, ih]
      · simp [hs, ih]
theorem filter_drop : ∀ (l : List (Nat × Int)) (m : Nat), (l.map (·.1)).Nodup → l.filter (fun q => !((l.take m).map (·.1)).contains q.1) = l.drop m
  | [], m, _ => by simp
  | q :: l, 0, _ => by simp
  | q :: l, m + 1, h => by
    simp only [List.map_cons, List.nodup_cons] at h
    have ih := filter_drop l m h.2
    rw [List.take_succ_cons, List.map_cons, List.filter_cons]
    simp only [List.contains_cons, beq_self_eq_true, Bool.true_or, Bool.not_true, Bool.false_eq_true, if_false, List.drop_succ_cons]
    rw [← ih]
    apply List.filter_congr
    intro r hr
    have : r.1 ≠ q.1 := fun e => h.1 (e ▸ List.mem_map.2 ⟨r, hr, rfl⟩)
    simp [this]
theorem nxt_at {C : List Cd} {most : Int} {m : Nat} (n : Nat) (hn : n = C.length) :
    (m < (gat C most 0 n).length → ∃ q, (rsF C most)[m]? = some q ∧ lastF C (fun i => (tk C most m).contains i) 0 n = (q.1 : Int)) ∧
    ((gat C most 0 n).length ≤ m → lastF C (fun i => (tk C most m).contains i) 0 n = -1 ∧ (∀ q, (rsF C most)[m]? = some q → lastF C (fun i => (tk C most m).contains i) 1 n = (q.1 : Int)) ∧ ((rsF C most)[m]? = none → lastF C (fun i => (tk C most m).contains i) 1 n = -1)) := by
  subst hn
  obtain ⟨ra, hra⟩ : ∃ ra, (gat C most 0 C.length).reverse = ra := ⟨_, rfl⟩
  obtain ⟨rb, hrb⟩ : ∃ rb, (gat C most 1 C.length).reverse = rb := ⟨_, rfl⟩
  have hN := rsF_nodup C most
  have hrs : rsF C most = ra ++ rb := by unfold rsF; rw [hra, hrb]
  have hla : (gat C most 0 C.length).length = ra.length := by rw [← hra]; simp
  rw [hrs, List.map_append, List.nodup_append] at hN
  rw [lastF_hd C most _ 0, lastF_hd C most _ 1, hra, hrb, hla]
  unfold tk
  rw [hrs]
  constructor
  · intro h
    rw [List.take_append_of_le_length (by omega), filter_drop ra m hN.1]
    refine ⟨ra[m], by rw [List.getElem?_append_left h]; simp, ?_⟩
    rw [List.drop_eq_getElem_cons h]
    rfl
  · intro h
    have ht : (ra ++ rb).take m = ra ++ rb.take (m - ra.length) := by rw [List.take_append, List.take_of_length_le h]
    have e0 : ra.filter (fun q => !(((ra ++ rb).take m).map (·.1)).contains q.1) = [] := by
      rw [ht]
      apply List.filter_eq_nil_iff.2
      intro q hq
      have : q.1 ∈ (ra ++ rb.take (m - ra.length)).map (·.1) := List.mem_map.2 ⟨q, by simp [hq], rfl⟩
      have h2 : ((ra ++ rb.take (m - ra.length)).map (·.1)).contains q.1 = true := by rw [List.contains_eq_mem]; exact decide_eq_true this
      rw [h2]
      simp
    have e1 : rb.filter (fun q => !(((ra ++ rb).take m).map (·.1)).contains q.1) = rb.drop (m - ra.length) := by
      rw [← filter_drop rb (m - ra.length) hN.2.1, ht]
      apply List.filter_congr
      intro q hq
      have hnot : ¬ q.1 ∈ ra.map (·.1) := fun hx => hN.2.2 _ hx _ (List.mem_map.2 ⟨q, hq, rfl⟩) rfl
      congr 1
      rw [List.map_append]
      cases hc : ((rb.take (m - ra.length)).map (·.1)).contains q.1 with
      | true => simp only [List.contains_eq_mem, decide_eq_true_eq] at hc ⊢; exact List.mem_append.2 (.inr hc)
      | false =>
        simp only [List.contains_eq_mem, decide_eq_false_iff_not] at hc ⊢
        exact fun hx => (List.mem_append.1 hx).elim hnot hc
    rw [e0, e1]
    refine ⟨rfl, fun q hq => ?_, fun hq => ?_⟩
    · rw [List.getElem?_append_right h] at hq
      obtain ⟨hl, he⟩ := List.getElem?_eq_some_iff.1 hq
      rw [List.drop_eq_getElem_cons hl, he]
      rfl
    · rw [List.getElem?_append_right h, List.getElem?_eq_none_iff] at hq
      rw [List.drop_eq_nil_of_le hq]
      rfl
theorem tk_succ {C : List Cd} {most : Int} {m : Nat} {q : Nat × Int} (h : (rsF C most)[m]? = some q) : tk C most (m + 1) = tk C most m ++ [q.1] := by
  unfold tk
  rw [List.take_add_one, h, List.map_append]
  rfl
end Go.Proofs.YtpenaeoodfgmpaaGreatDoor
