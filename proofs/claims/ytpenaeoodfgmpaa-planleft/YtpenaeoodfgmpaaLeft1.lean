/-
  PlanLeft: all that it asks, in Lean alone.
-/
import Derived.Test.YtpenaeoodfgmpaaLeft0
namespace Go.Proofs.Ytpenaeoodfgmpaa

theorem nodup_len {α : Type} [DecidableEq α] : ∀ (l r : List α), l.Nodup → (∀ x ∈ l, x ∈ r) → l.length ≤ r.length
  | [], r, _, _ => by simp
  | a :: l, r, hn, hs => by
    rw [List.nodup_cons] at hn
    have h := nodup_len l (r.erase a) hn.2 fun x hx => by
      have : x ≠ a := fun e => hn.1 (e ▸ hx)
      exact (List.mem_erase_of_ne this).2 (hs x (by simp [hx]))
    have h2 := List.length_erase_of_mem (hs a (by simp))
    have h3 : 0 < r.length := List.length_pos_of_mem (hs a (by simp))
    simp only [List.length_cons]
    omega
theorem take_succ_at {α : Type} {l : List α} {k : Nat} {x : α} (h : l[k]? = some x) : l.take (k + 1) = l.take k ++ [x] := by
  rw [List.take_add_one, h]; rfl
/-- what is left out -/
theorem left_facts {C : List Cd} {most : Int} (hP : ∀ c ∈ C, c.pos) (hm : 0 ≤ most) {B : List Bool} (hB : B = leave C most) {R : List Int} (hR : R = pls B B.length) {a b : List Int} (ha : a = grw C 0 C.length) (hb : b = grw C 1 C.length) :
    R.length ≤ a.length + b.length ∧
    (R.length ≤ a.length → ∀ x ∈ R, x ∈ a.drop (a.length - R.length)) ∧
    (a.length < R.length → ∀ x ∈ R, x ∈ a ++ b.drop (b.length - (R.length - a.length))) ∧
    (R.length < a.length + b.length → wS C R C.length ≤ most) ∧
    (∀ x, (R.length ≤ a.length ∧ a[a.length - R.length]? = some x ∨ a.length < R.length ∧ b[b.length - (R.length - a.length)]? = some x) → 0 < R.length → ∀ R' : List Int, (∀ y, y ∈ R' ↔ y ∈ R ∧ y ≠ x) → ¬ wS C R' C.length ≤ most) := by
  obtain ⟨m, m1, m2, m3, m4⟩ := lv_spec C most C.length (rsF C most) (List.replicate C.length false) (fun _ => false) (wst C most C.length) (by simp) (fun i hi => by simp [hi]) (wP_none C most _).symm (fun q hq => by
    obtain ⟨h1, h2⟩ := rsF_cell hq
    exact ⟨h1, rfl, h2⟩) (rsF_nodup C most)
  have hlB : B.length = C.length := by rw [hB]; exact leave_len _ _
  have hBi : ∀ i, i < C.length → B[i]? = some (((rsF C most).take m).map (·.1) |>.contains i) := fun i hi => by
    rw [hB]
    have := m2 i hi
    simpa [leave, rsF] using this
  simp only [Bool.false_or] at m3 m4
  obtain ⟨T, hT⟩ : ∃ T, ((rsF C most).take m).map (·.1) = T := ⟨_, rfl⟩
  rw [hT] at m3
  simp only [hT] at hBi
  have hTn : T.Nodup := by
    rw [← hT, List.map_take]
    exact (List.take_sublist _ _).nodup (rsF_nodup C most)
  have hTl : ∀ i ∈ T, i < C.length := fun i hi => by
    rw [← hT] at hi
    obtain ⟨q, hq, rfl⟩ := List.mem_map.1 hi
    exact (rsF_cell (List.mem_of_mem_take hq)).1
  have hmem : ∀ i : Nat, (i : Int) ∈ R ↔ i ∈ T := fun i => by
    rw [hR, pls_mem, hlB]
    constructor
    · rintro ⟨h1, h2⟩
      rw [hBi i h1] at h2
      simpa using h2
    · intro h
      refine ⟨hTl i h, ?_⟩
      rw [hBi i (hTl i h)]
      simpa using h
  have hRn : R.Nodup := by rw [hR]; exact pls_nodup _ _
  have hRi : ∀ x ∈ R, ∃ i : Nat, x = (i : Int) := fun x hx => by
    rw [hR] at hx
    obtain ⟨i, e, _⟩ := pls_nat _ _ x hx
    exact ⟨i, e⟩
  have hmemT : ∀ x : Int, x ∈ R ↔ x ∈ T.map (fun i : Nat => (i : Int)) := fun x => by
    constructor
    · intro h
      obtain ⟨i, rfl⟩ := hRi x h
      exact List.mem_map.2 ⟨i, (hmem i).1 h, rfl⟩
    · intro h
      obtain ⟨i, hi, rfl⟩ := List.mem_map.1 h
      exact (hmem i).2 hi
  have hTcn : (T.map (fun i : Nat => (i : Int))).Nodup := by
    unfold List.Nodup at *
    rw [List.pairwise_map]
    exact hTn.imp fun h e => h (by simpa only [Int.natCast_inj] using e)
  have hTm : T.length = m := by rw [← hT]; simp; omega
  have hRm : R.length = m := by
    have h1 := nodup_len R _ hRn (fun x hx => (hmemT x).1 hx)
    have h2 := nodup_len _ R hTcn (fun x hx => (hmemT x).2 hx)
    simp at h1 h2
    omega
  have hal : a = (gat C most 0 C.length).map (fun p => (p.1 : Int)) := by rw [ha]; exact grw_gat _ _ _ _
  have hbl : b = (gat C most 1 C.length).map (fun p => (p.1 : Int)) := by rw [hb]; exact grw_gat _ _ _ _
  have hrs : (rsF C most).length = a.length + b.length := by rw [hal, hbl]; simp [rsF]
  have hrm : (rsF C most).map (fun p => (p.1 : Int)) = a.reverse ++ b.reverse := by rw [hal, hbl]; simp [rsF]
  have hTa : T.map (fun i : Nat => (i : Int)) = (a.reverse ++ b.reverse).take m := by
    rw [← hT, List.map_map, ← hrm, List.map_take]
    rfl
  have hcon : ∀ k, k < C.length → R.contains (k : Int) = T.contains k := fun k _ => by
    cases h : T.contains k with
    | true => simpa using (hmem k).2 (by simpa using h)
    | false =>
      have : ¬ (k : Int) ∈ R := fun h2 => by
        have := (hmem k).1 h2
        simp at h
        exact h this
      simpa using this
  have tk : ∀ l : List Int, ∀ k, k ≤ l.length → l.reverse.take k = (l.drop (l.length - k)).reverse := fun l k _ => by rw [List.reverse_drop]; congr 1; omega
  rw [hRm]
  refine ⟨by omega, fun h x hx => ?_, fun h x hx => ?_, fun h => ?_, fun x hx hp R' hR' => ?_⟩
  · have h1 := (hmemT x).1 hx
    rw [hTa, List.take_append_of_le_length (by simpa using h), tk _ _ h] at h1
    simpa using h1
  · have h1 := (hmemT x).1 hx
    rw [hTa, List.take_append, List.take_of_length_le (by simp; omega), List.length_reverse, tk _ _ (by omega)] at h1
    simpa using h1
  · rw [wP_eq hP hm hcon _ (Nat.le_refl _) (m3 (by omega))]
    exact m3 (by omega)
  · obtain ⟨k, rfl⟩ : ∃ k, m = k + 1 := ⟨m - 1, by omega⟩
    have h4 := m4 k rfl
    obtain ⟨T', hT'⟩ : ∃ T', ((rsF C most).take k).map (·.1) = T' := ⟨_, rfl⟩
    rw [hT'] at h4
    -- the one that was left out last
    have hxr : (a.reverse ++ b.reverse)[k]? = some x := by
      rcases hx with ⟨h1, h2⟩ | ⟨h1, h2⟩
      · rw [List.getElem?_append_left (by simp; omega), List.getElem?_reverse (by omega)]
        rw [← h2]; congr 1; omega
      · rw [List.getElem?_append_right (by simp; omega), List.length_reverse, List.getElem?_reverse (by omega)]
        rw [← h2]; congr 1; omega
    obtain ⟨q, hq⟩ : ∃ q, (rsF C most)[k]? = some q := ⟨(rsF C most)[k]'(by omega), by simp⟩
    have hqx : ((q.1 : Nat) : Int) = x := by
      rw [← hrm, List.getElem?_map, hq] at hxr
      simpa using hxr
    have hTT : T = T' ++ [q.1] := by rw [← hT, ← hT', take_succ_at hq]; simp
    have hqn : q.1 ∉ T' := by
      rw [hTT, List.nodup_append] at hTn
      intro h
      exact hTn.2.2 _ h _ (by simp) rfl
    have hcon' : ∀ i, i < C.length → R'.contains (i : Int) = T'.contains i := fun i _ => by
      have hi : (i : Int) ∈ R' ↔ i ∈ T' := by
        rw [hR', hmem, hTT, ← hqx]
        simp only [List.mem_append, List.mem_singleton, ne_eq, Int.natCast_inj]
        constructor
        · rintro ⟨h1 | h1, h2⟩
          · exact h1
          · exact absurd h1 h2
        · intro h1
          exact ⟨.inl h1, fun e => hqn (e ▸ h1)⟩
      cases h : T'.contains i with
      | true => simpa using hi.2 (by simpa using h)
      | false =>
        have : ¬ (i : Int) ∈ R' := fun h2 => by
          have := hi.1 h2
          simp at h
          exact h this
        simpa using this
    intro hle
    exact h4 (Int.le_trans (wP_le hcon' _ (Nat.le_refl _)) hle)
end Go.Proofs.Ytpenaeoodfgmpaa
