/-
  Patterns without signs, in Lean alone.
-/
import Derived.Test.YtadkdjgffnpgcaaMatch
set_option autoImplicit false
namespace Go.Proofs.Ytadkdjgffnpgcaa
open Go

/-- a name without signs -/
def plainB (l : By) : Bool := nameB l && l.all (fun x => x != 42 && x != 63 && x != 92)
theorem plainB_iff {l : By} : plainB l = true ↔ nameB l = true ∧ ∀ x ∈ l, x ≠ 42 ∧ x ≠ 63 ∧ x ≠ 92 := by
  unfold plainB
  rw [Bool.and_eq_true, List.all_eq_true]
  simp [and_assoc]
theorem fit_plain {α β : Type} {ok : β → α → Bool} (f : β → α) : ∀ (A : List β) (B : List α), (∀ a ∈ A, ∀ b, ok a b = true ↔ f a = b) → (fitG ok (A.map some) B = true ↔ A.map f = B)
  | [], B, _ => by simp only [List.map_nil, fitG, List.isEmpty_iff]; exact eq_comm
  | a :: A, [], _ => by simp [fitG]
  | a :: A, b :: B, h => by
    have ih := fit_plain f A B (fun x hx => h x (by simp [hx]))
    simp only [List.map_cons, fitG, Bool.and_eq_true]
    rw [h a (by simp) b, ih]
    simp
theorem signs_plain : ∀ {l : By}, (∀ x ∈ l, x ≠ 42 ∧ x ≠ 63 ∧ x ≠ 92) → signsOf l = some ((l.map some).map some)
  | [], _ => rfl
  | x :: l, h => by
    obtain ⟨h1, h2, h3⟩ := h x (by simp)
    rw [signsOf_lit l h1 h2 h3, signs_plain (fun y hy => h y (by simp [hy]))]
    rfl
theorem matchB_plain {l : By} (h : ∀ x ∈ l, x ≠ 42 ∧ x ≠ 63 ∧ x ≠ 92) (nm : By) : matchB l nm = true ↔ l = nm := by
  unfold matchB
  rw [signs_plain h]
  show fitG okB ((l.map some).map some) nm = true ↔ _
  rw [fit_plain (fun b => b.getD 0) (l.map some) nm (by
    intro a ha b
    obtain ⟨c, _, rfl⟩ := List.mem_map.1 ha
    simp [okB])]
  simp [Function.comp_def]
theorem starP_plain {l : By} (h : ∀ x ∈ l, x ≠ 42 ∧ x ≠ 63 ∧ x ≠ 92) : starP l = some l := by
  unfold starP
  rw [if_neg]
  intro e
  have := (h 42 (by rw [e]; simp)).1
  simp at this
theorem map_star {P : List By} (h : ∀ p ∈ P, ∀ x ∈ p, x ≠ 42 ∧ x ≠ 63 ∧ x ≠ 92) : P.map starP = P.map some :=
  List.map_congr_left fun p hp => starP_plain (h p hp)
theorem matchN_plain {P : List By} (h : ∀ p ∈ P, ∀ x ∈ p, x ≠ 42 ∧ x ≠ 63 ∧ x ≠ 92) (Nm : List By) : matchN P Nm = true ↔ P = Nm := by
  unfold matchN
  rw [map_star h, fit_plain (fun b => b) P Nm (fun a ha b => matchB_plain (h a ha) b)]
  simp
theorem matchN_tail {P : List By} (h : ∀ p ∈ P, ∀ x ∈ p, x ≠ 42 ∧ x ≠ 63 ∧ x ≠ 92) (Nm : List By) : matchN ([42, 42] :: P) Nm = true ↔ (P.length ≤ Nm.length ∧ Nm.drop (Nm.length - P.length) = P) := by
  unfold matchN
  rw [List.map_cons, show starP [42, 42] = none from rfl, fitG, starB_iff]
  constructor
  · rintro ⟨k, hk, e⟩
    have e2 : P = Nm.drop k := (matchN_plain h (Nm.drop k)).1 e
    have hl := congrArg List.length e2
    rw [List.length_drop] at hl
    refine ⟨by omega, ?_⟩
    rw [show Nm.length - P.length = k from by omega]; exact e2.symm
  · rintro ⟨h1, h2⟩
    exact ⟨Nm.length - P.length, by omega, (matchN_plain h _).2 h2.symm⟩
theorem scan_plain : ∀ {l : By}, (∀ x ∈ l, x ≠ 42 ∧ x ≠ 92) → ∀ st, scan false st l = some st
  | [], _, st => rfl
  | x :: l, h, st => by
    obtain ⟨h1, h2⟩ := h x (by simp)
    rw [scan]
    simp only [Bool.false_eq_true, if_false]
    rw [if_neg h2, if_neg h1]
    exact scan_plain (fun y hy => h y (by simp [hy])) st
theorem mem_join : ∀ {L : List By} {x : UInt8}, x ∈ joinL L → x = 47 ∨ ∃ p ∈ L, x ∈ p
  | [], x, h => by simp [joinL] at h
  | [p], x, h => .inr ⟨p, by simp, h⟩
  | p :: q :: t, x, h => by
    rw [joinL] at h
    rcases List.mem_append.1 h with h | h
    · exact .inr ⟨p, by simp, h⟩
    · rcases List.mem_cons.1 h with h | h
      · exact .inl h
      · rcases mem_join h with h | ⟨r, hr, hx⟩
        · exact .inl h
        · exact .inr ⟨r, by simp at hr ⊢; exact .inr hr, hx⟩

structure PL (L : List By) : Prop where
  ne : L ≠ []
  pl : ∀ p ∈ L, plainB p = true
namespace PL
variable {L : List By} (h : PL L)
include h
theorem sgn : ∀ p ∈ L, ∀ x ∈ p, x ≠ 42 ∧ x ≠ 63 ∧ x ≠ 92 := fun p hp => (plainB_iff.1 (h.pl p hp)).2
theorem nam : ∀ p ∈ L, nameB p = true := fun p hp => (plainB_iff.1 (h.pl p hp)).1
theorem no47 : ∀ p ∈ L, ∀ x ∈ p, x ≠ (47 : UInt8) := fun p hp x hx => ((of_decide_eq_true (h.nam p hp)).2.2.2.2 x hx).1
theorem noE : ([] : By) ∉ L := fun hm => by have := (of_decide_eq_true (h.nam [] hm)).1; simp at this
theorem cutsJ : cuts (joinL L) = L := cuts_join h.ne h.no47
theorem joinNe : joinL L ≠ [] := by
  intro e
  have hc := h.cutsJ
  rw [e] at hc
  exact h.noE (by rw [← hc]; simp [cuts, cut])
theorem joinS : ∀ x ∈ joinL L, x ≠ 42 ∧ x ≠ 92 := by
  intro x hx
  rcases mem_join hx with rfl | ⟨p, hp, hxp⟩
  · decide
  · have := h.sgn p hp x hxp; exact ⟨this.1, this.2.2⟩
theorem head47 : (joinL L).head? ≠ some 47 := by
  cases L with
  | nil => exact absurd rfl h.ne
  | cons p t =>
    have hp : p ≠ [] := fun e => h.noE (by rw [e]; simp)
    cases p with
    | nil => exact absurd rfl hp
    | cons y q =>
      have hy := h.no47 (y :: q) (by simp) y (by simp)
      cases t with
      | nil => simpa [joinL] using hy
      | cons r t => simpa [joinL] using hy
/-- '/' and the names -/
theorem one (hl : (joinL L).length ≤ 250) (p : By) (he : splitE p 64 = 0) (hp : pieces p ≠ []) : matchV (47 :: joinL L) p = (decide (joinL L = p), 0) := by
  have htr : trimmed (47 :: joinL L) = joinL L := by simp [trimmed]
  have hok : patOK (47 :: joinL L) = true := by
    unfold patOK
    rw [htr, h.cutsJ, decide_eq_true ⟨h.joinNe, by simp; omega⟩, decide_eq_true h.noE]
    unfold srB
    rw [scan_plain h.joinS]
    rfl
  unfold matchV
  rw [if_neg (by rw [hok]; simp), if_neg (by rw [he]; simp), if_neg hp, if_pos (by simp), htr, h.cutsJ]
  congr 1
  rw [Bool.eq_iff_iff, matchN_plain h.sgn, decide_eq_true_iff]
  constructor
  · intro e
    rw [e]
    have : pieces p = cuts p := by
      unfold pieces at hp ⊢
      split
      · rename_i q; rw [if_pos q] at hp; exact absurd rfl hp
      · rfl
    rw [this, join_cuts]
  · intro e
    rw [← e]
    unfold pieces
    rw [if_neg h.joinNe, h.cutsJ]
/-- '**/' and the names -/
theorem two (hl : (joinL L).length ≤ 250) (p : By) (he : splitE p 64 = 0) (hp : pieces p ≠ []) : matchV (42 :: 42 :: 47 :: joinL L) p = (decide (L.length ≤ (pieces p).length ∧ (pieces p).drop ((pieces p).length - L.length) = L), 0) := by
  have htr : trimmed (42 :: 42 :: 47 :: joinL L) = 42 :: 42 :: 47 :: joinL L := by simp [trimmed]
  have hcu : cuts (42 :: 42 :: 47 :: joinL L) = [42, 42] :: L := by
    have := cut_at (l := [42, 42]) (r := joinL L) (by simp)
    rw [cuts]
    rw [show (42 :: 42 :: 47 :: joinL L : By) = [42, 42] ++ 47 :: joinL L from rfl, this, h.cutsJ]
  have hok : patOK (42 :: 42 :: 47 :: joinL L) = true := by
    unfold patOK
    rw [htr, hcu, decide_eq_true ⟨by simp, by simp; omega⟩, decide_eq_true (by simp; exact h.noE)]
    unfold srB
    have : scan false 0 (42 :: 42 :: 47 :: joinL L) = some 2 := by
      simp only [scan]
      simp
      exact scan_plain h.joinS 2
    rw [this]
    rfl
  unfold matchV
  rw [if_neg (by rw [hok]; simp), if_neg (by rw [he]; simp), if_neg hp, if_pos (by simp), htr, hcu]
  congr 1
  rw [Bool.eq_iff_iff, matchN_tail h.sgn, decide_eq_true_iff]
end PL
/-- a name alone -/
theorem matchV_name {l : By} (h : plainB l = true) (p : By) (he : splitE p 64 = 0) (hp : pieces p ≠ []) : matchV l p = (decide ((pieces p).drop ((pieces p).length - 1) = [l]), 0) := by
  have hL : PL [l] := ⟨by simp, fun q hq => by simp at hq; subst hq; exact h⟩
  have hj : joinL [l] = l := rfl
  have h47 : (47 : UInt8) ∉ l := fun hm => hL.no47 l (by simp) 47 hm rfl
  have hlen := (of_decide_eq_true (hL.nam l (by simp)))
  have htr : trimmed l = l := by
    have := hL.head47
    rw [hj] at this
    unfold trimmed
    split
    · rfl
    · rename_i x xs
      simp at this
      simp [this]
  have hcu : cuts l = [l] := by have := hL.cutsJ; rw [hj] at this; exact this
  have hok : patOK l = true := by
    unfold patOK
    rw [htr, hcu, decide_eq_true ⟨by have := hL.joinNe; rw [hj] at this; exact this, hlen.2.1⟩, decide_eq_true hL.noE]
    unfold srB
    have := scan_plain hL.joinS 0
    rw [hj] at this
    rw [this]
    rfl
  unfold matchV
  rw [if_neg (by rw [hok]; simp), if_neg (by rw [he]; simp), if_neg hp, if_neg h47, htr, hcu]
  congr 1
  rw [Bool.eq_iff_iff, matchN_plain hL.sgn, decide_eq_true_iff, eq_comm]
end Go.Proofs.Ytadkdjgffnpgcaa
