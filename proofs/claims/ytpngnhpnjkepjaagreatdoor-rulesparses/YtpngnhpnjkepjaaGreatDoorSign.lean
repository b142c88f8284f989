/-
  THE SIGNS OF A PATTERN, in Lean alone.
-/
import Derived.Test.YtpngnhpnjkepjaaGreatDoorFit
import Derived.Test.YtpngnhpnjkepjaaGreatDoorPlain3
set_option autoImplicit false
namespace Go.Proofs.YtpngnhpnjkepjaaGreatDoor
open Go

/-- the signs of a piece: none: any bytes; some none: any byte; some (some c): the byte c. Of a piece that ends in a backslash: none. -/
def signsOf : By → Option (List (Option (Option UInt8)))
  | [] => some []
  | x :: p =>
    if x = 42 then (signsOf p).map (none :: ·)
    else if x = 63 then (signsOf p).map (some none :: ·)
    else if x = 92 then (match p with | [] => none | c :: q => (signsOf q).map (some (some c) :: ·))
    else (signsOf p).map (some (some x) :: ·)
def okB (b : Option UInt8) (x : UInt8) : Bool := match b with | none => true | some c => c == x
/-- how wide the first sign is, if it stands for b -/
def sw (p : By) (b : UInt8) : Nat := match p with
  | [] => 0
  | x :: q => if x = 92 then (match q with | [] => 0 | c :: _ => if c = b then 2 else 0) else if x = 63 ∨ x = b then 1 else 0
theorem sw_le (p : By) (b : UInt8) : sw p b ≤ 2 := by
  unfold sw
  repeat' split
  all_goals omega

theorem signsOf_star (p : By) : signsOf (42 :: p) = (signsOf p).map (none :: ·) := by rw [signsOf.eq_def]; simp
theorem signsOf_back (c : UInt8) (q : By) : signsOf (92 :: c :: q) = (signsOf q).map (some (some c) :: ·) := by
  rw [signsOf]; simp
theorem signsOf_end : signsOf [92] = none := by rw [signsOf]; simp
theorem signsOf_one (p : By) : signsOf (63 :: p) = (signsOf p).map (some none :: ·) := by rw [signsOf.eq_def]; simp
theorem signsOf_lit {x : UInt8} (p : By) (h1 : x ≠ 42) (h2 : x ≠ 63) (h3 : x ≠ 92) : signsOf (x :: p) = (signsOf p).map (some (some x) :: ·) := by
  rw [signsOf.eq_def]; simp [h1, h2, h3]

/-- the five shapes of a piece with signs L -/
theorem signsOf_cases {l : By} {L : List (Option (Option UInt8))} (h : signsOf l = some L) :
    (l = [] ∧ L = []) ∨ (∃ p M, l = 42 :: p ∧ L = none :: M ∧ signsOf p = some M) ∨ (∃ c q M, l = 92 :: c :: q ∧ L = some (some c) :: M ∧ signsOf q = some M) ∨
    (∃ p M, l = 63 :: p ∧ L = some none :: M ∧ signsOf p = some M) ∨ ∃ x p M, x ≠ 42 ∧ x ≠ 63 ∧ x ≠ 92 ∧ l = x :: p ∧ L = some (some x) :: M ∧ signsOf p = some M := by
  cases l with
  | nil => left; rw [signsOf] at h; exact ⟨rfl, (Option.some.inj h).symm⟩
  | cons x p =>
    right
    by_cases h1 : x = 42
    · subst h1; rw [signsOf_star] at h
      obtain ⟨M, hM, e⟩ := Option.map_eq_some_iff.1 h
      exact .inl ⟨p, M, rfl, e.symm, hM⟩
    · right
      by_cases h3 : x = 92
      · subst h3
        cases p with
        | nil => rw [signsOf_end] at h; cases h
        | cons c q =>
          rw [signsOf_back] at h
          obtain ⟨M, hM, e⟩ := Option.map_eq_some_iff.1 h
          exact .inl ⟨c, q, M, rfl, e.symm, hM⟩
      · right
        by_cases h2 : x = 63
        · subst h2; rw [signsOf_one] at h
          obtain ⟨M, hM, e⟩ := Option.map_eq_some_iff.1 h
          exact .inl ⟨p, M, rfl, e.symm, hM⟩
        · rw [signsOf_lit p h1 h2 h3] at h
          obtain ⟨M, hM, e⟩ := Option.map_eq_some_iff.1 h
          exact .inr ⟨x, p, M, h1, h2, h3, rfl, e.symm, hM⟩

def manyB (l : By) (s : Nat) : Bool := l[s]? == some 42
theorem drop_cons {α : Type} {l p : List α} {x : α} {s : Nat} (h : l.drop s = x :: p) : s < l.length ∧ l[s]? = some x ∧ l.drop (s + 1) = p := by
  have hlt : s < l.length := by
    by_cases q : s < l.length
    · exact q
    · rw [List.drop_eq_nil_of_le (by omega)] at h; cases h
  rw [List.drop_eq_getElem_cons hlt] at h
  injection h with h1 h2
  exact ⟨hlt, by rw [List.getElem?_eq_getElem hlt, h1], h2⟩

/-- a piece against a name -/
def pieceSigns (l : By) (nm : By) (L : List (Option (Option UInt8))) (hL : signsOf l = some L) : Signs UInt8 (Option UInt8) okB l.length nm (manyB l) (fun s t => sw (l.drop s) (nm[t]?.getD 0)) where
  V s := s ≤ l.length ∧ ∃ M, signsOf (l.drop s) = some M
  sg s := (signsOf (l.drop s)).getD []
  v0 := ⟨Nat.zero_le _, L, hL⟩
  le s h := h.1
  fin s h hs := by
    obtain ⟨h1, M, hM⟩ := h
    rw [hM] at hs
    have hs : M = [] := hs
    subst hs
    rcases signsOf_cases hM with ⟨e, _⟩ | ⟨_, _, _, e, _⟩ | ⟨_, _, _, _, e, _⟩ | ⟨_, _, _, e, _⟩ | ⟨_, _, _, _, _, _, _, e, _⟩
    · rw [List.drop_eq_nil_iff] at e; omega
    all_goals cases e
  star s p h hs := by
    obtain ⟨h1, M, hM⟩ := h
    rw [hM] at hs
    have hs : M = none :: p := hs
    subst hs
    rcases signsOf_cases hM with ⟨_, e⟩ | ⟨q, M, el, e, hq⟩ | ⟨_, _, _, _, e, _⟩ | ⟨_, _, _, e, _⟩ | ⟨_, _, _, _, _, _, _, e, _⟩
    · cases e
    · injection e with _ e
      subst e
      obtain ⟨a1, a2, a3⟩ := drop_cons el
      exact ⟨a1, by simp [manyB, a2], ⟨a1, p, by rw [a3]; exact hq⟩, by rw [a3, hq]; rfl⟩
    all_goals cases e
  lit s b p h hs := by
    obtain ⟨h1, M, hM⟩ := h
    rw [hM] at hs
    have hs : M = some b :: p := hs
    subst hs
    rcases signsOf_cases hM with ⟨_, e⟩ | ⟨_, _, _, e, _⟩ | ⟨c, q, M, el, e, hq⟩ | ⟨q, M, el, e, hq⟩ | ⟨x, q, M, n1, n2, n3, el, e, hq⟩
    · cases e
    · cases e
    · injection e with e0 e
      injection e0 with e0
      subst e e0
      obtain ⟨a1, a2, a3⟩ := drop_cons el
      obtain ⟨b1, b2, b3⟩ := drop_cons a3
      refine ⟨a1, by simp [manyB, a2], 2, by omega, ⟨by omega, p, by rw [b3]; exact hq⟩, by rw [b3, hq]; rfl, fun t x hx => ?_⟩
      rw [el, hx]
      simp [sw, okB]
    · injection e with e0 e
      injection e0 with e0
      subst e e0
      obtain ⟨a1, a2, a3⟩ := drop_cons el
      refine ⟨a1, by simp [manyB, a2], 1, by omega, ⟨a1, p, by rw [a3]; exact hq⟩, by rw [a3, hq]; rfl, fun t x hx => ?_⟩
      rw [el, hx]
      simp [sw, okB]
    · injection e with e0 e
      injection e0 with e0
      subst e e0
      obtain ⟨a1, a2, a3⟩ := drop_cons el
      refine ⟨a1, by simp [manyB, a2, n1], 1, by omega, ⟨a1, p, by rw [a3]; exact hq⟩, by rw [a3, hq]; rfl, fun t y hy => ?_⟩
      rw [el, hy]
      simp [sw, okB, n2, n3]
/-- does a piece match a name? -/
def matchB (p nm : By) : Bool := match signsOf p with | some L => fitG okB L nm | none => false
theorem matchB_eq {l nm : By} {L : List (Option (Option UInt8))} (hL : signsOf l = some L) : fitG okB ((pieceSigns l nm L hL).sg 0) nm = matchB l nm := by
  show fitG okB ((signsOf (l.drop 0)).getD []) nm = _
  rw [List.drop_zero, matchB, hL]
  rfl

/-- a pattern's pieces against names -/
def starP (p : By) : Option By := if p = [42, 42] then none else some p
def nameSigns (P Nm : List By) : Signs By By matchB P.length Nm (fun s => P[s]? == some [42, 42]) (fun s t => if matchB (P[s]?.getD []) (Nm[t]?.getD []) then 1 else 0) where
  V s := s ≤ P.length
  sg s := (P.drop s).map starP
  v0 := Nat.zero_le _
  le s h := h
  fin s h hs := by
    rw [List.map_eq_nil_iff, List.drop_eq_nil_iff] at hs; omega
  star s p h hs := by
    cases e : P.drop s with
    | nil => rw [e] at hs; cases hs
    | cons x q =>
      obtain ⟨a1, a2, a3⟩ := drop_cons e
      rw [e] at hs
      injection hs with e0 e1
      have hx : x = [42, 42] := by
        unfold starP at e0
        split at e0
        · assumption
        · cases e0
      exact ⟨a1, by simp [a2, hx], a1, by rw [a3]; exact e1⟩
  lit s b p h hs := by
    cases e : P.drop s with
    | nil => rw [e] at hs; cases hs
    | cons x q =>
      obtain ⟨a1, a2, a3⟩ := drop_cons e
      rw [e] at hs
      injection hs with e0 e1
      have hx : x ≠ [42, 42] ∧ x = b := by
        unfold starP at e0
        split at e0
        · cases e0
        · exact ⟨by assumption, Option.some.inj e0⟩
      refine ⟨a1, by simp [a2, hx.1], 1, Nat.le_refl _, a1, by rw [a3]; exact e1, fun t y hy => ?_⟩
      rw [a2, hy, hx.2]
      rfl
def matchN (P Nm : List By) : Bool := fitG matchB (P.map starP) Nm

/-- a pattern's text, gone through byte by byte: how many stars; none: a backslash that takes nothing -/
def scan : Bool → Nat → By → Option Nat
  | tk, st, [] => if tk then none else some st
  | tk, st, x :: xs => if tk then (if x = 47 then none else scan false st xs) else if x = 92 then scan true st xs else if x = 42 then scan false (st + 1) xs else scan false st xs
def stars (L : List (Option (Option UInt8))) : Nat := L.count none
/-- the signs of all pieces, and how many stars -/
def allStars : List By → Option Nat
  | [] => some 0
  | p :: ps => match signsOf p, allStars ps with | some L, some k => some (stars L + k) | _, _ => none
theorem scan_add : ∀ (l : By) (tk : Bool) (st a : Nat), scan tk (st + a) l = (scan tk st l).map (· + a)
  | [], tk, st, a => by cases tk <;> simp [scan]
  | x :: xs, tk, st, a => by
    simp only [scan]
    have h0 := scan_add xs false st a
    have h1 := scan_add xs true st a
    have h2 := scan_add xs false (st + 1) a
    rw [show st + 1 + a = st + a + 1 from by omega] at h2
    repeat' split
    all_goals first | rfl | assumption
theorem scan_cuts : ∀ (n : Nat) (l : By), l.length ≤ n → scan false 0 l = allStars (cuts l)
  | 0, l, h => by
    have : l = [] := List.length_eq_zero_iff.1 (by omega)
    subst this; rfl
  | n + 1, [], _ => rfl
  | n + 1, x :: xs, h => by
    have ih := fun l hl => scan_cuts n l hl
    simp at h
    rw [scan]
    simp only [Bool.false_eq_true, if_false]
    by_cases h92 : x = 92
    · subst h92
      rw [if_pos rfl]
      cases xs with
      | nil => simp [scan, cuts, cut, allStars, signsOf_end]
      | cons c q =>
        simp at h
        rw [scan]
        simp only [if_true]
        by_cases h47 : c = 47
        · subst h47
          rw [if_pos rfl]
          simp [cuts, cut, allStars, signsOf_end]
        · rw [if_neg h47, ih q (by omega)]
          simp only [cuts, cut, h47, if_false, allStars, signsOf_back, show ¬ (92 : UInt8) = 47 from by decide]
          cases signsOf (cut q).1 <;> cases allStars (cut q).2 <;> simp [stars]
    · rw [if_neg h92]
      by_cases h42 : x = 42
      · subst h42
        rw [if_pos rfl, show (0 : Nat) + 1 = 0 + 1 from rfl, scan_add, ih xs (by omega)]
        simp only [cuts, cut, show ¬ (42 : UInt8) = 47 from by decide, if_false, allStars, signsOf_star]
        cases signsOf (cut xs).1 <;> cases allStars (cut xs).2 <;> simp [stars]
        omega
      · rw [if_neg h42, ih xs (by omega)]
        by_cases h47 : x = 47
        · subst h47
          simp only [cuts, cut, if_true, allStars]
          rw [show signsOf [] = some [] from rfl]
          cases signsOf (cut xs).1 <;> cases allStars (cut xs).2 <;> simp [stars]
        · by_cases h63 : x = 63
          · subst h63
            simp only [cuts, cut, show ¬ (63 : UInt8) = 47 from by decide, if_false, allStars, signsOf_one]
            cases signsOf (cut xs).1 <;> cases allStars (cut xs).2 <;> simp [stars]
          · simp only [cuts, cut, h47, if_false, allStars, signsOf_lit _ h42 h63 h92]
            cases signsOf (cut xs).1 <;> cases allStars (cut xs).2 <;> simp [stars]
theorem allStars_some : ∀ {ps : List By} {k : Nat}, allStars ps = some k → ∀ p ∈ ps, ∃ L, signsOf p = some L
  | [], _, _, p, hp => by simp at hp
  | q :: ps, k, h, p, hp => by
    rw [allStars] at h
    cases e1 : signsOf q with
    | none => rw [e1] at h; simp at h
    | some L =>
      cases e2 : allStars ps with
      | none => rw [e1, e2] at h; simp at h
      | some m =>
        simp only [List.mem_cons] at hp
        rcases hp with rfl | hp
        · exact ⟨L, e1⟩
        · exact allStars_some e2 p hp
example : matchB [42, 46, 116] [97, 46, 116] = true := by decide
end Go.Proofs.YtpngnhpnjkepjaaGreatDoor
