import Derived.Test.YtpngnhpnjkepjaaGreatDoorPlain3
set_option autoImplicit false
namespace Go.Proofs.YtpngnhpnjkepjaaGreatDoor
open Go

def starB {α : Type} (f : List α → Bool) : List α → Bool
  | [] => f []
  | x :: xs => f (x :: xs) || starB f xs
theorem starB_iff {α : Type} (f : List α → Bool) : ∀ l : List α, starB f l = true ↔ ∃ k, k ≤ l.length ∧ f (l.drop k) = true
  | [] => by simp [starB]
  | x :: xs => by
    rw [starB, Bool.or_eq_true, starB_iff f xs]
    constructor
    · rintro (h | ⟨k, hk, h⟩)
      · exact ⟨0, by simp, by simpa using h⟩
      · exact ⟨k + 1, by simp; omega, by simpa using h⟩
    · rintro ⟨k, hk, h⟩
      cases k with
      | zero => exact .inl (by simpa using h)
      | succ k => exact .inr ⟨k, by simp at hk; omega, by simpa using h⟩

/-- do things fit signs? none: any number of things -/
def fitG {α β : Type} (ok : β → α → Bool) : List (Option β) → List α → Bool
  | [], l => l.isEmpty
  | none :: p, l => starB (fitG ok p) l
  | some _ :: _, [] => false
  | some b :: p, x :: xs => ok b x && fitG ok p xs

/-- a list of signs, as places of a text: what stands from a place on -/
structure Signs (α β : Type) (ok : β → α → Bool) (n : Nat) (things : List α) (many : Nat → Bool) (one : Nat → Nat → Nat) where
  V : Nat → Prop
  sg : Nat → List (Option β)
  v0 : V 0
  le : ∀ s, V s → s ≤ n
  fin : ∀ s, V s → sg s = [] → s = n
  star : ∀ s p, V s → sg s = none :: p → s < n ∧ many s = true ∧ V (s + 1) ∧ sg (s + 1) = p
  lit : ∀ s b p, V s → sg s = some b :: p → s < n ∧ many s = false ∧ ∃ wd, 1 ≤ wd ∧ V (s + wd) ∧ sg (s + wd) = p ∧ ∀ t x, things[t]? = some x → one s t = if ok b x then wd else 0

namespace Signs
variable {α β : Type} {ok : β → α → Bool} {n : Nat} {things : List α} {many : Nat → Bool} {one : Nat → Nat → Nat} (S : Signs α β ok n things many one)

def G (s t : Nat) : Prop := fitG ok (S.sg s) (things.drop t) = true
def Ans : Prop := fitG ok (S.sg 0) things = true

/-- what stands ahead of each round -/
def Rel (s t : Nat) (back : Option Nat) (frm : Nat) : Prop :=
  S.V s ∧ t ≤ things.length ∧ frm ≤ t ∧
  match back with
  | none => (S.Ans ↔ S.G s t)
  | some b => S.V b ∧ (S.Ans ↔ (S.G s t ∨ ∃ f, frm < f ∧ f ≤ things.length ∧ S.G b f)) ∧ ∀ f, f ≤ things.length → S.G b f → f + (t - frm) ≤ things.length ∧ S.G s (f + (t - frm))

theorem rel0 : S.Rel 0 0 none 0 := ⟨S.v0, Nat.zero_le _, Nat.le_refl _, by simp only; unfold Ans G; simp⟩

theorem g_star {s t : Nat} {p : List (Option β)} (hp : S.sg s = none :: p) (ht : t ≤ things.length) (hq : S.sg (s + 1) = p) :
    S.G s t ↔ ∃ f, t ≤ f ∧ f ≤ things.length ∧ S.G (s + 1) f := by
  unfold G
  rw [hp, fitG, starB_iff, hq]
  constructor
  · rintro ⟨k, hk, h⟩
    rw [List.length_drop] at hk
    exact ⟨t + k, by omega, by omega, by rw [List.drop_drop] at h; exact h⟩
  · rintro ⟨f, h1, h2, h⟩
    exact ⟨f - t, by rw [List.length_drop]; omega, by rw [List.drop_drop, show t + (f - t) = f from by omega]; exact h⟩
theorem g_lit {s t wd : Nat} {b : β} {p : List (Option β)} {x : α} (hp : S.sg s = some b :: p) (hx : things[t]? = some x) (hq : S.sg (s + wd) = p) :
    S.G s t ↔ (ok b x = true ∧ S.G (s + wd) (t + 1)) := by
  unfold G
  obtain ⟨h1, h2⟩ := List.getElem?_eq_some_iff.1 hx
  rw [hp, List.drop_eq_getElem_cons h1, h2, fitG, Bool.and_eq_true, hq]
theorem g_end {s : Nat} {b : β} {p : List (Option β)} {t : Nat} (hp : S.sg s = some b :: p) (ht : things.length ≤ t) : ¬ S.G s t := by
  unfold G
  rw [hp, List.drop_eq_nil_of_le ht, fitG]
  simp
theorem g_nil {s t : Nat} (hp : S.sg s = []) : S.G s t ↔ things.length ≤ t := by
  unfold G
  rw [hp, fitG, List.isEmpty_iff, List.drop_eq_nil_iff]

theorem cases_at {s : Nat} (hv : S.V s) : S.sg s = [] ∧ s = n ∨ (∃ p, S.sg s = none :: p) ∨ ∃ b p, S.sg s = some b :: p := by
  cases h : S.sg s with
  | nil => exact .inl ⟨rfl, S.fin s hv h⟩
  | cons a p => cases a with
    | none => exact .inr (.inl ⟨p, rfl⟩)
    | some b => exact .inr (.inr ⟨b, p, rfl⟩)
theorem at_many {s : Nat} (hv : S.V s) (hs : s < n) (hm : many s = true) : ∃ p, S.sg s = none :: p := by
  rcases S.cases_at hv with ⟨_, h⟩ | h | ⟨b, p, h⟩
  · omega
  · exact h
  · have := (S.lit s b p hv h).2.1; rw [hm] at this; cases this
theorem at_one {s : Nat} (hv : S.V s) (hs : s < n) (hm : many s = false) : ∃ b p, S.sg s = some b :: p := by
  rcases S.cases_at hv with ⟨_, h⟩ | ⟨p, h⟩ | h
  · omega
  · have := (S.star s p hv h).2.1; rw [hm] at this; cases this
  · exact h

theorem step_star {s t frm : Nat} {back : Option Nat} (h : S.Rel s t back frm) (hs : s < n) (hm : many s = true) : S.Rel (s + 1) t (some (s + 1)) t := by
  obtain ⟨hv, ht, hf, h⟩ := h
  obtain ⟨p, hp⟩ := S.at_many hv hs hm
  obtain ⟨_, _, hv', hq⟩ := S.star s p hv hp
  refine ⟨hv', ht, Nat.le_refl _, hv', ?_, fun f hf hg => ⟨by omega, by rw [show f + (t - t) = f from by omega]; exact hg⟩⟩
  have hstar := fun t' ht' => S.g_star (t := t') hp ht' hq
  have key : S.G s t ↔ (S.G (s + 1) t ∨ ∃ f, t < f ∧ f ≤ things.length ∧ S.G (s + 1) f) := by
    rw [hstar t ht]
    constructor
    · rintro ⟨f, h1, h2, h3⟩
      by_cases e : f = t
      · subst e; exact .inl h3
      · exact .inr ⟨f, by omega, h2, h3⟩
    · rintro (h3 | ⟨f, h1, h2, h3⟩)
      · exact ⟨t, Nat.le_refl _, ht, h3⟩
      · exact ⟨f, by omega, h2, h3⟩
  cases back with
  | none => simp only at h; rw [h, key]
  | some b =>
    obtain ⟨_, h1, h2⟩ := h
    rw [h1, ← key]
    constructor
    · rintro (h3 | ⟨f, h3, h4, h5⟩)
      · exact h3
      · obtain ⟨h6, h7⟩ := h2 f h4 h5
        obtain ⟨g, g1, g2, g3⟩ := (hstar _ h6).1 h7
        exact (hstar t ht).2 ⟨g, by omega, g2, g3⟩
    · exact fun h3 => .inl h3
theorem step_one {s t frm : Nat} {back : Option Nat} (h : S.Rel s t back frm) (hs : s < n) (ht : t < things.length) (hm : many s = false) (ho : 0 < one s t) : S.Rel (s + one s t) (t + 1) back frm := by
  obtain ⟨hv, _, hf, h⟩ := h
  obtain ⟨b, p, hp⟩ := S.at_one hv hs hm
  obtain ⟨_, _, wd, hw, hv', hq, hone⟩ := S.lit s b p hv hp
  have hx : things[t]? = some (things[t]'ht) := List.getElem?_eq_getElem ht
  have e := hone t _ hx
  have hok : ok b (things[t]'ht) = true := by
    by_cases q : ok b (things[t]'ht) = true
    · exact q
    · rw [if_neg q] at e; omega
  rw [if_pos hok] at e
  rw [e]
  refine ⟨hv', by omega, by omega, ?_⟩
  have key : S.G s t ↔ S.G (s + wd) (t + 1) := by rw [S.g_lit hp hx hq]; simp [hok]
  cases back with
  | none => simp only at h ⊢; rw [h, key]
  | some c =>
    obtain ⟨h0, h1, h2⟩ := h
    refine ⟨h0, by rw [h1, key], fun f hf1 hg => ?_⟩
    obtain ⟨h6, h7⟩ := h2 f hf1 hg
    by_cases hlt : f + (t - frm) < things.length
    · have hx' : things[f + (t - frm)]? = some (things[f + (t - frm)]'hlt) := List.getElem?_eq_getElem hlt
      have := ((S.g_lit hp hx' hq).1 h7).2
      exact ⟨by omega, by rw [show f + (t + 1 - frm) = f + (t - frm) + 1 from by omega]; exact this⟩
    · exact absurd h7 (S.g_end hp (by omega))
theorem no_here {s t : Nat} (hv : S.V s) (ht : t < things.length) (hno : ¬ s < n ∨ many s = false ∧ one s t = 0) : ¬ S.G s t := by
  rcases S.cases_at hv with ⟨h, e⟩ | ⟨p, h⟩ | ⟨b, p, h⟩
  · rw [S.g_nil h]; omega
  · have := S.star s p hv h
    rcases hno with q | ⟨q, _⟩
    · exact absurd this.1 q
    · rw [this.2.1] at q; cases q
  · obtain ⟨h1, _, wd, hw, _, hq, hone⟩ := S.lit s b p hv h
    rcases hno with q | ⟨_, q⟩
    · exact absurd h1 q
    · have hx : things[t]? = some (things[t]'ht) := List.getElem?_eq_getElem ht
      rw [S.g_lit h hx hq]
      rintro ⟨a, _⟩
      have e := hone t _ hx
      rw [if_pos a] at e; omega
theorem step_no {s t frm : Nat} (h : S.Rel s t none frm) (ht : t < things.length) (hno : ¬ s < n ∨ many s = false ∧ one s t = 0) : ¬ S.Ans := by
  obtain ⟨hv, _, _, h⟩ := h
  simp only at h
  rw [h]; exact S.no_here hv ht hno
theorem step_back {s t frm b : Nat} (h : S.Rel s t (some b) frm) (ht : t < things.length) (hno : ¬ s < n ∨ many s = false ∧ one s t = 0) : S.Rel b (frm + 1) (some b) (frm + 1) := by
  obtain ⟨hv, _, hf, h0, h1, _⟩ := h
  have hn := S.no_here hv ht hno
  refine ⟨h0, by omega, Nat.le_refl _, h0, ?_, fun f hf hg => ⟨by omega, by rw [show f + (frm + 1 - (frm + 1)) = f from by omega]; exact hg⟩⟩
  rw [h1]
  constructor
  · rintro (h | ⟨f, q1, q2, q3⟩)
    · exact absurd h hn
    · by_cases e : f = frm + 1
      · subst e; exact .inl q3
      · exact .inr ⟨f, by omega, q2, q3⟩
  · rintro (h | ⟨f, q1, q2, q3⟩)
    · exact .inr ⟨frm + 1, by omega, by omega, h⟩
    · exact .inr ⟨f, by omega, q2, q3⟩
/-- behind the first loop -/
theorem rel_end {s frm : Nat} {back : Option Nat} (h : S.Rel s things.length back frm) : S.V s ∧ (S.Ans ↔ S.G s things.length) := by
  obtain ⟨hv, _, hf, h⟩ := h
  refine ⟨hv, ?_⟩
  cases back with
  | none => exact h
  | some b =>
    obtain ⟨_, h1, h2⟩ := h
    rw [h1]
    constructor
    · rintro (h | ⟨f, q1, q2, q3⟩)
      · exact h
      · have := (h2 f q2 q3).1; omega
    · exact fun h => .inl h
theorem end_star {s : Nat} (h : S.V s ∧ (S.Ans ↔ S.G s things.length)) (hs : s < n) (hm : many s = true) : S.V (s + 1) ∧ (S.Ans ↔ S.G (s + 1) things.length) := by
  obtain ⟨hv, h⟩ := h
  obtain ⟨p, hp⟩ := S.at_many hv hs hm
  obtain ⟨_, _, hv', hq⟩ := S.star s p hv hp
  refine ⟨hv', ?_⟩
  rw [h, S.g_star hp (Nat.le_refl _) hq]
  constructor
  · rintro ⟨f, q1, q2, q3⟩
    rw [show things.length = f from by omega]; exact q3
  · exact fun q => ⟨_, Nat.le_refl _, Nat.le_refl _, q⟩
theorem end_done {s : Nat} (h : S.V s ∧ (S.Ans ↔ S.G s things.length)) (hs : ¬ s < n ∨ many s = false) : S.Ans ↔ s = n := by
  obtain ⟨hv, h⟩ := h
  rw [h]
  rcases S.cases_at hv with ⟨q, e⟩ | ⟨p, q⟩ | ⟨b, p, q⟩
  · rw [S.g_nil q]; simp [e]
  · have := S.star s p hv q
    rcases hs with r | r
    · exact absurd this.1 r
    · rw [this.2.1] at r; cases r
  · have := (S.lit s b p hv q).1
    constructor
    · intro g; exact absurd g (S.g_end q (Nat.le_refl _))
    · intro e; omega
end Signs
end Go.Proofs.YtpngnhpnjkepjaaGreatDoor
