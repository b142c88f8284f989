import Derived.Test.YtpngnhpnjkepjaaDoorPlain
import Derived.Laws.Strings
import Derived.Laws.Concat
import Derived.Lib.Strings
set_option autoImplicit false
namespace Go.Proofs.YtpngnhpnjkepjaaDoor
open Go

/-- what a rune takes along: bytes from 128 on -/
theorem decode_skip (s : ByteArray) (pos k : Nat) (h1 : pos < k) (h2 : k < pos + (Utf8.decode s pos).2) : k < s.size ∧ 128 ≤ (s.get! k).toNat := by
  have key : ∀ j, pos + j < s.size → (s.get! (pos + j)).toNat / 64 = 2 → k = pos + j → k < s.size ∧ 128 ≤ (s.get! k).toNat := by
    rintro j a b rfl; exact ⟨a, by omega⟩
  revert h2
  simp only [Utf8.decode, Bool.and_eq_true, beq_iff_eq, decide_eq_true_eq]
  repeat' split
  all_goals intro h2
  all_goals simp only at h2
  all_goals first
    | omega
    | (rename_i c _; exact key 1 c.2.1 c.2.2 (by omega))
    | (rename_i c _
       by_cases e : k = pos + 1
       · exact key 1 c.1.2.1 c.1.2.2 e
       · exact key 2 c.2.1 c.2.2 (by omega))
    | (rename_i c _
       by_cases e : k = pos + 1
       · exact key 1 c.1.1.2.1 c.1.1.2.2 e
       · by_cases e : k = pos + 2
         · exact key 2 c.1.2.1 c.1.2.2 e
         · exact key 3 c.2.1 c.2.2 (by omega))

/-- is a byte below 128 read as itself, one from 128 on as something else? -/
theorem decode_small (s : ByteArray) (pos : Nat) (h : pos < s.size) (c : Nat) (hc : c < 128) : (Utf8.decode s pos).1 = c ↔ (s.get! pos).toNat = c := by
  have e : s.get! pos = s[pos]'h := get_at s pos h
  by_cases ha : (s[pos]'h).toNat < 128
  · rw [decode_ascii s pos h ha, e]
  · have := (decode_high s pos h (by omega)).1
    rw [e]; omega
theorem decode_wide (s : ByteArray) (pos : Nat) (h : pos < s.size) : 1 ≤ (Utf8.decode s pos).2 := by
  by_cases ha : (s[pos]'h).toNat < 128
  · rw [decode_ascii s pos h ha]; exact Nat.le_refl _
  · exact (decode_high s pos h (by omega)).2
theorem decode_in (s : ByteArray) (pos : Nat) (h : pos < s.size) : pos + (Utf8.decode s pos).2 ≤ s.size := by
  have h1 := decode_wide s pos h
  by_cases e : (Utf8.decode s pos).2 = 1
  · omega
  · have := (decode_skip s pos (pos + (Utf8.decode s pos).2 - 1) (by omega) (by omega)).1
    omega
theorem decode_one (s : ByteArray) (pos : Nat) (h : pos < s.size) (ha : (s.get! pos).toNat < 128) : (Utf8.decode s pos).2 = 1 := by
  rw [decode_ascii s pos h (by rw [← get_at s pos h]; exact ha)]
/-- the bytes of a text -/
abbrev tl (s : ByteArray) : By := s.toList
theorem tl_len (s : ByteArray) : (tl s).length = s.size := by simp [tl, ByteArray.toList_eq]
theorem tl_at (s : ByteArray) (k : Nat) (h : k < s.size) : (tl s)[k]? = some (s[k]'h) := by
  rw [tl, ByteArray.toList_eq, List.getElem?_eq_some_iff]
  exact ⟨by simpa using h, by simp [ByteArray.getElem_eq_getElem_data]⟩
theorem tl_get (s : ByteArray) (k : Nat) (h : k < s.size) : (tl s)[k]? = some (s.get! k) := by
  have : s.get! k = s[k]'h := get_at s k h
  rw [this]; exact tl_at s k h
theorem tl_mem {s : ByteArray} {x : UInt8} (h : x ∈ tl s) : ∃ k, ∃ h : k < s.size, s[k]'h = x := by
  obtain ⟨k, hk, e⟩ := List.mem_iff_getElem.1 h
  have hk' : k < s.size := by rw [tl_len] at hk; exact hk
  refine ⟨k, hk', ?_⟩
  have := tl_at s k hk'
  rw [List.getElem?_eq_getElem hk] at this
  rw [← Option.some.inj this, e]
theorem tl_in (s : ByteArray) (k : Nat) (h : k < s.size) : s[k]'h ∈ tl s := List.mem_of_getElem? (tl_at s k h)
/-- a part of the text without a byte c: what a rune takes along -/
theorem decode_none (s : ByteArray) (pos c : Nat) (h : pos < s.size) (hc : c < 128) (hn : (Utf8.decode s pos).1 ≠ c) : ∀ k, pos ≤ k → k < pos + (Utf8.decode s pos).2 → (s.get! k).toNat ≠ c := by
  intro k h1 h2 e
  by_cases h3 : k = pos
  · subst h3; exact hn ((decode_small s k h c hc).2 e)
  · have := (decode_skip s pos k (by omega) h2).2; omega

/-- a name -/
def nameB (l : By) : Bool := decide (1 ≤ l.length ∧ l.length ≤ 255 ∧ l ≠ [46] ∧ l ≠ [46, 46] ∧ ∀ x ∈ l, x ≠ 47 ∧ x ≠ 0)

/-- is a ahead of b, byte by byte? -/
def belowL : By → By → Bool
  | [], [] => false
  | [], _ :: _ => true
  | _ :: _, [] => false
  | x :: xs, y :: ys => if x = y then belowL xs ys else decide (x.toNat < y.toNat)
/-- the order by pieces -/
def cmpP : List By → List By → Int
  | [], [] => 0
  | [], _ :: _ => -1
  | _ :: _, [] => 1
  | x :: xs, y :: ys => if belowL x y then -1 else if belowL y x then 1 else cmpP xs ys
theorem belowL_cons (x : UInt8) (a b : By) : belowL (x :: a) (x :: b) = belowL a b := by rw [belowL, if_pos rfl]
theorem belowL_nil (a : By) : belowL a [] = false := by cases a <;> rfl
theorem cmpP_cuts : ∀ a b : By, cmpP (cuts a) (cuts b) = cmpL a b
  | [], [] => by simp [cuts, cut, cmpP, belowL, cmpL]
  | [], y :: ys => by
    rw [cmpL]
    by_cases h : y = 47
    · subst h; simp [cuts, cut, cmpP, belowL]
    · simp [cuts, cut, h, cmpP, belowL]
  | x :: xs, [] => by
    rw [cmpL]
    by_cases h : x = 47
    · subst h; simp [cuts, cut, cmpP, belowL]
    · simp [cuts, cut, h, cmpP, belowL]
  | x :: xs, y :: ys => by
    have ih := cmpP_cuts xs ys
    rw [cmpL]
    by_cases e : x = y
    · subst e
      rw [if_pos rfl, ← ih]
      by_cases h : x = 47
      · subst h; simp [cuts, cut, cmpP, belowL]
      · simp [cuts, cut, h, cmpP, belowL_cons]
    · rw [if_neg e]
      by_cases hx : x = 47
      · subst hx
        have e' : ¬ y = 47 := fun q => e q.symm
        rw [if_pos (rank_lo e')]
        simp [cuts, cut, e', cmpP, belowL]
      · by_cases hy : y = 47
        · subst hy
          have := rank_lo hx
          rw [if_neg (by omega)]
          simp [cuts, cut, hx, cmpP, belowL]
        · have hr : rank x = (x.toNat : Int) := by rw [rank, if_neg hx]
          have hs : rank y = (y.toNat : Int) := by rw [rank, if_neg hy]
          have hne : x.toNat ≠ y.toNat := fun q => e (UInt8.toNat_inj.1 q)
          rw [hr, hs]
          have b1 : ∀ p q : By, belowL (x :: p) (y :: q) = decide (x.toNat < y.toNat) := fun p q => by rw [belowL, if_neg e]
          have b2 : ∀ p q : By, belowL (y :: q) (x :: p) = decide (y.toNat < x.toNat) := fun p q => by rw [belowL, if_neg (fun q => e q.symm)]
          simp only [cuts, cut, hx, hy, if_false, cmpP, b1, b2, decide_eq_true_eq]
          by_cases q : x.toNat < y.toNat
          · rw [if_pos q, if_pos (by omega)]
          · rw [if_neg q, if_pos (by omega), if_neg (by omega)]
theorem cmpP_pieces (a b : By) : cmpP (pieces a) (pieces b) = cmpL a b := by
  unfold pieces
  cases a with
  | nil => cases b with
    | nil => rfl
    | cons y ys => rfl
  | cons x xs => cases b with
    | nil => rfl
    | cons y ys => simp only [reduceCtorEq, if_false]; exact cmpP_cuts _ _
end Go.Proofs.YtpngnhpnjkepjaaDoor
