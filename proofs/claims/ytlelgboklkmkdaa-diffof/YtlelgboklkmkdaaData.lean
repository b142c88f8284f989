import Derived.Lib.Strings
import Derived.Test.YtlelgboklkmkdaaProg
import Derived.WalkSpells
import Derived.WalkLawsBesides
import Derived.BigQuiet
namespace Go.Proofs.Ytlelgboklkmkdaa
open Go
abbrev By := List UInt8
/-- how a byte ranks: 47 ahead of all -/
def rank (x : UInt8) : Int := if x = 47 then -1 else (x.toNat : Int)
theorem rank_inj {x y : UInt8} (h : rank x = rank y) : x = y := by
  unfold rank at h
  split at h <;> split at h
  · simp_all
  · have := y.toNat_lt; omega
  · have := x.toNat_lt; omega
  · exact UInt8.toNat_inj.1 (by omega)
theorem rank_lo {x : UInt8} (h : x ≠ 47) : rank (47 : UInt8) < rank x := by
  unfold rank
  rw [if_pos rfl, if_neg h]
  omega
/-- the order of two texts -/
def cmpL : By → By → Int
  | [], [] => 0
  | [], _ :: _ => -1
  | _ :: _, [] => 1
  | x :: xs, y :: ys => if x = y then cmpL xs ys else if rank x < rank y then -1 else 1
theorem cmpL_self : ∀ a : By, cmpL a a = 0
  | [] => rfl
  | x :: xs => by rw [cmpL, if_pos rfl]; exact cmpL_self xs
theorem cmpL_three : ∀ a b : By, cmpL a b = -1 ∨ cmpL a b = 0 ∨ cmpL a b = 1
  | [], [] => by simp [cmpL]
  | [], _ :: _ => by simp [cmpL]
  | _ :: _, [] => by simp [cmpL]
  | x :: xs, y :: ys => by
    rw [cmpL]
    split
    · exact cmpL_three xs ys
    · split <;> simp
theorem cmpL_neg : ∀ a b : By, cmpL b a = - cmpL a b
  | [], [] => by simp [cmpL]
  | [], _ :: _ => by simp [cmpL]
  | _ :: _, [] => by simp [cmpL]
  | x :: xs, y :: ys => by
    rw [cmpL, cmpL]
    by_cases h : x = y
    · rw [if_pos h, if_pos h.symm]; exact cmpL_neg xs ys
    · rw [if_neg h, if_neg (fun e => h e.symm)]
      have : rank x ≠ rank y := fun e => h (rank_inj e)
      split <;> split <;> omega
theorem cmpL_zero : ∀ a b : By, cmpL a b = 0 ↔ a = b
  | [], [] => by simp [cmpL]
  | [], _ :: _ => by simp [cmpL]
  | _ :: _, [] => by simp [cmpL]
  | x :: xs, y :: ys => by
    rw [cmpL]
    by_cases h : x = y
    · rw [if_pos h, cmpL_zero xs ys]; simp [h]
    · rw [if_neg h]
      constructor
      · intro e; split at e <;> omega
      · intro e; simp at e; exact absurd e.1 h
theorem cmpL_trans : ∀ a b c : By, cmpL a b ≤ 0 → cmpL b c ≤ 0 → cmpL a c ≤ 0
  | [], b, [] => by simp [cmpL]
  | [], b, _ :: _ => by simp [cmpL]
  | _ :: _, [], c => by simp [cmpL]
  | _ :: _, _ :: _, [] => by simp [cmpL]
  | x :: xs, y :: ys, z :: zs => by
    have ih := cmpL_trans xs ys zs
    rw [cmpL, cmpL, cmpL]
    by_cases h : x = y
    · subst h
      rw [if_pos rfl]
      by_cases h2 : x = z
      · rw [if_pos h2, if_pos h2]; exact ih
      · rw [if_neg h2, if_neg h2]; intro _ h; exact h
    · rw [if_neg h]
      by_cases h2 : y = z
      · subst h2
        rw [if_pos rfl, if_neg h]; intro h _; exact h
      · rw [if_neg h2]
        intro h3 h4
        have h5 : rank x < rank y := by by_cases q : rank x < rank y; exact q; rw [if_neg q] at h3; omega
        have h6 : rank y < rank z := by by_cases q : rank y < rank z; exact q; rw [if_neg q] at h4; omega
        have h7 : x ≠ z := fun e => by subst e; omega
        rw [if_neg h7, if_pos (by omega)]
        omega
/-- is p root, or below it? -/
def underL (p root : By) : Prop := root = [] ∨ p = root ∨ ∃ r, p = root ++ 47 :: r
theorem under_cmp {a b : By} (h : underL a b) : cmpL b a ≤ 0 := by
  rcases h with rfl | rfl | ⟨r, rfl⟩
  · cases a <;> simp [cmpL]
  · rw [cmpL_self]; omega
  · induction b with
    | nil => simp [cmpL]
    | cons x xs ih => rw [List.cons_append, cmpL, if_pos rfl]; exact ih
theorem under_between {a b c : By} (h : underL c a) (h1 : cmpL a b = -1) (h2 : cmpL b c = -1) : underL b a := by
  rcases h with rfl | rfl | ⟨r, rfl⟩
  · exact .inl rfl
  · have := cmpL_neg c b; omega
  · refine .inr ?_
    induction a generalizing b with
    | nil =>
      cases b with
      | nil => simp [cmpL] at h1
      | cons y ys =>
        by_cases h : y = 47
        · subst h; exact .inr ⟨ys, rfl⟩
        · rw [List.nil_append, cmpL, if_neg h] at h2
          have := rank_lo h
          rw [if_neg (by omega)] at h2; omega
    | cons x xs ih =>
      cases b with
      | nil => simp [cmpL] at h1
      | cons y ys =>
        rw [List.cons_append] at h2
        rw [cmpL] at h1 h2
        by_cases h : x = y
        · subst h
          rw [if_pos rfl] at h1 h2
          rcases ih h1 h2 with rfl | ⟨r', rfl⟩
          · exact .inl rfl
          · exact .inr ⟨r', rfl⟩
        · rw [if_neg h] at h1
          rw [if_neg (fun e => h e.symm)] at h2
          have : rank x ≠ rank y := fun e => h (rank_inj e)
          split at h1 <;> split at h2 <;> omega
/-- pieces of a text, by 47 (of the empty text: one empty piece) -/
def cut : By → By × List By
  | [] => ([], [])
  | x :: xs => if x = 47 then ([], (cut xs).1 :: (cut xs).2) else (x :: (cut xs).1, (cut xs).2)
def cuts (l : By) : List By := (cut l).1 :: (cut l).2
def pieces (l : By) : List By := if l = [] then [] else cuts l
/-- texts, with 47 between them -/
def joinL : List By → By
  | [] => []
  | [x] => x
  | x :: y :: t => x ++ 47 :: joinL (y :: t)
theorem join_cuts : ∀ l : By, joinL (cuts l) = l
  | [] => rfl
  | x :: xs => by
    have ih := join_cuts xs
    unfold cuts at ih ⊢
    rw [cut]
    by_cases h : x = 47
    · rw [if_pos h]; subst h; simp only [joinL, List.nil_append]; rw [ih]
    · rw [if_neg h]
      simp only
      revert ih
      cases (cut xs).2 with
      | nil => intro ih; simp only [joinL] at ih ⊢; rw [ih]
      | cons y t => intro ih; simp only [joinL, List.cons_append] at ih ⊢; rw [ih]
theorem cuts_none {l : By} (h : ∀ x ∈ l, x ≠ 47) : cut l = (l, []) := by
  induction l with
  | nil => rfl
  | cons x xs ih => rw [cut, if_neg (h x (by simp)), ih (fun y hy => h y (by simp [hy]))]
theorem cut_at {l r : By} (h : ∀ x ∈ l, x ≠ 47) : cut (l ++ 47 :: r) = (l, cuts r) := by
  induction l with
  | nil => rw [List.nil_append, cut, if_pos rfl]; rfl
  | cons x xs ih => rw [List.cons_append, cut, if_neg (h x (by simp)), ih (fun y hy => h y (by simp [hy]))]
theorem cuts_join : ∀ {l : List By}, l ≠ [] → (∀ p ∈ l, ∀ x ∈ p, x ≠ 47) → cuts (joinL l) = l
  | [], h, _ => absurd rfl h
  | [x], _, h => by rw [joinL, cuts, cuts_none (h x (by simp))]
  | x :: y :: t, _, h => by
    rw [joinL, cuts, cut_at (h x (by simp)), cuts_join (by simp) (fun p hp => h p (by simp at hp ⊢; exact .inr hp))]
theorem cut_no : ∀ (l : By), (∀ x ∈ (cut l).1, x ≠ 47) ∧ ∀ p ∈ (cut l).2, ∀ x ∈ p, x ≠ 47
  | [] => by simp [cut]
  | x :: xs => by
    have ⟨i1, i2⟩ := cut_no xs
    rw [cut]
    by_cases h : x = 47
    · rw [if_pos h]
      refine ⟨by simp, fun p hp => ?_⟩
      simp only [List.mem_cons] at hp
      rcases hp with rfl | hp
      · exact i1
      · exact i2 p hp
    · rw [if_neg h]
      refine ⟨fun y hy => ?_, i2⟩
      simp only [List.mem_cons] at hy
      rcases hy with rfl | hy
      · exact h
      · exact i1 y hy
theorem cuts_no {l : By} : ∀ p ∈ cuts l, ∀ x ∈ p, x ≠ 47 := by
  intro p hp
  simp only [cuts, List.mem_cons] at hp
  rcases hp with rfl | hp
  · exact (cut_no l).1
  · exact (cut_no l).2 p hp
theorem cut_len : ∀ l : By, (cut l).2.length = l.count 47
  | [] => rfl
  | x :: xs => by
    rw [cut, List.count_cons]
    by_cases h : x = 47
    · rw [if_pos h, if_pos (by simp [h])]; simp [cut_len xs]
    · rw [if_neg h, if_neg (by simp [h])]; simp [cut_len xs]
theorem cuts_len (l : By) : (cuts l).length = l.count 47 + 1 := by
  rw [cuts, List.length_cons, cut_len]
/-- what a rune takes along: bytes from 128 on -/
theorem decode_skip (s : ByteArray) (pos k : Nat) (h1 : pos < k) (h2 : k < pos + (Utf8.decode s pos).2) : k < s.size ∧ 128 ≤ (s.get! k).toNat := by
  have key : ∀ j, pos + j < s.size → (s.get! (pos + j)).toNat / 64 = 2 → k = pos + j → k < s.size ∧ 128 ≤ (s.get! k).toNat := by
    rintro j a b rfl; exact ⟨a, by omega⟩
  revert h2
  simp only [Utf8.decode, Bool.and_eq_true, beq_iff_eq, decide_eq_true_eq]
  repeat' split
  all_goals intro h2
  all_goals simp only at h2
  all_goals first
    | omega
    | (rename_i c _; exact key 1 c.2.1 c.2.2 (by omega))
    | (rename_i c _
       by_cases e : k = pos + 1
       · exact key 1 c.1.2.1 c.1.2.2 e
       · exact key 2 c.2.1 c.2.2 (by omega))
    | (rename_i c _
       by_cases e : k = pos + 1
       · exact key 1 c.1.1.2.1 c.1.1.2.2 e
       · by_cases e : k = pos + 2
         · exact key 2 c.1.2.1 c.1.2.2 e
         · exact key 3 c.2.1 c.2.2 (by omega))
/-- is a byte below 128 read as itself, one from 128 on as something else? -/
theorem decode_small (s : ByteArray) (pos : Nat) (h : pos < s.size) (c : Nat) (hc : c < 128) : (Utf8.decode s pos).1 = c ↔ (s.get! pos).toNat = c := by
  have e : s.get! pos = s[pos]'h := get_at s pos h
  by_cases ha : (s[pos]'h).toNat < 128
  · rw [decode_ascii s pos h ha, e]
  · have := (decode_high s pos h (by omega)).1
    rw [e]; omega
theorem decode_wide (s : ByteArray) (pos : Nat) (h : pos < s.size) : 1 ≤ (Utf8.decode s pos).2 := by
  by_cases ha : (s[pos]'h).toNat < 128
  · rw [decode_ascii s pos h ha]; exact Nat.le_refl _
  · exact (decode_high s pos h (by omega)).2
theorem decode_in (s : ByteArray) (pos : Nat) (h : pos < s.size) : pos + (Utf8.decode s pos).2 ≤ s.size := by
  have h1 := decode_wide s pos h
  by_cases e : (Utf8.decode s pos).2 = 1
  · omega
  · have := (decode_skip s pos (pos + (Utf8.decode s pos).2 - 1) (by omega) (by omega)).1
    omega
theorem decode_one (s : ByteArray) (pos : Nat) (h : pos < s.size) (ha : (s.get! pos).toNat < 128) : (Utf8.decode s pos).2 = 1 := by
  rw [decode_ascii s pos h (by rw [← get_at s pos h]; exact ha)]
/-- the bytes of a text -/
abbrev tl (s : ByteArray) : By := s.toList
theorem tl_len (s : ByteArray) : (tl s).length = s.size := by simp [tl, ByteArray.toList_eq]
theorem tl_at (s : ByteArray) (k : Nat) (h : k < s.size) : (tl s)[k]? = some (s[k]'h) := by
  rw [tl, ByteArray.toList_eq, List.getElem?_eq_some_iff]
  exact ⟨by simpa using h, by simp [ByteArray.getElem_eq_getElem_data]⟩
theorem tl_get (s : ByteArray) (k : Nat) (h : k < s.size) : (tl s)[k]? = some (s.get! k) := by
  have : s.get! k = s[k]'h := get_at s k h
  rw [this]; exact tl_at s k h
theorem tl_mem {s : ByteArray} {x : UInt8} (h : x ∈ tl s) : ∃ k, ∃ h : k < s.size, s[k]'h = x := by
  obtain ⟨k, hk, e⟩ := List.mem_iff_getElem.1 h
  have hk' : k < s.size := by rw [tl_len] at hk; exact hk
  refine ⟨k, hk', ?_⟩
  have := tl_at s k hk'
  rw [List.getElem?_eq_getElem hk] at this
  rw [← Option.some.inj this, e]
theorem tl_in (s : ByteArray) (k : Nat) (h : k < s.size) : s[k]'h ∈ tl s := List.mem_of_getElem? (tl_at s k h)
/-- a part of the text without a byte c: what a rune takes along -/
theorem decode_none (s : ByteArray) (pos c : Nat) (h : pos < s.size) (hc : c < 128) (hn : (Utf8.decode s pos).1 ≠ c) : ∀ k, pos ≤ k → k < pos + (Utf8.decode s pos).2 → (s.get! k).toNat ≠ c := by
  intro k h1 h2 e
  by_cases h3 : k = pos
  · subst h3; exact hn ((decode_small s k h c hc).2 e)
  · have := (decode_skip s pos k (by omega) h2).2; omega
/-- a name -/
def nameB (l : By) : Bool := decide (1 ≤ l.length ∧ l.length ≤ 255 ∧ l ≠ [46] ∧ l ≠ [46, 46] ∧ ∀ x ∈ l, x ≠ 47 ∧ x ≠ 0)
/-- is a ahead of b, byte by byte? -/
def belowL : By → By → Bool
  | [], [] => false
  | [], _ :: _ => true
  | _ :: _, [] => false
  | x :: xs, y :: ys => if x = y then belowL xs ys else decide (x.toNat < y.toNat)
/-- the order by pieces -/
def cmpP : List By → List By → Int
  | [], [] => 0
  | [], _ :: _ => -1
  | _ :: _, [] => 1
  | x :: xs, y :: ys => if belowL x y then -1 else if belowL y x then 1 else cmpP xs ys
theorem belowL_cons (x : UInt8) (a b : By) : belowL (x :: a) (x :: b) = belowL a b := by rw [belowL, if_pos rfl]
theorem belowL_nil (a : By) : belowL a [] = false := by cases a <;> rfl
theorem cmpP_cuts : ∀ a b : By, cmpP (cuts a) (cuts b) = cmpL a b
  | [], [] => by simp [cuts, cut, cmpP, belowL, cmpL]
  | [], y :: ys => by
    rw [cmpL]
    by_cases h : y = 47
    · subst h; simp [cuts, cut, cmpP, belowL]
    · simp [cuts, cut, h, cmpP, belowL]
  | x :: xs, [] => by
    rw [cmpL]
    by_cases h : x = 47
    · subst h; simp [cuts, cut, cmpP, belowL]
    · simp [cuts, cut, h, cmpP, belowL]
  | x :: xs, y :: ys => by
    have ih := cmpP_cuts xs ys
    rw [cmpL]
    by_cases e : x = y
    · subst e
      rw [if_pos rfl, ← ih]
      by_cases h : x = 47
      · subst h; simp [cuts, cut, cmpP, belowL]
      · simp [cuts, cut, h, cmpP, belowL_cons]
    · rw [if_neg e]
      by_cases hx : x = 47
      · subst hx
        have e' : ¬ y = 47 := fun q => e q.symm
        rw [if_pos (rank_lo e')]
        simp [cuts, cut, e', cmpP, belowL]
      · by_cases hy : y = 47
        · subst hy
          have := rank_lo hx
          rw [if_neg (by omega)]
          simp [cuts, cut, hx, cmpP, belowL]
        · have hr : rank x = (x.toNat : Int) := by rw [rank, if_neg hx]
          have hs : rank y = (y.toNat : Int) := by rw [rank, if_neg hy]
          have hne : x.toNat ≠ y.toNat := fun q => e (UInt8.toNat_inj.1 q)
          rw [hr, hs]
          have b1 : ∀ p q : By, belowL (x :: p) (y :: q) = decide (x.toNat < y.toNat) := fun p q => by rw [belowL, if_neg e]
          have b2 : ∀ p q : By, belowL (y :: q) (x :: p) = decide (y.toNat < x.toNat) := fun p q => by rw [belowL, if_neg (fun q => e q.symm)]
          simp only [cuts, cut, hx, hy, if_false, cmpP, b1, b2, decide_eq_true_eq]
          by_cases q : x.toNat < y.toNat
          · rw [if_pos q, if_pos (by omega)]
          · rw [if_neg q, if_pos (by omega), if_neg (by omega)]
theorem cmpP_pieces (a b : By) : cmpP (pieces a) (pieces b) = cmpL a b := by
  unfold pieces
  cases a with
  | nil => cases b with
    | nil => rfl
    | cons y ys => rfl
  | cons x xs => cases b with
    | nil => rfl
    | cons y ys => simp only [reduceCtorEq, if_false]; exact cmpP_cuts _ _
/-- cmp.Compare of two numbers -/
def cmpI (x y : Int) : Int := if x < y then -1 else if y < x then 1 else 0
theorem take_more {α : Type} {a b : List α} {k : Nat} {x : α} (h : a.take k = b.take k) (ha : a[k]? = some x) (hb : b[k]? = some x) : a.take (k + 1) = b.take (k + 1) := by
  rw [List.take_add_one, List.take_add_one, h, ha, hb]
theorem cmpL_at : ∀ (k : Nat) (a b : By) (x y : UInt8), a.take k = b.take k → a[k]? = some x → b[k]? = some y → x ≠ y → cmpL a b = cmpI (rank x) (rank y)
  | 0, a, b, x, y, _, ha, hb, hn => by
    cases a with
    | nil => simp at ha
    | cons a0 a => cases b with
      | nil => simp at hb
      | cons b0 b =>
        simp at ha hb
        subst ha hb
        rw [cmpL, if_neg hn, cmpI]
        have : rank a0 ≠ rank b0 := fun e => hn (rank_inj e)
        by_cases h : rank a0 < rank b0
        · rw [if_pos h, if_pos h]
        · rw [if_neg h, if_neg h, if_pos (by omega)]
  | k + 1, a, b, x, y, h, ha, hb, hn => by
    cases a with
    | nil => simp at ha
    | cons a0 a => cases b with
      | nil => simp at hb
      | cons b0 b =>
        simp at h ha hb
        rw [cmpL, if_pos h.1]
        exact cmpL_at k a b x y h.2 ha hb hn
theorem cmpL_len : ∀ (k : Nat) (a b : By), k = min a.length b.length → a.take k = b.take k → cmpL a b = cmpI a.length b.length
  | 0, a, b, hk, _ => by
    cases a with
    | nil => cases b with
      | nil => rfl
      | cons b0 b => rw [cmpL, cmpI, if_pos (by simp)]
    | cons a0 a => cases b with
      | nil => rw [cmpL, cmpI, if_neg (by simp; omega), if_pos (by simp)]
      | cons b0 b => simp at hk
  | k + 1, a, b, hk, h => by
    cases a with
    | nil => simp at hk
    | cons a0 a => cases b with
      | nil => simp at hk
      | cons b0 b =>
        simp at h
        rw [cmpL, if_pos h.1, cmpL_len k a b (by simp at hk; omega) h.2]
        simp only [cmpI, List.length_cons]
        repeat' split
        all_goals omega
theorem belowL_at : ∀ (k : Nat) (a b : By) (x y : UInt8), a.take k = b.take k → a[k]? = some x → b[k]? = some y → x ≠ y → belowL a b = decide ((x.toNat : Int) < (y.toNat : Int))
  | 0, a, b, x, y, _, ha, hb, hn => by
    cases a with
    | nil => simp at ha
    | cons a0 a => cases b with
      | nil => simp at hb
      | cons b0 b =>
        simp at ha hb
        subst ha hb
        rw [belowL, if_neg hn]
        simp
  | k + 1, a, b, x, y, h, ha, hb, hn => by
    cases a with
    | nil => simp at ha
    | cons a0 a => cases b with
      | nil => simp at hb
      | cons b0 b =>
        simp at h ha hb
        rw [belowL, if_pos h.1]
        exact belowL_at k a b x y h.2 ha hb hn
theorem belowL_len : ∀ (k : Nat) (a b : By), k = min a.length b.length → a.take k = b.take k → belowL a b = decide ((a.length : Int) < (b.length : Int))
  | 0, a, b, hk, _ => by
    cases a with
    | nil => cases b with
      | nil => rfl
      | cons b0 b => rw [belowL]; simp
    | cons a0 a => cases b with
      | nil => rw [belowL]; simp; omega
      | cons b0 b => simp at hk
  | k + 1, a, b, hk, h => by
    cases a with
    | nil => simp at hk
    | cons a0 a => cases b with
      | nil => simp at hk
      | cons b0 b =>
        simp at h
        rw [belowL, if_pos h.1, belowL_len k a b (by simp at hk; omega) h.2]
        simp
/-- texts by their bytes -/
theorem ext_of (s t : ByteArray) (h : tl s = tl t) : s = t := by
  have : s.data.toList = t.data.toList := by rw [← ByteArray.toList_eq, ← ByteArray.toList_eq]; exact h
  cases s; cases t; congr; exact Array.toList_inj.1 this
theorem tl_extract (s : ByteArray) (a b : Nat) : tl (s.extract a b) = ((tl s).drop a).take (b - a) := by
  rw [tl, Lib.extract_toList, tl, ByteArray.toList_eq]
theorem tl_append (s t : ByteArray) : tl (s ++ t) = tl s ++ tl t := by
  simp only [tl, ByteArray.toList_eq]
  rw [ByteArray.data_append, Array.toList_append]
end Go.Proofs.Ytlelgboklkmkdaa
/-
  THE GROUND OF THE WALKS.
-/
namespace Go.Proofs.Ytlelgboklkmkdaa
open Go.RowKit
/-- a slot's number -/
def iOf (v : Value) : Nat := match v with | .int _ i => i.toNat | _ => 0
@[simp] theorem iOf_int (k : IntKind) (i : Int) : iOf (.int k i) = i.toNat := rfl
/-- what the walk is not to see -/
def Hid (p : Prop) : Prop := p
theorem Hid.out {p : Prop} (h : Hid p) : p := h
/-- the same world, but for draws -/
def Drew (w w' : World) : Prop := ∃ n, w' = w.drewN n
theorem Drew.refl (w : World) : Drew w w := ⟨0, rfl⟩
theorem Drew.more {w w' : World} (h : Drew w w') (n : Nat) : Drew w (w'.drewN n) := by
  obtain ⟨m, rfl⟩ := h
  exact ⟨m + n, by rw [World.drewN_drewN]⟩
theorem Drew.trans {w w' w'' : World} (h : Drew w w') (k : Drew w' w'') : Drew w w'' := by
  obtain ⟨n, rfl⟩ := k
  exact h.more n
theorem Drew.heap {w w' : World} (h : Drew w w') : w'.heap = w.heap := by
  obtain ⟨n, rfl⟩ := h
  simp
theorem Drew.cell {w w' : World} (h : Drew w w') (p : Addr) : w'.cell? p = w.cell? p := by
  obtain ⟨n, rfl⟩ := h
  simp
theorem Drew.below {w w' : World} (h : Drew w w') : Below w.heap.size w w' := by
  obtain ⟨n, rfl⟩ := h
  exact below_drewN (Below.refl _ w) n
end Go.Proofs.Ytlelgboklkmkdaa
/-
  RAW DATA: forests, and how they lie in memory.
-/
namespace Go.Proofs.Ytlelgboklkmkdaa
open Go.RowKit
/-- a byte as a cell -/
abbrev vb (n : Nat) : Value := .int .u8 (n : Int)
/-- a value: kind, mode, size, and the 32 bytes of its sum -/
structure Vd where
  kind : Int
  mode : Int
  size : Int
  sum : List Nat
  len : sum.length = 32
  deriving DecidableEq
/-- marks -/
structure Md where
  n0 : Int
  s0 : Int
  n1 : Int
  s1 : Int
  deriving DecidableEq
def vx (v : Vd) : List Value := .int .i64 v.kind :: .int .i64 v.mode :: .int .i64 v.size :: v.sum.map vb
def mx (m : Md) : List Value := [.int .i64 m.n0, .int .i64 m.s0, .int .i64 m.n1, .int .i64 m.s1]
theorem vx_len (v : Vd) : (vx v).length = 35 := by simp [vx, v.len]
theorem mx_len (m : Md) : (mx m).length = 4 := rfl
theorem vb_inj {a b : List Nat} (h : a.map vb = b.map vb) : a = b := by
  refine List.map_inj_right (f := vb) (fun x y e => ?_) |>.1 h
  simp only [vb, Value.int.injEq, true_and] at e
  exact_mod_cast e
theorem vx_inj {a b : Vd} (h : vx a = vx b) : a = b := by
  obtain ⟨k, m, s, l, hl⟩ := a
  obtain ⟨k', m', s', l', hl'⟩ := b
  simp only [vx, List.cons.injEq, Value.int.injEq, true_and] at h
  obtain ⟨rfl, rfl, rfl, h⟩ := h
  obtain rfl := vb_inj h
  rfl
theorem mx_inj {a b : Md} (h : mx a = mx b) : a = b := by
  obtain ⟨k, m, s, l⟩ := a
  obtain ⟨k', m', s', l'⟩ := b
  simp only [mx, List.cons.injEq, Value.int.injEq, true_and, and_true] at h
  obtain ⟨rfl, rfl, rfl, rfl⟩ := h
  rfl
/-- a forest: things with names, each with what hangs on it -/
inductive F where
  | nil
  | cons (nm : ByteArray) (v : Vd) (m : Md) (kids rest : F)
  deriving DecidableEq
namespace F
def len : F → Nat
  | nil => 0
  | cons _ _ _ _ r => r.len + 1
/-- how many things -/
def size : F → Nat
  | nil => 0
  | cons _ _ _ k r => k.size + r.size + 1
def drop : F → Nat → F
  | f, 0 => f
  | nil, _ + 1 => nil
  | cons _ _ _ _ r, k + 1 => r.drop k
def take : F → Nat → F
  | _, 0 => nil
  | nil, _ + 1 => nil
  | cons nm v m k r, n + 1 => cons nm v m k (r.take n)
def app : F → F → F
  | nil, g => g
  | cons nm v m k r, g => cons nm v m k (r.app g)
theorem len_le_size : ∀ f : F, f.len ≤ f.size
  | nil => Nat.le_refl _
  | cons _ _ _ k r => by have := len_le_size r; simp only [len, size]; omega
theorem drop_zero (f : F) : f.drop 0 = f := by cases f <;> rfl
theorem drop_nil (k : Nat) : (nil : F).drop k = nil := by cases k <;> rfl
theorem drop_len : ∀ (f : F) (k : Nat), (f.drop k).len = f.len - k
  | f, 0 => by rw [drop_zero]; rfl
  | nil, _ + 1 => by simp [drop, len]
  | cons _ _ _ _ r, k + 1 => by rw [drop, drop_len r k, len]; omega
theorem drop_size : ∀ (f : F) (k : Nat), (f.drop k).size ≤ f.size
  | f, 0 => by rw [drop_zero]; exact Nat.le_refl _
  | nil, _ + 1 => by simp [drop]
  | cons _ _ _ _ r, k + 1 => by rw [drop, size]; have := drop_size r k; omega
theorem drop_more : ∀ (f : F) (k : Nat), k < f.len → ∃ nm v m ks, f.drop k = cons nm v m ks (f.drop (k + 1))
  | nil, k, h => by simp [len] at h
  | cons nm v m ks r, 0, _ => ⟨nm, v, m, ks, by rw [drop_zero, drop, drop_zero]⟩
  | cons nm v m ks r, k + 1, h => by
    obtain ⟨nm', v', m', ks', e⟩ := drop_more r k (by simp [len] at h; omega)
    exact ⟨nm', v', m', ks', e⟩
theorem drop_all : ∀ (f : F) (k : Nat), f.len ≤ k → f.drop k = nil
  | nil, k, _ => drop_nil k
  | cons _ _ _ _ r, 0, h => by simp [len] at h
  | cons _ _ _ _ r, k + 1, h => drop_all r k (by simp [len] at h; omega)
theorem app_nil : ∀ f : F, f.app nil = f
  | nil => rfl
  | cons _ _ _ _ r => by rw [app, app_nil r]
theorem app_len : ∀ f g : F, (f.app g).len = f.len + g.len
  | nil, g => by simp [app, len]
  | cons _ _ _ _ r, g => by rw [app, len, app_len r g, len]; omega
theorem take_zero (f : F) : f.take 0 = nil := by cases f <;> rfl
theorem take_more : ∀ (f : F) (k : Nat) nm v m ks r, f.drop k = cons nm v m ks r → f.take (k + 1) = (f.take k).app (cons nm v m ks nil)
  | f, 0, nm, v, m, ks, r, h => by rw [drop_zero] at h; subst h; show cons nm v m ks (r.take 0) = _; rw [take_zero, take_zero]; rfl
  | nil, k + 1, _, _, _, _, _, h => by cases h
  | cons a b c d r, k + 1, nm, v, m, ks, r', h => by
    show cons a b c d (r.take (k + 1)) = cons a b c d ((r.take k).app _)
    rw [take_more r k nm v m ks r' h]
theorem take_all : ∀ (f : F) (k : Nat), f.len ≤ k → f.take k = f
  | nil, 0, _ => rfl
  | nil, _ + 1, _ => rfl
  | cons _ _ _ _ r, 0, h => by simp [len] at h
  | cons a b c d r, k + 1, h => by show cons a b c d (r.take k) = _; rw [take_all r k (by simp [len] at h; omega)]
theorem take_len : ∀ (f : F) (k : Nat), k ≤ f.len → (f.take k).len = k
  | f, 0, _ => by cases f <;> rfl
  | nil, _ + 1, h => by simp [len] at h
  | cons _ _ _ _ r, k + 1, h => by show (r.take k).len + 1 = _; rw [take_len r k (by simp [len] at h; omega)]
theorem app_take_drop : ∀ (f : F) (k : Nat), (f.take k).app (f.drop k) = f
  | f, 0 => by rw [drop_zero]; cases f <;> rfl
  | nil, _ + 1 => rfl
  | cons a b c d r, k + 1 => by show cons a b c d ((r.take k).app (r.drop k)) = _; rw [app_take_drop r k]
theorem app_assoc : ∀ f g h : F, (f.app g).app h = f.app (g.app h)
  | nil, _, _ => rfl
  | cons a b c d r, g, h => by simp only [app]; rw [app_assoc r g h]
end F
/-- a thing's 41 cells -/
def nc (nm : ByteArray) (v : Vd) (m : Md) (kv : Value) : Array Value := (Value.string nm :: (vx v ++ (mx m ++ [kv]))).toArray
theorem nc_size (nm : ByteArray) (v : Vd) (m : Md) (kv : Value) : (nc nm v m kv).size = 41 := by simp [nc, vx_len, mx_len]
theorem nc_name (nm : ByteArray) (v : Vd) (m : Md) (kv : Value) : (nc nm v m kv)[0]? = some (.string nm) := by simp [nc]
theorem nc_kids (nm : ByteArray) (v : Vd) (m : Md) (kv : Value) : (nc nm v m kv)[40]? = some kv := by
  simp only [nc, List.getElem?_toArray, List.getElem?_cons_succ]
  rw [List.getElem?_append_right (by simp [vx_len]), List.getElem?_append_right (by simp [vx_len, mx_len])]
  simp [vx_len, mx_len]
theorem nc_val (nm : ByteArray) (v : Vd) (m : Md) (kv : Value) : (nc nm v m kv).extract 1 36 = (vx v).toArray := by
  simp only [nc, List.extract_toArray, List.extract_eq_take_drop, List.drop_succ_cons, List.drop_zero]
  rw [List.take_append_of_le_length (by simp [vx_len]), List.take_of_length_le (by simp [vx_len])]
theorem nc_marks (nm : ByteArray) (v : Vd) (m : Md) (kv : Value) : (nc nm v m kv).extract 36 40 = (mx m).toArray := by
  simp only [nc, List.extract_toArray, List.extract_eq_take_drop, List.drop_succ_cons]
  rw [List.drop_append_of_le_length (by simp [vx_len]), List.drop_of_length_le (by simp [vx_len])]
  simp [mx]
/-- the row of a forest, from a place on -/
def HasR (w : World) : F → Nat → Nat → Prop
  | .nil, _, _ => True
  | .cons nm v m kids rest, g, o => (∃ a cap, (∀ j u, (nc nm v m (.slice a kids.len cap))[j]? = some u → w.cell? ⟨g, o + j, none⟩ = some u) ∧ (kids.len ≤ cap ∧ (kids = .nil ∨ ∃ g' o', a = some ⟨g', o', none⟩ ∧ HasR w kids g' o'))) ∧ HasR w rest g (o + 41)
/-- a slice of a forest -/
def HasS (w : World) (v : Value) (f : F) : Prop := ∃ a cap, v = .slice a f.len cap ∧ f.len ≤ cap ∧ (f = .nil ∨ ∃ g o, a = some ⟨g, o, none⟩ ∧ HasR w f g o)
/-- a thing as a value -/
def HasN (w : World) (c : Array Value) (nm : ByteArray) (v : Vd) (m : Md) (kids : F) : Prop := ∃ kv, c = nc nm v m kv ∧ HasS w kv kids
theorem HasR.drop {w : World} : ∀ {f : F} {k g o : Nat}, HasR w f g o → HasR w (f.drop k) g (o + k * 41)
  | f, 0, g, o, h => by rw [F.drop_zero]; exact h
  | .nil, k + 1, g, o, _ => trivial
  | .cons nm v m ks r, k + 1, g, o, h => by
    have := HasR.drop (k := k) h.2
    rw [show o + 41 + k * 41 = o + (k + 1) * 41 by omega] at this
    exact this
theorem HasR.block {w w' : World} (hb : ∀ a : Addr, a.block < w.heap.size → w'.cell? a = w.cell? a) : ∀ {f : F} {g o : Nat}, HasR w f g o → HasR w' f g o
  | .nil, _, _, _ => trivial
  | .cons nm v m ks r, g, o, h => by
    obtain ⟨⟨a, cap, hc, hl, hk⟩, hr⟩ := h
    refine ⟨⟨a, cap, fun j u hj => ?_, hl, ?_⟩, HasR.block hb hr⟩
    · have h1 := hc j u hj
      rw [hb _ (World.block_lt_of_cell? w _ h1)]
      exact h1
    · rcases hk with hk | ⟨g', o', ha, hk⟩
      · exact .inl hk
      · exact .inr ⟨g', o', ha, HasR.block hb hk⟩
theorem HasS.block {w w' : World} {v : Value} {f : F} (h : HasS w v f) (hb : ∀ a : Addr, a.block < w.heap.size → w'.cell? a = w.cell? a) : HasS w' v f := by
  obtain ⟨a, cap, hv, hl, h⟩ := h
  refine ⟨a, cap, hv, hl, ?_⟩
  rcases h with h | ⟨g, o, ha, h⟩
  · exact .inl h
  · exact .inr ⟨g, o, ha, h.block hb⟩
theorem HasS.below {w w' : World} {v : Value} {f : F} (h : HasS w v f) (hb : Below w.heap.size w w') : HasS w' v f := h.block fun _ ha => hb.cell ha
theorem HasS.drew {w w' : World} {v : Value} {f : F} (h : HasS w v f) (hb : Drew w w') : HasS w' v f := h.below hb.below
theorem HasN.block {w w' : World} {c : Array Value} {nm : ByteArray} {v : Vd} {m : Md} {f : F} (h : HasN w c nm v m f) (hb : ∀ a : Addr, a.block < w.heap.size → w'.cell? a = w.cell? a) : HasN w' c nm v m f := by
  obtain ⟨kv, hc, h⟩ := h
  exact ⟨kv, hc, h.block hb⟩
theorem HasN.below {w w' : World} {c : Array Value} {nm : ByteArray} {v : Vd} {m : Md} {f : F} (h : HasN w c nm v m f) (hb : Below w.heap.size w w') : HasN w' c nm v m f := h.block fun _ ha => hb.cell ha
/-- the slice's form, and its k-th thing -/
theorem HasS.form {w : World} {v : Value} {f : F} (h : HasS w v f) : ∃ a cap, v = .slice a f.len cap ∧ f.len ≤ cap := by
  obtain ⟨a, cap, hv, hl, _⟩ := h
  exact ⟨a, cap, hv, hl⟩
theorem HasS.at {w : World} {v : Value} {f : F} (h : HasS w v f) {k : Nat} (hk : k < f.len) : ∃ g o cap nm vv m ks c, v = .slice (some ⟨g, o, none⟩) f.len cap ∧ f.drop k = .cons nm vv m ks (f.drop (k + 1)) ∧ HasN w c nm vv m ks ∧ (∀ j u, c[j]? = some u → w.cell? ⟨g, o + k * 41 + j, none⟩ = some u) := by
  obtain ⟨a, cap, hv, hl, h⟩ := h
  rcases h with h | ⟨g, o, ha, h⟩
  · subst h; simp [F.len] at hk
  · obtain ⟨nm, vv, m, ks, e⟩ := F.drop_more f k hk
    have h1 := h.drop (k := k)
    rw [e] at h1
    obtain ⟨⟨a', cap', hc, hl', hks⟩, _⟩ := h1
    subst ha
    exact ⟨g, o, cap, nm, vv, m, ks, _, hv, e, ⟨_, rfl, a', cap', rfl, hl', hks⟩, hc⟩
end Go.Proofs.Ytlelgboklkmkdaa
