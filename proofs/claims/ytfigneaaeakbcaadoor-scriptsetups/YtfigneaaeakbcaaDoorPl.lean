/-
  TEXTS AND SETUPS in Lean alone: lines, words, numbers, what a setup says.
-/
import Derived.Laws.RangeAny
import Derived.Laws.Strings
import Derived.Laws.Concat
import Derived.Lib.Strings
import Derived.Lib.AtoiTie
import Derived.Lib.ItoaMem
namespace Go.Proofs.YtfigneaaeakbcaaDoor
open Go

abbrev By := List UInt8
/-- what a rune takes along: bytes from 128 on -/
theorem decode_skip (s : ByteArray) (pos k : Nat) (h1 : pos < k) (h2 : k < pos + (Utf8.decode s pos).2) : k < s.size ∧ 128 ≤ (s.get! k).toNat := by
  have key : ∀ j, pos + j < s.size → (s.get! (pos + j)).toNat / 64 = 2 → k = pos + j → k < s.size ∧ 128 ≤ (s.get! k).toNat := by
    rintro j a b rfl; exact ⟨a, by omega⟩
  revert h2
  simp only [Utf8.decode, Bool.and_eq_true, beq_iff_eq, decide_eq_true_eq]
  repeat' split
  all_goals intro h2
  all_goals simp only at h2
  all_goals first
    | omega
    | (rename_i c _; exact key 1 c.2.1 c.2.2 (by omega))
    | (rename_i c _
       by_cases e : k = pos + 1
       · exact key 1 c.1.2.1 c.1.2.2 e
       · exact key 2 c.2.1 c.2.2 (by omega))
    | (rename_i c _
       by_cases e : k = pos + 1
       · exact key 1 c.1.1.2.1 c.1.1.2.2 e
       · by_cases e : k = pos + 2
         · exact key 2 c.1.2.1 c.1.2.2 e
         · exact key 3 c.2.1 c.2.2 (by omega))

/-- is a byte below 128 read as itself, one from 128 on as something else? -/
theorem decode_small (s : ByteArray) (pos : Nat) (h : pos < s.size) (c : Nat) (hc : c < 128) : (Utf8.decode s pos).1 = c ↔ (s.get! pos).toNat = c := by
  have e : s.get! pos = s[pos]'h := get_at s pos h
  by_cases ha : (s[pos]'h).toNat < 128
  · rw [decode_ascii s pos h ha, e]
  · have := (decode_high s pos h (by omega)).1
    rw [e]; omega
theorem decode_wide (s : ByteArray) (pos : Nat) (h : pos < s.size) : 1 ≤ (Utf8.decode s pos).2 := by
  by_cases ha : (s[pos]'h).toNat < 128
  · rw [decode_ascii s pos h ha]; exact Nat.le_refl _
  · exact (decode_high s pos h (by omega)).2
theorem decode_in (s : ByteArray) (pos : Nat) (h : pos < s.size) : pos + (Utf8.decode s pos).2 ≤ s.size := by
  have h1 := decode_wide s pos h
  by_cases e : (Utf8.decode s pos).2 = 1
  · omega
  · have := (decode_skip s pos (pos + (Utf8.decode s pos).2 - 1) (by omega) (by omega)).1
    omega
theorem decode_one (s : ByteArray) (pos : Nat) (h : pos < s.size) (ha : (s.get! pos).toNat < 128) : (Utf8.decode s pos).2 = 1 := by
  rw [decode_ascii s pos h (by rw [← get_at s pos h]; exact ha)]
/-- the bytes of a text -/
abbrev tl (s : ByteArray) : By := s.toList
theorem tl_len (s : ByteArray) : (tl s).length = s.size := by simp [tl, ByteArray.toList_eq]
theorem tl_at (s : ByteArray) (k : Nat) (h : k < s.size) : (tl s)[k]? = some (s[k]'h) := by
  rw [tl, ByteArray.toList_eq, List.getElem?_eq_some_iff]
  exact ⟨by simpa using h, by simp [ByteArray.getElem_eq_getElem_data]⟩
theorem tl_get (s : ByteArray) (k : Nat) (h : k < s.size) : (tl s)[k]? = some (s.get! k) := by
  have : s.get! k = s[k]'h := get_at s k h
  rw [this]; exact tl_at s k h
theorem tl_mem {s : ByteArray} {x : UInt8} (h : x ∈ tl s) : ∃ k, ∃ h : k < s.size, s[k]'h = x := by
  obtain ⟨k, hk, e⟩ := List.mem_iff_getElem.1 h
  have hk' : k < s.size := by rw [tl_len] at hk; exact hk
  refine ⟨k, hk', ?_⟩
  have := tl_at s k hk'
  rw [List.getElem?_eq_getElem hk] at this
  rw [← Option.some.inj this, e]
theorem tl_in (s : ByteArray) (k : Nat) (h : k < s.size) : s[k]'h ∈ tl s := List.mem_of_getElem? (tl_at s k h)
/-- a part of the text without a byte c: what a rune takes along -/
theorem decode_none (s : ByteArray) (pos c : Nat) (h : pos < s.size) (hc : c < 128) (hn : (Utf8.decode s pos).1 ≠ c) : ∀ k, pos ≤ k → k < pos + (Utf8.decode s pos).2 → (s.get! k).toNat ≠ c := by
  intro k h1 h2 e
  by_cases h3 : k = pos
  · subst h3; exact hn ((decode_small s k h c hc).2 e)
  · have := (decode_skip s pos k (by omega) h2).2; omega


/-- texts by their bytes -/
theorem ext_of (s t : ByteArray) (h : tl s = tl t) : s = t := by
  have : s.data.toList = t.data.toList := by rw [← ByteArray.toList_eq, ← ByteArray.toList_eq]; exact h
  cases s; cases t; congr; exact Array.toList_inj.1 this
theorem tl_extract (s : ByteArray) (a b : Nat) : tl (s.extract a b) = ((tl s).drop a).take (b - a) := by
  rw [tl, Lib.extract_toList, tl, ByteArray.toList_eq]
theorem tl_append (s t : ByteArray) : tl (s ++ t) = tl s ++ tl t := by
  simp only [tl, ByteArray.toList_eq]
  rw [ByteArray.data_append, Array.toList_append]

/-- the pieces between line feeds -/
def linesR : By → List By
  | [] => [[]]
  | c :: l => if c = 10 then [] :: linesR l else match linesR l with
    | [] => [[c]]
    | x :: r => (c :: x) :: r
theorem linesR_ne (l : By) : linesR l ≠ [] := by
  cases l with
  | nil => simp [linesR]
  | cons c l =>
    unfold linesR
    split
    · simp
    · split <;> simp
theorem linesR_one : ∀ {a : By}, (10 : UInt8) ∉ a → linesR a = [a]
  | [], _ => rfl
  | c :: a, h => by
    have h1 : c ≠ 10 := fun e => h (by simp [e])
    have h2 := linesR_one (a := a) (fun e => h (by simp [e]))
    unfold linesR
    rw [if_neg h1, h2]
theorem linesR_mid : ∀ {a : By} (r : By), (10 : UInt8) ∉ a → linesR (a ++ 10 :: r) = a :: linesR r
  | [], r, _ => by simp [linesR]
  | c :: a, r, h => by
    have h1 : c ≠ 10 := fun e => h (by simp [e])
    have h2 := linesR_mid (a := a) r (fun e => h (by simp [e]))
    have e : linesR (c :: (a ++ 10 :: r)) = if c = 10 then [] :: linesR (a ++ 10 :: r) else match linesR (a ++ 10 :: r) with
      | [] => [[c]]
      | x :: r => (c :: x) :: r := rfl
    rw [List.cons_append, e, if_neg h1, h2]
theorem linesR_no : ∀ (l : By), ∀ x ∈ linesR l, (10 : UInt8) ∉ x
  | [], x, h => by simp [linesR] at h; subst h; simp
  | c :: l, x, h => by
    have ih := linesR_no l
    unfold linesR at h
    split at h
    · rcases List.mem_cons.1 h with rfl | h
      · simp
      · exact ih x h
    · rename_i hc
      split at h
      · simp at h; subst h
        simp; exact fun e => hc e.symm
      · rename_i y r e
        rw [e] at ih
        rcases List.mem_cons.1 h with rfl | h
        · have := ih y (by simp)
          simp only [List.mem_cons, not_or]
          exact ⟨fun e => hc e.symm, this⟩
        · exact ih x (by simp [h])
/-- what lines weigh -/
def wt (xs : List By) : Nat := (xs.map fun x => x.length + 1).sum
theorem linesR_wt : ∀ l : By, wt (linesR l) = l.length + 1
  | [] => rfl
  | c :: l => by
    have ih := linesR_wt l
    unfold linesR
    split
    · simp [wt] at ih ⊢; omega
    · split
      · rename_i e; exact absurd e (linesR_ne l)
      · rename_i y r e
        rw [e] at ih
        simp [wt] at ih ⊢; omega

/-! ### words -/
/-- a word: where, of which kind (0 bare, 1 quoted, 2 broken), what it says -/
structure W where
  pl : Nat
  kind : Nat
  text : By
structure Cs where
  k : Nat
  f : Nat
  s : By
  ws : List W
def dig (c : Nat) : Option Nat := if 48 ≤ c ∧ c ≤ 57 then some (c - 48) else if 97 ≤ c ∧ c ≤ 102 then some (c - 87) else none
def layC (x : Cs) (at_ kind : Nat) (t : By) (k : Nat) : Cs := ⟨k, x.f, x.s, x.ws ++ [⟨at_ + x.f, kind, t⟩]⟩
def leaveC (line : By) (at_ i k : Nat) (x : Cs) : Cs := if x.k = 1 then layC x at_ 0 ((line.drop x.f).take (i - x.f)) k else { x with k := k }
def spoilC (at_ : Nat) (x : Cs) : Cs := layC x at_ 2 [] 6
def quoS (i : Nat) (y : Cs) : Cs := ⟨y.k, i, [], y.ws⟩
def bareC (line : By) (at_ i c : Nat) (x : Cs) : Cs :=
  if c = 32 ∨ c = 9 then leaveC line at_ i 0 x else if c = 35 then leaveC line at_ i 6 x
  else if c = 34 then quoS i (leaveC line at_ i 2 x)
  else if x.k = 0 then { x with f := i, k := 1 } else x
def sayC (b : UInt8) (x : Cs) : Cs := { x with s := x.s ++ [b], k := 2 }
def quoC (at_ c : Nat) (x : Cs) : Cs :=
  if c = 34 then layC x at_ 1 x.s 0 else if c = 92 then { x with k := 3 } else if c < 32 ∨ 126 < c then spoilC at_ x else sayC (UInt8.ofNat c) x
def escC (at_ c : Nat) (x : Cs) : Cs :=
  if c = 34 ∨ c = 92 then sayC (UInt8.ofNat c) x else if c = 120 then { sayC 0 x with k := 4 } else spoilC at_ x
def lastU (s : By) (d : Nat) : By := s.dropLast ++ [(s.getLastD 0) <<< 4 ||| UInt8.ofNat d]
def digC (at_ c : Nat) (x : Cs) : Cs := match dig c with
  | none => spoilC at_ x
  | some d => { x with s := lastU x.s d, k := if x.k = 4 then 5 else 2 }
def nextC (line : By) (at_ i c : Nat) (x : Cs) : Cs :=
  if x.k = 2 then quoC at_ c x else if x.k = 3 then escC at_ c x else if x.k = 4 ∨ x.k = 5 then digC at_ c x else bareC line at_ i c x
def runC (line : By) (at_ : Nat) : By → Nat → Cs → Cs
  | [], _, x => x
  | c :: r, i, x => if x.k = 6 then x else runC line at_ r (i + 1) (nextC line at_ i c.toNat x)
def closeC (line : By) (at_ : Nat) (x : Cs) : Cs := if x.k = 1 then leaveC line at_ line.length 0 x else if x.k = 2 ∨ x.k = 3 ∨ x.k = 4 ∨ x.k = 5 then spoilC at_ x else x
/-- what comes of the rest -/
def wOf (line : By) (at_ : Nat) (r : By) (i : Nat) (x : Cs) : List W := (closeC line at_ (runC line at_ r i x)).ws
def wds (line : By) (at_ : Nat) : List W := wOf line at_ line 0 ⟨0, 0, [], []⟩

theorem run_six (line : By) (at_ : Nat) (r : By) (i : Nat) (x : Cs) (h : x.k = 6) : runC line at_ r i x = x := by
  cases r with
  | nil => rfl
  | cons c r => rw [runC, if_pos h]
theorem w_six (line : By) (at_ : Nat) (r : By) (i : Nat) (x : Cs) (h : x.k = 6) : wOf line at_ r i x = x.ws := by
  unfold wOf closeC
  rw [run_six _ _ _ _ _ h, if_neg (by omega), if_neg (by omega)]
theorem w_cons (line : By) (at_ : Nat) (c : UInt8) (r : By) (i : Nat) (x : Cs) (h : x.k ≠ 6) : wOf line at_ (c :: r) i x = wOf line at_ r (i + 1) (nextC line at_ i c.toNat x) := by
  unfold wOf
  rw [runC, if_neg h]
/-- bytes from 128 on -/
theorem next_high (line : By) (at_ i c d : Nat) (x : Cs) (hc : 128 ≤ c) (hd : 128 ≤ d) : nextC line at_ i c x = nextC line at_ i d x := by
  have h1 : dig c = none := by unfold dig; rw [if_neg (by omega), if_neg (by omega)]
  have h2 : dig d = none := by unfold dig; rw [if_neg (by omega), if_neg (by omega)]
  unfold nextC quoC escC digC bareC
  rw [h1, h2]
  rw [if_neg (show ¬ c = 34 by omega), if_neg (show ¬ d = 34 by omega), if_neg (show ¬ c = 92 by omega), if_neg (show ¬ d = 92 by omega), if_pos (show c < 32 ∨ 126 < c by omega), if_pos (show d < 32 ∨ 126 < d by omega),
    if_neg (show ¬ (c = 34 ∨ c = 92) by omega), if_neg (show ¬ (d = 34 ∨ d = 92) by omega), if_neg (show ¬ c = 120 by omega), if_neg (show ¬ d = 120 by omega), if_neg (show ¬ (c = 32 ∨ c = 9) by omega), if_neg (show ¬ (d = 32 ∨ d = 9) by omega),
    if_neg (show ¬ c = 35 by omega), if_neg (show ¬ d = 35 by omega), if_neg (show ¬ c = 34 by omega), if_neg (show ¬ d = 34 by omega)]
theorem next_idle (line : By) (at_ i c : Nat) (x : Cs) (hc : 128 ≤ c) (hk : x.k = 1 ∨ 5 < x.k) : nextC line at_ i c x = x := by
  unfold nextC bareC
  rw [if_neg (by omega), if_neg (by omega), if_neg (by omega), if_neg (by omega), if_neg (by omega), if_neg (by omega), if_neg (by omega)]
theorem next_then (line : By) (at_ i c : Nat) (x : Cs) (hc : 128 ≤ c) : (nextC line at_ i c x).k = 1 ∨ 5 < (nextC line at_ i c x).k := by
  have h1 : dig c = none := by unfold dig; rw [if_neg (by omega), if_neg (by omega)]
  unfold nextC quoC escC digC bareC
  rw [h1]
  rw [if_neg (show ¬ c = 34 by omega), if_neg (show ¬ c = 92 by omega), if_pos (show c < 32 ∨ 126 < c by omega),
    if_neg (show ¬ (c = 34 ∨ c = 92) by omega), if_neg (show ¬ c = 120 by omega), if_neg (show ¬ (c = 32 ∨ c = 9) by omega),
    if_neg (show ¬ c = 35 by omega), if_neg (show ¬ c = 34 by omega)]
  dsimp only
  split
  · exact .inr (by simp [spoilC, layC])
  · split
    · exact .inr (by simp [spoilC, layC])
    · split
      · exact .inr (by simp [spoilC, layC])
      · split
        · exact .inl rfl
        · omega
theorem run_idle (line : By) (at_ : Nat) (l : By) (x : Cs) (hk : x.k = 1 ∨ 5 < x.k) (p : Nat) : ∀ n, p + n ≤ l.length → (∀ k, p ≤ k → k < p + n → ∀ c, l[k]? = some c → 128 ≤ c.toNat) → runC line at_ (l.drop p) p x = runC line at_ (l.drop (p + n)) (p + n) x
  | 0, _, _ => rfl
  | n + 1, hn, h => by
    rw [run_idle line at_ l x hk p n (by omega) fun k a b => h k a (by omega)]
    have hlt : p + n < l.length := by omega
    rw [List.drop_eq_getElem_cons hlt, runC]
    by_cases h6 : x.k = 6
    · rw [if_pos h6, run_six _ _ _ _ _ h6]
    · rw [if_neg h6, next_idle _ _ _ _ _ (h (p + n) (by omega) (by omega) _ (by simp [hlt])) hk]
      rfl
/-- one rune -/
theorem run_rune (s : ByteArray) (at_ pos : Nat) (x : Cs) (hp : pos < s.size) (h6 : x.k ≠ 6) :
    runC (tl s) at_ ((tl s).drop pos) pos x = runC (tl s) at_ ((tl s).drop (pos + (Utf8.decode s pos).2)) (pos + (Utf8.decode s pos).2) (nextC (tl s) at_ pos (Utf8.decode s pos).1 x) := by
  have hl := tl_len s
  have hlt : pos < (tl s).length := by omega
  have e1 : (tl s)[pos]'hlt = s.get! pos := by
    have := tl_get s pos hp
    rw [List.getElem?_eq_getElem hlt] at this
    exact Option.some.inj this
  rw [List.drop_eq_getElem_cons hlt, runC, if_neg h6, e1]
  by_cases ha : (s.get! pos).toNat < 128
  · rw [decode_one s pos hp ha, (decode_small s pos hp _ ha).2 rfl]
  · have hd : 128 ≤ (Utf8.decode s pos).1 := by
      rcases Nat.lt_or_ge (Utf8.decode s pos).1 128 with h | h
      · have := (decode_small s pos hp _ h).1 rfl; omega
      · exact h
    have hw := decode_wide s pos hp
    have hin := decode_in s pos hp
    rw [next_high _ _ _ _ _ x hd (Nat.le_of_not_lt ha)]
    have := run_idle (tl s) at_ (tl s) (nextC (tl s) at_ pos (s.get! pos).toNat x) (next_then _ _ _ _ _ (Nat.le_of_not_lt ha)) (pos + 1) ((Utf8.decode s pos).2 - 1) (by omega) (fun k a b c hc => by
      have hk := decode_skip s pos k (by omega) (by omega)
      rw [tl_get s k hk.1] at hc
      rw [← Option.some.inj hc]
      exact hk.2)
    rw [show pos + 1 + ((Utf8.decode s pos).2 - 1) = pos + (Utf8.decode s pos).2 by omega] at this
    exact this

/-! ### the reference's quoted text -/
def qR : By → Nat → By → Option (By × Nat)
  | [], _, _ => none
  | c :: r, i, out => if c.toNat = 34 then some (out, i + 1) else if c.toNat < 32 ∨ 126 < c.toNat then none else if c.toNat ≠ 92 then qR r (i + 1) (out ++ [c]) else
    match r with
    | [] => none
    | d :: r1 => if d.toNat = 34 ∨ d.toNat = 92 then qR r1 (i + 2) (out ++ [d]) else if d.toNat = 120 then
        match r1 with
        | a :: b :: r2 => match dig a.toNat, dig b.toNat with
          | some x, some y => qR r2 (i + 4) (out ++ [UInt8.ofNat (16 * x + y)])
          | _, _ => none
        | _ => none
      else none
theorem hex_two : ∀ x y : Fin 16, ((((0 : UInt8) <<< 4 ||| UInt8.ofNat x) <<< 4) ||| UInt8.ofNat y) = UInt8.ofNat (16 * x + y) := by decide
theorem dig_lt {c d : Nat} (h : dig c = some d) : d < 16 := by
  unfold dig at h
  split at h
  · cases h; omega
  · split at h
    · cases h; omega
    · cases h
theorem last_two (s : By) (x y : Nat) (hx : x < 16) (hy : y < 16) : lastU (lastU (s ++ [0]) x) y = s ++ [UInt8.ofNat (16 * x + y)] := by
  have := hex_two ⟨x, hx⟩ ⟨y, hy⟩
  simp only at this
  have e : ∀ (a : By) (b : UInt8) (d : Nat), lastU (a ++ [b]) d = a ++ [b <<< 4 ||| UInt8.ofNat d] := fun a b d => by unfold lastU; rw [List.dropLast_concat, List.getLastD_concat]
  rw [e, e, this]
theorem drop_more {l r : By} {i : Nat} (h : l.drop i = r) (n : Nat) : l.drop (i + n) = r.drop n := by rw [← h, List.drop_drop]
theorem next2 (line : By) (at_ i c f : Nat) (s : By) (l : List W) : nextC line at_ i c ⟨2, f, s, l⟩ = quoC at_ c ⟨2, f, s, l⟩ := rfl
theorem next3 (line : By) (at_ i c f : Nat) (s : By) (l : List W) : nextC line at_ i c ⟨3, f, s, l⟩ = escC at_ c ⟨3, f, s, l⟩ := rfl
theorem next4 (line : By) (at_ i c f : Nat) (s : By) (l : List W) : nextC line at_ i c ⟨4, f, s, l⟩ = digC at_ c ⟨4, f, s, l⟩ := rfl
theorem next5 (line : By) (at_ i c f : Nat) (s : By) (l : List W) : nextC line at_ i c ⟨5, f, s, l⟩ = digC at_ c ⟨5, f, s, l⟩ := rfl
theorem say_four (f : Nat) (s : By) (l : List W) (k : Nat) : ({ sayC 0 ⟨k, f, s, l⟩ with k := 4 } : Cs) = ⟨4, f, s ++ [0], l⟩ := rfl
/-- a quoted text in one go -/
theorem q_run (line : By) (at_ f : Nat) (l : List W) : ∀ (n : Nat) (r : By), r.length ≤ n → ∀ (i : Nat) (out : By), line.drop i = r →
    match qR r i out with
    | some (t, n) => wOf line at_ r i ⟨2, f, out, l⟩ = wOf line at_ (line.drop n) n ⟨0, f, t, l ++ [⟨at_ + f, 1, t⟩]⟩ ∧ i < n
    | none => wOf line at_ r i ⟨2, f, out, l⟩ = l ++ [⟨at_ + f, 2, []⟩]
  | _, [], _, i, out, _ => by
    rw [qR]
    simp [wOf, runC, closeC, spoilC, layC]
  | 0, c :: r, h, _, _, _ => by simp at h
  | n + 1, c :: r, hn, i, out, hr => by
    simp only [List.length_cons] at hn
    have hS : ∀ x : Cs, x.k = 6 → wOf line at_ r (i + 1) x = x.ws := fun x h => w_six _ _ _ _ _ h
    rw [qR.eq_def, w_cons _ _ _ _ _ _ (by simp), next2, quoC]
    dsimp only
    have h1 : line.drop (i + 1) = r := by rw [drop_more hr]; rfl
    by_cases c1 : c.toNat = 34
    · rw [if_pos c1, if_pos c1]
      exact ⟨by rw [h1]; rfl, by omega⟩
    rw [if_neg c1, if_neg c1]
    by_cases c2 : c.toNat < 32 ∨ 126 < c.toNat
    · rw [if_pos c2, if_neg (by omega), if_pos c2]
      exact hS _ rfl
    rw [if_neg c2]
    by_cases c3 : c.toNat = 92
    · rw [if_neg (fun h => h c3), if_pos c3]
      match r, hn, h1, hS with
      | [], _, h1, _ => simp [wOf, runC, closeC, spoilC, layC]
      | d :: r1, hn, h1, _ =>
        simp only [List.length_cons] at hn
        have h2 : line.drop (i + 2) = r1 := by rw [show i + 2 = (i + 1) + 1 from rfl, drop_more h1]; rfl
        dsimp only
        rw [w_cons _ _ _ _ _ _ (by simp), next3, escC, say_four]
        by_cases d1 : d.toNat = 34 ∨ d.toNat = 92
        · rw [if_pos d1, if_pos d1]
          have := q_run line at_ f l n r1 (by omega) (i + 2) (out ++ [d]) h2
          rw [show sayC (UInt8.ofNat d.toNat) ⟨3, f, out, l⟩ = ⟨2, f, out ++ [d], l⟩ by simp [sayC]]
          revert this
          cases qR r1 (i + 2) (out ++ [d]) with
          | none => exact id
          | some p => exact fun h => ⟨h.1, by omega⟩
        · rw [if_neg d1, if_neg d1]
          by_cases d2 : d.toNat = 120
          · rw [if_pos d2, if_pos d2]
            match r1, hn, h2 with
            | [], _, _ => simp [wOf, runC, closeC, spoilC, layC]
            | [a], _, _ =>
              dsimp only
              rw [w_cons _ _ _ _ _ _ (by simp), next4, digC]
              cases dig a.toNat <;> simp [wOf, runC, closeC, spoilC, layC]
            | a :: b :: r2, hn, h2 =>
              simp only [List.length_cons] at hn
              have h4 : line.drop (i + 4) = r2 := by rw [show i + 4 = (i + 2) + 2 from rfl, drop_more h2]; rfl
              dsimp only
              rw [w_cons _ _ _ _ _ _ (by simp), next4, digC]
              cases ha : dig a.toNat with
              | none => dsimp only; rw [w_six _ _ _ _ _ rfl]; rfl
              | some x =>
                dsimp only
                rw [if_pos rfl, w_cons _ _ _ _ _ _ (by simp), next5, digC]
                cases hb : dig b.toNat with
                | none => dsimp only; rw [w_six _ _ _ _ _ rfl]; rfl
                | some y =>
                  dsimp only
                  have := q_run line at_ f l n r2 (by omega) (i + 4) (out ++ [UInt8.ofNat (16 * x + y)]) h4
                  rw [if_neg (by decide)]
                  simp only [last_two out x y (dig_lt ha) (dig_lt hb)]
                  revert this
                  cases qR r2 (i + 4) (out ++ [UInt8.ofNat (16 * x + y)]) with
                  | none => exact id
                  | some p => exact fun h => ⟨h.1, by omega⟩
          · rw [if_neg d2, if_neg d2]
            rw [w_six _ _ _ _ _ rfl]; rfl
    · rw [if_pos c3, if_neg c3, if_neg c2]
      have := q_run line at_ f l n r (by omega) (i + 1) (out ++ [c]) h1
      rw [show sayC (UInt8.ofNat c.toNat) ⟨2, f, out, l⟩ = ⟨2, f, out ++ [c], l⟩ by simp [sayC]]
      revert this
      cases qR r (i + 1) (out ++ [c]) with
      | none => exact id
      | some p => exact fun h => ⟨h.1, by omega⟩
/-- all words of lines -/
def atW : Nat → List By → List W
  | _, [] => []
  | a, l :: r => wds l a ++ atW (a + l.length + 1) r
/-- the reference's lines -/
def lnR : Nat → List By → List (List W × Nat)
  | _, [] => []
  | a, l :: r => (wds l a, a + l.length) :: lnR (a + l.length + 1) r
theorem lnR_words : ∀ (L : List By) (a : Nat), ((lnR a L).map (·.1)).flatten = atW a L
  | [], _ => rfl
  | l :: r, a => by rw [lnR, atW, List.map_cons, List.flatten_cons, lnR_words r]
end Go.Proofs.YtfigneaaeakbcaaDoor
