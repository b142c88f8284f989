/-
  RULES IN LEAN ALONE: lines, rules, what Parse answers, what Text writes.
-/
import Derived.Test.YtpngnhpnjkepjaaGreatDoorMatch
import Derived.Test.YtpngnhpnjkepjaaGreatDoorJoin
namespace Go.Proofs.YtpngnhpnjkepjaaGreatDoor

/-- the pieces between line feeds -/
def linesR : By → List By
  | [] => [[]]
  | c :: l => if c = 10 then [] :: linesR l else match linesR l with
    | [] => [[c]]
    | x :: r => (c :: x) :: r
theorem linesR_ne (l : By) : linesR l ≠ [] := by
  cases l with
  | nil => simp [linesR]
  | cons c l =>
    unfold linesR
    split
    · simp
    · split <;> simp
theorem linesR_one : ∀ {a : By}, (10 : UInt8) ∉ a → linesR a = [a]
  | [], _ => rfl
  | c :: a, h => by
    have h1 : c ≠ 10 := fun e => h (by simp [e])
    have h2 := linesR_one (a := a) (fun e => h (by simp [e]))
    unfold linesR
    rw [if_neg h1, h2]
theorem linesR_mid : ∀ {a : By} (r : By), (10 : UInt8) ∉ a → linesR (a ++ 10 :: r) = a :: linesR r
  | [], r, _ => by simp [linesR]
  | c :: a, r, h => by
    have h1 : c ≠ 10 := fun e => h (by simp [e])
    have h2 := linesR_mid (a := a) r (fun e => h (by simp [e]))
    have e : linesR (c :: (a ++ 10 :: r)) = if c = 10 then [] :: linesR (a ++ 10 :: r) else match linesR (a ++ 10 :: r) with
      | [] => [[c]]
      | x :: r => (c :: x) :: r := rfl
    rw [List.cons_append, e, if_neg h1, h2]
theorem linesR_no : ∀ (l : By), ∀ x ∈ linesR l, (10 : UInt8) ∉ x
  | [], x, h => by simp [linesR] at h; subst h; simp
  | c :: l, x, h => by
    have ih := linesR_no l
    unfold linesR at h
    split at h
    · rcases List.mem_cons.1 h with rfl | h
      · simp
      · exact ih x h
    · rename_i hc
      split at h
      · simp at h; subst h
        simp; exact fun e => hc e.symm
      · rename_i y r e
        rw [e] at ih
        rcases List.mem_cons.1 h with rfl | h
        · have := ih y (by simp)
          simp only [List.mem_cons, not_or]
          exact ⟨fun e => hc e.symm, this⟩
        · exact ih x (by simp [h])
/-- what lines weigh -/
def wt (xs : List By) : Nat := (xs.map fun x => x.length + 1).sum
theorem linesR_wt : ∀ l : By, wt (linesR l) = l.length + 1
  | [] => rfl
  | c :: l => by
    have ih := linesR_wt l
    unfold linesR
    split
    · simp [wt] at ih ⊢; omega
    · split
      · rename_i e; exact absurd e (linesR_ne l)
      · rename_i y r e
        rw [e] at ih
        simp [wt] at ih ⊢; omega
/-- lines, a line feed between two -/
def joinR : List By → By
  | [] => []
  | [x] => x
  | x :: y :: t => x ++ 10 :: joinR (y :: t)
theorem lib_joinR : ∀ L : List By, Lib.join L [10] = joinR L
  | [] => rfl
  | [x] => Lib.join_one x [10]
  | x :: y :: t => by
    have ih := lib_joinR (y :: t)
    unfold Lib.join at ih ⊢
    rw [joinR, ← ih]
    simp [List.intercalate]
theorem linesR_join : ∀ {L : List By}, L ≠ [] → (∀ x ∈ L, (10 : UInt8) ∉ x) → linesR (joinR L) = L
  | [], h, _ => absurd rfl h
  | [x], _, h => linesR_one (h x (by simp))
  | x :: y :: t, _, h => by
    rw [joinR, linesR_mid _ (h x (by simp)), linesR_join (by simp) (fun z hz => h z (by simp [hz]))]
theorem joinR_len : ∀ {L : List By}, L ≠ [] → (joinR L).length + 1 = wt L
  | [], h => absurd rfl h
  | [x], _ => by simp [joinR, wt]
  | x :: y :: t, _ => by
    have ih := joinR_len (L := y :: t) (by simp)
    rw [joinR]
    simp [wt] at ih ⊢; omega

/-- a rule: what it says, its pattern -/
abbrev Ru : Type := Nat × By
def headB : Nat → By
  | 1 => [115, 107, 105, 112, 32]
  | 2 => [112, 114, 101, 102, 101, 114, 32, 97, 32]
  | _ => [112, 114, 101, 102, 101, 114, 32, 98, 32]
def cutR (l : By) : Option Ru :=
  if headB 1 <+: l then some (1, l.drop 5) else if headB 2 <+: l then some (2, l.drop 9) else if headB 3 <+: l then some (3, l.drop 9) else none
def readR (l : By) (ahead : Nat) : Ru × Int := match cutR l with
  | none => ((0, []), 112)
  | some r => if 64 ≤ ahead then ((0, []), 111) else if patOK r.2 = true then (r, 0) else ((0, []), 113)
def parseL : List By → Nat → List Ru → Option (List Ru) × Nat × Int
  | [], _, acc => (some acc, 0, 0)
  | x :: xs, i, acc => if x = [] ∨ x.head? = some 35 then parseL xs (i + 1) acc else if (readR x acc.length).2 ≠ 0 then (none, i + 1, (readR x acc.length).2) else parseL xs (i + 1) (acc ++ [(readR x acc.length).1])
def parseR (l : By) : Option (List Ru) × Nat × Int := if 4000 < l.length then (none, 0, 110) else parseL (linesR l) 0 []
def lineR (r : Ru) : By := headB r.1 ++ r.2
def textR (L : List Ru) : By := joinR (L.map lineR)
/-- what Parse makes -/
def GoodR (L : List Ru) : Prop := (∀ r ∈ L, (r.1 = 1 ∨ r.1 = 2 ∨ r.1 = 3) ∧ patOK r.2 = true ∧ (10 : UInt8) ∉ r.2) ∧ L.length ≤ 64
theorem cutR_line {r : Ru} (h : r.1 = 1 ∨ r.1 = 2 ∨ r.1 = 3) : cutR (lineR r) = some r := by
  obtain ⟨k, p⟩ := r
  have e1 : headB 1 = [115, 107, 105, 112, 32] := rfl
  have e2 : headB 2 = [112, 114, 101, 102, 101, 114, 32, 97, 32] := rfl
  have e3 : headB 3 = [112, 114, 101, 102, 101, 114, 32, 98, 32] := rfl
  simp only at h
  rcases h with rfl | rfl | rfl
  · simp [cutR, lineR, e1]
  · simp [cutR, lineR, e1, e2]
  · simp [cutR, lineR, e1, e2, e3]
theorem cutR_some {l : By} {r : Ru} (h : cutR l = some r) : l = lineR r ∧ (r.1 = 1 ∨ r.1 = 2 ∨ r.1 = 3) := by
  unfold cutR at h
  split at h
  · rename_i hp
    obtain ⟨t, rfl⟩ := hp
    cases h
    simp [lineR, headB]
  · split at h
    · rename_i hp
      obtain ⟨t, rfl⟩ := hp
      cases h
      simp [lineR, headB]
    · split at h
      · rename_i hp
        obtain ⟨t, rfl⟩ := hp
        cases h
        simp [lineR, headB]
      · cases h
theorem readR_ok {l : By} {n : Nat} (h : (readR l n).2 = 0) : cutR l = some (readR l n).1 ∧ n < 64 ∧ patOK (readR l n).1.2 = true := by
  unfold readR at h ⊢
  cases e : cutR l with
  | none => rw [e] at h; simp at h
  | some r =>
    rw [e] at h
    simp only at h ⊢
    by_cases h1 : 64 ≤ n
    · rw [if_pos h1] at h; simp at h
    · rw [if_neg h1] at h ⊢
      by_cases h2 : patOK r.2 = true
      · rw [if_pos h2] at h ⊢; exact ⟨rfl, by omega, h2⟩
      · rw [if_neg h2] at h; simp at h
theorem line_head {r : Ru} : lineR r ≠ [] ∧ (lineR r).head? ≠ some 35 := by
  obtain ⟨k, p⟩ := r
  unfold lineR headB
  split <;> simp
theorem parseL_good : ∀ (xs : List By) (i : Nat) (acc L : List Ru) (k : Nat) (e : Int), GoodR acc → (∀ x ∈ xs, (10 : UInt8) ∉ x) → parseL xs i acc = (some L, k, e) → GoodR L ∧ wt (L.map lineR) ≤ wt (acc.map lineR) + wt xs ∧ k = 0 ∧ e = 0
  | [], i, acc, L, k, e, hg, _, h => by
    simp [parseL] at h
    obtain ⟨rfl, rfl, rfl⟩ := h
    exact ⟨hg, by simp [wt], rfl, rfl⟩
  | x :: xs, i, acc, L, k, e, hg, hx, h => by
    unfold parseL at h
    split at h
    · obtain ⟨h1, h2, h3⟩ := parseL_good xs _ _ _ _ _ hg (fun y hy => hx y (by simp [hy])) h
      exact ⟨h1, by simp [wt] at h2 ⊢; omega, h3⟩
    · split at h
      · cases h
      · rename_i hr
        have hr0 : (readR x acc.length).2 = 0 := by omega
        obtain ⟨r1, r2, r3⟩ := readR_ok hr0
        generalize (readR x acc.length).1 = r at *
        obtain ⟨c1, c2⟩ := cutR_some r1
        have hno := hx x (by simp)
        rw [c1] at hno
        have hg' : GoodR (acc ++ [r]) := by
          refine ⟨fun y hy => ?_, by simp; omega⟩
          rcases List.mem_append.1 hy with hy | hy
          · exact hg.1 y hy
          · simp at hy; subst hy
            exact ⟨c2, r3, fun q => hno (by unfold lineR; simp [q])⟩
        obtain ⟨h1, h2, h3⟩ := parseL_good xs _ _ _ _ _ hg' (fun y hy => hx y (by simp [hy])) h
        refine ⟨h1, ?_, h3⟩
        rw [c1]
        simp [wt] at h2 ⊢; omega
theorem parseR_good {l : By} {L : List Ru} {k : Nat} {e : Int} (h : parseR l = (some L, k, e)) : GoodR L ∧ (textR L).length ≤ l.length ∧ k = 0 ∧ e = 0 ∧ l.length ≤ 4000 := by
  unfold parseR at h
  split at h
  · cases h
  · obtain ⟨h1, h2, h3, h4⟩ := parseL_good _ _ _ _ _ _ ⟨by simp, by simp⟩ (linesR_no l) h
    refine ⟨h1, ?_, h3, h4, by omega⟩
    rw [linesR_wt] at h2
    by_cases hL : L = []
    · subst hL; simp [textR, joinR]
    · have := joinR_len (L := L.map lineR) (by simpa using hL)
      unfold textR
      simp [wt] at h2 this ⊢; omega
theorem parseL_lines : ∀ (L acc : List Ru) (i : Nat), GoodR (acc ++ L) → parseL (L.map lineR) i acc = (some (acc ++ L), 0, 0)
  | [], acc, i, _ => by simp [parseL]
  | r :: L, acc, i, h => by
    have hr := h.1 r (by simp)
    have hl := h.2
    rw [List.length_append, List.length_cons] at hl
    have e : readR (lineR r) acc.length = (r, 0) := by
      unfold readR
      rw [cutR_line hr.1]
      simp only
      rw [if_neg (by omega), if_pos hr.2.1]
    rw [List.map_cons]
    unfold parseL
    rw [if_neg (by rintro (q | q); exact line_head.1 q; exact line_head.2 q), e, if_neg (by simp)]
    rw [parseL_lines L (acc ++ [r]) (i + 1) (by simpa using h)]
    simp
/-- what Text writes Parse reads -/
theorem parseR_text {L : List Ru} (h : GoodR L) (hl : (textR L).length ≤ 4000) : parseR (textR L) = (some L, 0, 0) := by
  unfold parseR
  rw [if_neg (by omega)]
  by_cases hL : L = []
  · subst hL; rfl
  · unfold textR
    rw [linesR_join (by simpa using hL)]
    · rw [parseL_lines L [] 0 (by simpa using h)]; simp
    · intro x hx
      obtain ⟨r, hr, rfl⟩ := List.mem_map.1 hx
      have := (h.1 r hr).2.2
      unfold lineR
      simp only [List.mem_append, not_or]
      refine ⟨?_, this⟩
      unfold headB
      split <;> decide
end Go.Proofs.YtpngnhpnjkepjaaGreatDoor
