/-
  How many words, how long they are.
-/
import Derived.Test.YtfigneaaeakbcaaDoorCz
import Derived.Test.YtfigneaaeakbcaaDoorLn
namespace Go.Proofs.YtfigneaaeakbcaaDoor
open Go

theorem run_ok (line : By) (a : Nat) : ∀ (r : By) (i : Nat) (x : Cs), CsOk x i → CsOk (runC line a r i x) (i + r.length)
  | [], i, x, h => h
  | c :: r, i, x, h => by
    rw [runC]
    split
    · exact h.mono (by simp)
    · have := run_ok line a r (i + 1) _ (next_ok (line := line) (a := a) (c := c.toNat) h)
      rw [List.length_cons, show i + (r.length + 1) = i + 1 + r.length by omega]
      exact this
theorem wds_len (line : By) (a : Nat) : (wds line a).length ≤ line.length + 1 := by
  have := (run_ok line a line 0 ⟨0, 0, [], []⟩ ⟨by simp, by simp, by simp, by simp⟩).nw
  unfold wds wOf closeC leaveC spoilC layC
  split
  · simp; omega
  · split
    · simp; omega
    · omega
def TxOk (n : Nat) (x : Cs) : Prop := ∀ y ∈ x.ws, y.text.length ≤ n
theorem next_tx {line : By} {a i c : Nat} {x : Cs} (h : TxOk line.length x) (ho : CsOk x i) (hi : i ≤ line.length) : TxOk line.length (nextC line a i c x) := by
  have hl : ∀ (k : Nat) (t : By) (j : Nat), t.length ≤ line.length → TxOk line.length (layC x a k t j) := fun k t j ht y hy => by
    simp only [layC, List.mem_append, List.mem_singleton] at hy
    rcases hy with hy | rfl
    · exact h y hy
    · exact ht
  have hv : ∀ k, TxOk line.length (leaveC line a i k x) := fun k => by
    unfold leaveC
    split
    · exact hl _ _ _ (by simp; omega)
    · exact h
  have hs := ho.ns
  unfold nextC
  split
  · unfold quoC
    split
    · exact hl _ _ _ (by omega)
    · split
      · exact h
      · split
        · exact hl _ _ _ (by simp)
        · exact h
  · split
    · unfold escC
      split
      · exact h
      · split
        · exact h
        · exact hl _ _ _ (by simp)
    · split
      · unfold digC
        split
        · exact hl _ _ _ (by simp)
        · exact h
      · unfold bareC
        split
        · exact hv 0
        · split
          · exact hv 6
          · split
            · exact hv 2
            · split
              · exact h
              · exact h
theorem run_tx (line : By) (a : Nat) : ∀ (r : By) (i : Nat) (x : Cs), TxOk line.length x → CsOk x i → i + r.length ≤ line.length → TxOk line.length (runC line a r i x)
  | [], i, x, h, _, _ => h
  | c :: r, i, x, h, ho, hi => by
    rw [runC]
    simp only [List.length_cons] at hi
    split
    · exact h
    · exact run_tx line a r (i + 1) _ (next_tx h ho (by omega)) (next_ok ho) (by omega)
theorem wds_tx (line : By) (a : Nat) : ∀ y ∈ wds line a, y.text.length ≤ line.length := by
  have h := run_tx line a line 0 ⟨0, 0, [], []⟩ (by intro y hy; cases hy) ⟨by simp, by simp, by simp, by simp⟩ (by omega)
  intro y hy
  unfold wds wOf closeC leaveC spoilC layC at hy
  split at hy
  · simp only [List.mem_append, List.mem_singleton] at hy
    rcases hy with hy | rfl
    · exact h y hy
    · simp
  · split at hy
    · simp only [List.mem_append, List.mem_singleton] at hy
      rcases hy with hy | rfl
      · exact h y hy
      · simp
    · exact h y hy
/-- words of lines that have come -/
def wpre (pre : List (Nat × ByteArray)) : List W := (pre.map fun x => wds (tl x.2) x.1).flatten
theorem wpre_snoc (pre : List (Nat × ByteArray)) (x : Nat × ByteArray) : wpre (pre ++ [x]) = wpre pre ++ wds (tl x.2) x.1 := by simp [wpre]
theorem wpre_len : ∀ (L : List ByteArray) (a : Nat), (wpre (plc a L)).length ≤ wt (L.map tl)
  | [], _ => by simp [wpre, plc]
  | s :: r, a => by
    have := wpre_len r (a + s.size + 1)
    have h2 := wds_len (tl s) a
    simp only [wpre, plc, List.map_cons, List.flatten_cons, List.length_append, wt, List.sum_cons] at this ⊢
    omega
theorem wpre_pre {pre q : List (Nat × ByteArray)} (h : pre <+: q) : (wpre pre).length ≤ (wpre q).length := by
  obtain ⟨t, rfl⟩ := h
  simp [wpre]
theorem wt_mem : ∀ (L : List By) (x : By), x ∈ L → x.length + 1 ≤ wt L
  | y :: L, x, h => by
    rcases List.mem_cons.1 h with rfl | h
    · simp [wt]
    · have := wt_mem L x h
      simp [wt] at this ⊢; omega
theorem atW_tx : ∀ (L : List By) (a : Nat) (y : W), y ∈ atW a L → y.text.length ≤ wt L
  | [], _, _, h => by cases h
  | l :: r, a, y, h => by
    rw [atW, List.mem_append] at h
    rcases h with h | h
    · have := wds_tx l a y h
      have := wt_mem (l :: r) l (by simp)
      omega
    · have := atW_tx r _ y h
      simp [wt] at this ⊢; omega
theorem wpre_all (s : ByteArray) : wpre (plc 0 (linesB s)) = atW 0 (linesR (tl s)) := by
  unfold wpre
  rw [plc_words, linesB_tl]
end Go.Proofs.YtfigneaaeakbcaaDoor
