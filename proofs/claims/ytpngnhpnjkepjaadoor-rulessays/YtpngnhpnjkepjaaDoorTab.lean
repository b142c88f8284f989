/-
  THE TABLE OF A MATCHING, in Lean alone; a table's row; signs that can be read.
-/
import Derived.Test.YtpngnhpnjkepjaaDoorRefSigns
import Derived.Deep.OwnRows
namespace Go.Proofs.YtpngnhpnjkepjaaDoor
open Go.RowKit

/-- do the signs from i on fit the things from j on? -/
def tabF {α β : Type} (ok : β → α → Bool) (K : List (Option β)) (N : List α) (i j : Nat) : Bool := fitG ok (K.drop i) (N.drop j)
variable {α β : Type} {ok : β → α → Bool} {K : List (Option β)} {N : List α}
theorem tabF_zero : tabF ok K N 0 0 = fitG ok K N := by simp [tabF]
theorem tabF_last {j : Nat} (hj : j ≤ N.length) : tabF ok K N K.length j = decide (j = N.length) := by
  unfold tabF
  rw [List.drop_length, fitG]
  by_cases h : j = N.length
  · subst h; simp
  · rw [decide_eq_false h]
    cases e : N.drop j with
    | nil => rw [List.drop_eq_nil_iff] at e; omega
    | cons x xs => rfl
theorem tabF_star {i j : Nat} (hi : K[i]? = some none) (hj : j < N.length) : tabF ok K N i j = (tabF ok K N (i + 1) j || tabF ok K N i (j + 1)) := by
  obtain ⟨hi1, hi2⟩ := List.getElem?_eq_some_iff.1 hi
  unfold tabF
  rw [List.drop_eq_getElem_cons hi1, hi2, List.drop_eq_getElem_cons hj, fitG, fitG, starB]
theorem tabF_star_end {i : Nat} (hi : K[i]? = some none) : tabF ok K N i N.length = tabF ok K N (i + 1) N.length := by
  obtain ⟨hi1, hi2⟩ := List.getElem?_eq_some_iff.1 hi
  unfold tabF
  rw [List.drop_eq_getElem_cons hi1, hi2, List.drop_length, fitG, starB]
theorem tabF_lit {i j : Nat} {b : β} {x : α} (hi : K[i]? = some (some b)) (hj : N[j]? = some x) : tabF ok K N i j = (ok b x && tabF ok K N (i + 1) (j + 1)) := by
  obtain ⟨hi1, hi2⟩ := List.getElem?_eq_some_iff.1 hi
  obtain ⟨hj1, hj2⟩ := List.getElem?_eq_some_iff.1 hj
  unfold tabF
  rw [List.drop_eq_getElem_cons hi1, hi2, List.drop_eq_getElem_cons hj1, hj2, fitG]
theorem tabF_lit_end {i : Nat} {b : β} (hi : K[i]? = some (some b)) : tabF ok K N i N.length = false := by
  obtain ⟨hi1, hi2⟩ := List.getElem?_eq_some_iff.1 hi
  unfold tabF
  rw [List.drop_eq_getElem_cons hi1, hi2, List.drop_length, fitG]

/-- signs that can be read -/
def HasK (w : World) (v : Value) (K : List Sg) : Prop :=
  (v = .slice none 0 0 ∧ K = []) ∨ ∃ g cap, v = .slice (some ⟨g, 0, none⟩) K.length cap ∧ ∀ i k, K[i]? = some k → ∀ j u, (sgc k)[j]? = some u → w.cell? ⟨g, i * 3 + j, none⟩ = some u
theorem sgcs_at : ∀ (K : List Sg) (i : Nat) (k : Sg), K[i]? = some k → ∀ j u, (sgc k)[j]? = some u → (sgcs K)[i * 3 + j]? = some u
  | [], i, k, h, _, _, _ => by simp at h
  | k0 :: K, i, k, h, j, u, hu => by
    have hj : j < 3 := by
      obtain ⟨h1, _⟩ := List.getElem?_eq_some_iff.1 hu
      rw [sgc_len] at h1; exact h1
    show (sgc k0 ++ sgcs K)[i * 3 + j]? = _
    cases i with
    | zero =>
      simp at h; subst h
      rw [List.getElem?_append_left (by rw [sgc_len]; omega), Nat.zero_mul, Nat.zero_add]; exact hu
    | succ i =>
      rw [List.getElem?_append_right (by rw [sgc_len]; omega), sgc_len, show (i + 1) * 3 + j - 3 = i * 3 + j from by omega]
      exact sgcs_at K i k (by simpa using h) j u hu
theorem OwnsK.has {w : World} {lo : Nat} {v : Value} {K : List Sg} (h : OwnsK w lo v K) : HasK w v K := by
  have h0 := h
  obtain ⟨_, h | ⟨g, cap, cur, hv, hg, hh, hn, hm, hs, ht⟩⟩ := h
  · obtain ⟨rfl, hl⟩ := h
    exact .inl ⟨rfl, List.length_eq_zero_iff.1 hl⟩
  · subst hv
    refine .inr ⟨_, cap, rfl, fun i k hi j u hu => ?_⟩
    have h1 := World.ownsRow.cells h0 (g := g) rfl _ u (sgcs_at K i k hi j u hu)
    rwa [show (⟨g, 0, none⟩ : Addr).add (i * 3 + j) = ⟨g, i * 3 + j, none⟩ from by
      unfold Addr.add; split
      · rename_i e; rw [e]
      · simp] at h1
theorem HasK.form {w : World} {v : Value} {l : List Sg} (h : HasK w v l) : ∃ ao cap, v = .slice ao l.length cap := by
  rcases h with ⟨rfl, rfl⟩ | ⟨a, cap, rfl, _⟩
  · exact ⟨none, 0, rfl⟩
  · exact ⟨some ⟨a, 0, none⟩, cap, rfl⟩
theorem HasK.at {w : World} {v : Value} {l : List Sg} (h : HasK w v l) {i : Nat} {k : Sg} (hk : l[i]? = some k) : ∃ g cap, v = .slice (some ⟨g, 0, none⟩) l.length cap ∧ ∀ j u, (sgc k)[j]? = some u → w.cell? ⟨g, i * 3 + j, none⟩ = some u := by
  rcases h with ⟨_, rfl⟩ | ⟨a, cap, rfl, hc⟩
  · simp at hk
  · exact ⟨a, cap, rfl, hc i k hk⟩
theorem HasK.below {w w' : World} {v : Value} {l : List Sg} (h : HasK w v l) (hb : Below w.heap.size w w') : HasK w' v l := by
  rcases h with h | ⟨a, cap, hv, h⟩
  · exact .inl h
  · refine .inr ⟨a, cap, hv, fun i k hi j u hu => ?_⟩
    have h1 := h i k hi j u hu
    rw [hb.cell (World.block_lt_of_cell? w _ h1)]
    exact h1

/-- a table's row -/
def Row (w : World) (B n : Nat) (f : Nat → Bool) : Prop := w.rowIs B 4 (n + 1) (fun j => .bool (f j))
theorem Row.congr {w : World} {B n : Nat} {f g : Nat → Bool} (h : Row w B n f) (e : ∀ j, j ≤ n → f j = g j) : Row w B n g := World.rowIs.congr h (fun i hi => by rw [e i (by omega)])
theorem Row.cell {w : World} {B n : Nat} {f : Nat → Bool} (h : Row w B n f) {k : Nat} (hk : k ≤ n) : w.cell? ⟨B, k, none⟩ = some (.bool (f k)) := World.rowIs.cell h (by omega)
theorem Row.frozen {w : World} {B n : Nat} {f : Nat → Bool} (h : Row w B n f) (k : Nat) : w.frozen? ⟨B, k, none⟩ = false := World.rowIs.frozen h k
theorem Row.set {w : World} {B n : Nat} {f : Nat → Bool} (h : Row w B n f) (k : Nat) (b : Bool) : Row (w.setCell ⟨B, k, none⟩ (.bool b)) B n (fun j => if j = k then b else f j) := by
  refine World.rowIs.congr (World.rowIs.set h k (.bool b)) (fun i _ => ?_)
  show (if i = k then Value.bool b else _) = Value.bool (if i = k then b else f i)
  split <;> rfl
theorem Row.made (w : World) (n : Nat) : Row (w.alloc (.cells (madeCells #[.bool false] (n + 1)) 4)) w.heap.size n (fun _ => false) := World.rowIs_made w (.bool false) (n + 1) 4
/-- a row filled from k on; one entry more -/
theorem Row.step {w : World} {B n k : Nat} {f : Nat → Bool} {b : Bool} (h : Row w B n (fun j => if k + 1 ≤ j then f j else false)) (hb : f k = b) : Row (w.setCell ⟨B, k, none⟩ (.bool b)) B n (fun j => if k ≤ j then f j else false) := by
  refine (h.set k b).congr (fun j _ => ?_)
  show (if j = k then b else if k + 1 ≤ j then f j else false) = _
  by_cases e : j = k
  · subst e; simp [hb]
  · by_cases q : k + 1 ≤ j
    · simp [e, q, show k ≤ j from by omega]
    · simp [e, q, show ¬ k ≤ j from by omega]
end Go.Proofs.YtpngnhpnjkepjaaDoor
