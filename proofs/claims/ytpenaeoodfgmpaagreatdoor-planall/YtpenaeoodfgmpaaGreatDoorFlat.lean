/-
  Rows of structs: their cells one behind the other.
-/
import Derived.Test.YtpenaeoodfgmpaaGreatDoorAcct
import Derived.Laws.CopyRow
namespace Go.Proofs.YtpenaeoodfgmpaaGreatDoor
open Go.RowKit

def flat {α : Type} (f : α → Array Value) (L : List α) : List Value := (L.map fun x => (f x).toList).flatten
theorem flat_cons {α : Type} (f : α → Array Value) (x : α) (L : List α) : flat f (x :: L) = (f x).toList ++ flat f L := rfl
theorem flat_len {α : Type} {f : α → Array Value} {s : Nat} (hs : ∀ x, (f x).size = s) : ∀ L : List α, (flat f L).length = L.length * s
  | [] => by simp [flat]
  | x :: L => by
    rw [flat_cons, List.length_append, flat_len hs L, List.length_cons, Nat.add_mul]
    have := hs x
    simp; omega
theorem flat_at {α : Type} {f : α → Array Value} {s : Nat} (hs : ∀ x, (f x).size = s) : ∀ {L : List α} {i : Nat} {x : α} {j : Nat}, L[i]? = some x → j < s → (flat f L)[i * s + j]? = (f x)[j]?
  | [], i, x, j, h, hj => by simp at h
  | y :: L, i, x, j, h, hj => by
    rw [flat_cons]
    have hy : (f y).toList.length = s := by simp [hs y]
    cases i with
    | zero => simp at h; subst h; rw [Nat.zero_mul, Nat.zero_add, List.getElem?_append_left (by omega)]; simp
    | succ i =>
      rw [List.getElem?_append_right (by rw [hy, Nat.add_mul]; omega), hy, show (i + 1) * s + j - s = i * s + j by rw [Nat.add_mul]; omega]
      exact flat_at hs (by simpa using h) hj
theorem flat_app {α : Type} (f : α → Array Value) (L M : List α) : flat f (L ++ M) = flat f L ++ flat f M := by simp [flat]
theorem flat_snoc {α : Type} (f : α → Array Value) (L : List α) (x : α) : flat f (L ++ [x]) = flat f L ++ (f x).toList := by simp [flat]
theorem flat_set {α : Type} {f : α → Array Value} {s : Nat} (hs : ∀ x, (f x).size = s) : ∀ {L : List α} {i : Nat} {x x' : α} {j : Nat} {y : Value}, L[i]? = some x → j < s → f x' = (f x).setIfInBounds j y → (flat f L).set (i * s + j) y = flat f (L.set i x')
  | [], i, x, x', j, y, h, hj, e => by simp at h
  | z :: L, i, x, x', j, y, h, hj, e => by
    have hy : (f z).toList.length = s := by simp [hs z]
    cases i with
    | zero =>
      simp at h; subst h
      rw [flat_cons, List.set_cons_zero, flat_cons, e, Nat.zero_mul, Nat.zero_add, List.set_append_left _ _ (by omega)]
      simp
    | succ i =>
      rw [flat_cons, List.set_cons_succ, flat_cons, List.set_append_right _ _ (by rw [hy, Nat.add_mul]; omega), hy, show (i + 1) * s + j - s = i * s + j by rw [Nat.add_mul]; omega, flat_set hs (by simpa using h) hj e]
theorem flat_one {α : Type} {f : α → Array Value} (h1 : ∀ x, (f x).all (·.oneCell') = true) (L : List α) : ∀ v ∈ flat f L, v.oneCell' = true := by
  intro v hv
  simp only [flat, List.mem_flatten, List.mem_map] at hv
  obtain ⟨_, ⟨x, _, rfl⟩, hv⟩ := hv
  exact (Array.all_eq_true_iff_forall_mem.1 (h1 x)) v (by simpa using hv)
theorem cc_size (c : Cd) : (cc c).size = 10 := rfl
theorem ic_size (c : It) : (ic c).size = 7 := rfl

/-- a row that is known whole -/
def RowC (w : World) (h : Nat) (M : List Cd) : Prop := w.heap[h]? = some (.cells (flat cc M).toArray 62 (0, 0))
theorem RowC.lies {w : World} {h : Nat} {M : List Cd} (hr : RowC w h M) {i : Nat} {c : Cd} (hi : M[i]? = some c) : Lies w h (0 + i * 10) (cc c) := by
  intro j u hj
  have hj' : j < 10 := by have := (Array.getElem?_eq_some_iff.1 hj).1; simpa [cc_size] using this
  rw [cell_of_row w h _ _ _ _ hr]
  rw [Nat.zero_add]
  simp only [List.getElem?_toArray]
  rw [flat_at cc_size hi hj']
  exact hj
theorem RowC.frozen {w : World} {h : Nat} {M : List Cd} (hr : RowC w h M) (j : Nat) : w.frozen? ⟨h, j, none⟩ = false := frozen_of_row w h j _ _ hr
theorem RowC.set {w : World} {h : Nat} {M : List Cd} (hr : RowC w h M) {i j : Nat} {c c' : Cd} {y : Value} (hi : M[i]? = some c) (hj : j < 10) (e : cc c' = (cc c).setIfInBounds j y) : RowC (w.setCell ⟨h, i * 10 + j, none⟩ y) h (M.set i c') := by
  unfold RowC at *
  rw [heap_setCell_same w h _ _ _ _ hr, ← flat_set cc_size hi hj e]
  simp
theorem RowC.drewN {w : World} {h : Nat} {M : List Cd} (hr : RowC w h M) (n : Nat) : RowC (w.drewN n) h M := by unfold RowC at *; simpa using hr
theorem RowC.has {w : World} {h : Nat} {M : List Cd} (hr : RowC w h M) (hk : ∀ c ∈ M, c.ok) {n : Nat} (hn : M.length = n) : HasC w (.slice (some ⟨h, 0, none⟩) n n) M :=
  ⟨some ⟨h, 0, none⟩, n, by rw [hn], fun i c hi => ⟨h, 0, rfl, hr.lies hi⟩, hk⟩
theorem RowC.keep {w w' : World} {h : Nat} {M : List Cd} (hr : RowC w h M) (hb : G w w') : RowC w' h M := (hb.block h (Array.getElem?_eq_some_iff.1 hr).1).trans hr

/-- copy of elements of any size onto a row that is known whole -/
theorem run_copy_rowK {P : Program} (w : World) (dT sT ty elem : TypeId) (g o dLen dCap : Nat) (a : Addr) (sLen sCap k : Nat) (cur : Array Value) (t : TypeId) (cs : List Value)
    (hu : P.underlying dT = some (.slice elem)) (hs : (P.info? elem).map (·.size) = some k)
    (hg : w.heap[g]? = some (.cells cur t (0, 0))) (hn : cs.length = Nat.min sLen dLen * k)
    (hsrc : ∀ j v, cs[j]? = some v → w.cell? (a.add j) = some v) (hfit : o + cs.length ≤ cur.size) (h1 : ∀ v ∈ cs, v.oneCell' = true) :
    (Builtin.copy_ #[dT, sT] ty #[.slice (some ⟨g, o, none⟩) dLen dCap, .slice (some a) sLen sCap]).run P w =
      .ok (goInt (Nat.min sLen dLen)) (w.setRow g (cur.toList.take o ++ cs ++ cur.toList.drop (o + cs.length)).toArray) := by
  have hl := run_loadCells_list (P := P) w a cs hsrc
  have hst := run_storeCells_at P g o t cs 0 cur w hg (by simpa using hfit) h1
  cases hq : P.info? elem with
  | none => simp [hq] at hs
  | some i =>
    have hi : i.size = k := by simpa [hq] using hs
    simp [Builtin.copy_, run_underlying hu, Builtin.lenOf, Builtin.firstCells, sizeOf, typeInfo, hq, hi, ← hn, hl, hst]
theorem run_copy_noneK {P : Program} (w : World) (dT sT ty elem : TypeId) (d a : Option Addr) (dLen dCap sLen sCap k : Nat) (hu : P.underlying dT = some (.slice elem)) (hs : (P.info? elem).map (·.size) = some k) (hn : Nat.min sLen dLen = 0) :
    (Builtin.copy_ #[dT, sT] ty #[.slice d dLen dCap, .slice a sLen sCap]).run P w = .ok (goInt 0) w := by
  cases hq : P.info? elem with
  | none => simp [hq] at hs
  | some i =>
    have hl : ∀ (x : Addr), (loadCells x 0).run P w = .ok #[] w := fun x => by simpa using run_loadCells_list (P := P) w x [] (by simp)
    cases d <;> cases a <;> simp [Builtin.copy_, run_underlying hu, Builtin.lenOf, Builtin.firstCells, sizeOf, typeInfo, hq, hn, storeCells, hl]
end Go.Proofs.YtpenaeoodfgmpaaGreatDoor
