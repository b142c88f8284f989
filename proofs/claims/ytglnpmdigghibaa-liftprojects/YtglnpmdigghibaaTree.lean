/-
  THE PROGRAM's TREES: children as a tree of search, and how they lie in memory.
-/
import Derived.Test.YtglnpmdigghibaaGrows
import Derived.Test.YtglnpmdigghibaaEqual
namespace Go.Proofs.Ytglnpmdigghibaa
open Go.RowKit

theorem hid {p : Prop} (h : p) : Hid p := h
def F.depth : F → Nat
  | .nil => 0
  | .cons _ _ _ k r => max (k.depth + 1) r.depth
theorem F.app_size : ∀ f g : F, (f.app g).size = f.size + g.size
  | .nil, g => by simp [F.app, F.size]
  | .cons _ _ _ _ r, g => by rw [F.app, F.size, F.app_size r g, F.size]; omega
theorem F.app_depth : ∀ f g : F, (f.app g).depth = max f.depth g.depth
  | .nil, g => by simp [F.app, F.depth]
  | .cons _ _ _ _ r, g => by rw [F.app, F.depth, F.app_depth r g, F.depth]; omega
theorem F.app_weight : ∀ f g : F, (f.app g).weight = f.weight + g.weight
  | .nil, g => by simp [F.app, F.weight]
  | .cons _ _ _ _ r, g => by rw [F.app, F.weight, F.app_weight r g, F.weight]; omega
theorem F.size_le_weight : ∀ f : F, f.size ≤ f.weight
  | .nil => Nat.le_refl _
  | .cons _ _ _ k r => by have := F.size_le_weight k; have := F.size_le_weight r; simp only [F.size, F.weight]; omega
theorem F.depth_le_size : ∀ f : F, f.depth ≤ f.size
  | .nil => Nat.le_refl _
  | .cons _ _ _ k r => by have := F.depth_le_size k; have := F.depth_le_size r; simp only [F.size, F.depth]; omega

/-- children as a tree of search; the blocks where they lie -/
inductive K where
  | nil
  | node (q p : Nat) (nm : ByteArray) (v : Vd) (m : Md) (kids ahead behind : K)
/-- the children, in order -/
def K.flat : K → F
  | .nil => .nil
  | .node _ _ nm v m kids ah be => ah.flat.app (.cons nm v m kids.flat be.flat)
/-- a tree's 40 cells -/
def tc (v : Vd) (m : Md) (pk : Value) : Array Value := (vx v ++ (mx m ++ [pk])).toArray
/-- a child's 7 cells -/
def kc (nm : ByteArray) (p : Nat) (pa pb : Value) (n c d : Nat) : Array Value := #[.string nm, .pointer (some ⟨p, 0, none⟩), pa, pb, .int .i64 n, .int .i64 c, .int .i64 d]
theorem tc_size (v : Vd) (m : Md) (pk : Value) : (tc v m pk).size = 40 := by simp [tc, vx_len, mx_len]
theorem tc_kids (v : Vd) (m : Md) (pk : Value) : (tc v m pk)[39]? = some pk := by
  simp only [tc, List.getElem?_toArray]
  rw [List.getElem?_append_right (by simp [vx_len]), List.getElem?_append_right (by simp [vx_len, mx_len])]
  simp [vx_len, mx_len]
theorem tc_val (v : Vd) (m : Md) (pk : Value) : (tc v m pk).extract 0 35 = (vx v).toArray := by
  simp only [tc, List.extract_toArray, List.extract_eq_take_drop, List.drop_zero]
  rw [List.take_append_of_le_length (by simp [vx_len]), List.take_of_length_le (by simp [vx_len])]
theorem tc_marks (v : Vd) (m : Md) (pk : Value) : (tc v m pk).extract 35 39 = (mx m).toArray := by
  simp only [tc, List.extract_toArray, List.extract_eq_take_drop]
  rw [List.drop_append_of_le_length (by simp [vx_len]), List.drop_of_length_le (by simp [vx_len])]
  simp [mx]

def At (w : World) : K → Value → Prop
  | .nil, u => u = .pointer none
  | .node q p nm v m kids ah be, u => u = .pointer (some ⟨q, 0, none⟩) ∧ ∃ pk pa pb, (Lies w q 0 (kc nm p pa pb (K.node q p nm v m kids ah be).flat.len (K.node q p nm v m kids ah be).flat.size (K.node q p nm v m kids ah be).flat.depth) ∧ Lies w p 0 (tc v m pk)) ∧ At w kids pk ∧ At w ah pa ∧ At w be pb
/-- a tree: its value, its marks, its children -/
def AtT (w : World) (p : Nat) (v : Vd) (m : Md) (k : K) : Prop := ∃ pk, Lies w p 0 (tc v m pk) ∧ At w k pk
theorem At.grow {w w' : World} (hg : G w w') : ∀ {k : K} {u : Value}, At w k u → At w' k u
  | .nil, _, h => h
  | .node _ _ _ _ _ _ _ _, _, ⟨h1, pk, pa, pb, ⟨h2, h3⟩, h4, h5, h6⟩ => ⟨h1, pk, pa, pb, ⟨hg.lies h2, hg.lies h3⟩, At.grow hg h4, At.grow hg h5, At.grow hg h6⟩
theorem AtT.grow {w w' : World} {p : Nat} {v : Vd} {m : Md} {k : K} (hg : G w w') (h : AtT w p v m k) : AtT w' p v m k := by
  obtain ⟨pk, h1, h2⟩ := h
  exact ⟨pk, hg.lies h1, h2.grow hg⟩
theorem At.form {w : World} {k : K} {u : Value} (h : At w k u) : ∃ a, u = .pointer a := by
  cases k with
  | nil => exact ⟨none, h⟩
  | node => exact ⟨_, h.1⟩
theorem lies_cell {w : World} {g : Nat} {c : Array Value} (h : Lies w g 0 c) (j : Nat) (u : Value) (hj : c[j]? = some u) : w.cell? ⟨g, j, none⟩ = some u := by
  have := h j u hj
  rwa [Nat.zero_add] at this

set_option maxRecDepth 100000 in
theorem many2_any (k : K) (u : Value) (w : World) (h : At w k u) : Calls Try.prog 49 #[u] w fun e w' => e = .returned (.int .i64 k.flat.len) ∧ w' = w := by
  cases k with
  | nil =>
    obtain rfl := h
    go_enter Try.func49, Try.ntmps49
    go_wp2
    go_ret
    exact ⟨rfl, rfl⟩
  | node q p nm v m kids ah be =>
    obtain ⟨rfl, pk, pa, pb, ⟨h2, h3⟩, _⟩ := h
    have c4 := lies_cell h2 4 _ rfl
    generalize (K.node q p nm v m kids ah be).flat.len = n at *
    go_enter Try.func49, Try.ntmps49
    go_wp2
    go_ret
    exact ⟨rfl, rfl⟩
set_option maxRecDepth 100000 in
theorem things_any (k : K) (u : Value) (w : World) (h : At w k u) : Calls Try.prog 52 #[u] w fun e w' => e = .returned (.int .i64 k.flat.size) ∧ w' = w := by
  cases k with
  | nil =>
    obtain rfl := h
    go_enter Try.func52, Try.ntmps52
    go_wp2
    go_ret
    exact ⟨rfl, rfl⟩
  | node q p nm v m kids ah be =>
    obtain ⟨rfl, pk, pa, pb, ⟨h2, h3⟩, _⟩ := h
    have c4 := lies_cell h2 5 _ rfl
    generalize (K.node q p nm v m kids ah be).flat.size = n at *
    go_enter Try.func52, Try.ntmps52
    go_wp2
    go_ret
    exact ⟨rfl, rfl⟩
set_option maxRecDepth 100000 in
theorem levels_any (k : K) (u : Value) (w : World) (h : At w k u) : Calls Try.prog 53 #[u] w fun e w' => e = .returned (.int .i64 k.flat.depth) ∧ w' = w := by
  cases k with
  | nil =>
    obtain rfl := h
    go_enter Try.func53, Try.ntmps53
    go_wp2
    go_ret
    exact ⟨rfl, rfl⟩
  | node q p nm v m kids ah be =>
    obtain ⟨rfl, pk, pa, pb, ⟨h2, h3⟩, _⟩ := h
    have c4 := lies_cell h2 6 _ rfl
    generalize (K.node q p nm v m kids ah be).flat.depth = n at *
    go_enter Try.func53, Try.ntmps53
    go_wp2
    go_ret
    exact ⟨rfl, rfl⟩
set_option maxRecDepth 100000 in
theorem addN_any (a b : Nat) (w : World) (h : a + b ≤ 9223372036854775807) : Calls Try.prog 50 #[.int .i64 a, .int .i64 b] w fun e w' => e = .returned (.int .i64 ((a + b : Nat) : Int)) ∧ w' = w := by
  have h1 : IntKind.i64.wrap (9223372036854775807 - (b : Int)) = 9223372036854775807 - (b : Int) := by rw [IntKind.wrap_i64]; omega
  have h2 : IntKind.i64.wrap ((a : Int) + (b : Int)) = (a : Int) + (b : Int) := by rw [IntKind.wrap_i64]; omega
  have h3 : ¬ (9223372036854775807 - (b : Int) < (a : Int)) := by omega
  go_enter Try.func50, Try.ntmps50
  go_wp2
  go_ret
  exact ⟨by simp, rfl⟩
end Go.Proofs.Ytglnpmdigghibaa
