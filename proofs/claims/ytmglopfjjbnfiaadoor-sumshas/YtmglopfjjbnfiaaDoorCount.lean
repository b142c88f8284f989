/-
  twineroom's Count by contract; a script of operations that came in.
-/
import Derived.Test.YtmglopfjjbnfiaaDoorSide
namespace Go.Proofs.YtmglopfjjbnfiaaDoor
open Go.RowKit

def CountAt (w : World) (C : Nat) (left : Int) : Prop := w.heap[C]? = some (.cells #[.int .i64 left] 92 (0, 0))

set_option maxHeartbeats 800000 in
set_option maxRecDepth 100000 in
theorem many_any (w : World) : Calls Tryd.prog 23 #[.int .i64 32768] w fun e w' => e = .returned (.pointer (some ⟨w.heap.size, 0, none⟩)) ∧ CountAt w' w.heap.size 32768 ∧ Below w.heap.size w w' := by
  go_enter Tryd.func23, Tryd.ntmps23
  go_wp2
  go_ret
  exact ⟨rfl, heap_alloc_new _ _, (Below.refl _ w).alloc (Nat.le_refl _) _⟩

set_option maxHeartbeats 800000 in
set_option maxRecDepth 100000 in
theorem ok_any (C : Nat) (left : Int) (w : World) (h : CountAt w C left) : Calls Tryd.prog 24 #[.pointer (some ⟨C, 0, none⟩)] w fun e w' => e = .returned (.bool (decide (0 ≤ left))) ∧ w = w' := by
  have hc : w.cell? ⟨C, 0, none⟩ = some (.int .i64 left) := cell_of_row _ _ 0 _ _ _ h
  clear h
  go_enter Tryd.func24, Tryd.ntmps24
  go_wp2
  go_ret
  exact ⟨rfl, rfl⟩

set_option maxHeartbeats 800000 in
set_option maxRecDepth 100000 in
theorem cadd_any (C : Nat) (left q r : Int) (w : World) (h : CountAt w C left) (h0 : 0 ≤ left) (hr : IntKind.i64.wrap (left - q) = r) : Calls Tryd.prog 25 #[.pointer (some ⟨C, 0, none⟩), .int .i64 q] w fun e w' => (∃ q, e = .returned (.bool q)) ∧ CountAt w' C r ∧ But C w w' := by
  have hc : w.cell? ⟨C, 0, none⟩ = some (.int .i64 left) := cell_of_row _ _ 0 _ _ _ h
  have hf : w.frozen? ⟨C, 0, none⟩ = false := frozen_of_row _ _ 0 _ _ h
  have HN : Hid (CountAt (w.setCell ⟨C, 0, none⟩ (.int .i64 r)) C r ∧ But C w (w.setCell ⟨C, 0, none⟩ (.int .i64 r))) := by
    refine ⟨?_, (But.refl C w).setCell 0 _⟩
    unfold CountAt
    rw [heap_setCell_same _ _ _ _ _ _ h]; rfl
  have hc2 : (w.setCell ⟨C, 0, none⟩ (.int .i64 r)).cell? ⟨C, 0, none⟩ = some (.int .i64 r) := World.cell?_setCell_same _ _ _ hc
  clear h
  go_enter Tryd.func25, Tryd.ntmps25
  go_wp2
  go_ret
  exact ⟨⟨_, rfl⟩, HN.out⟩

/-- An operation of a script. -/
structure OpD where
  kind : Int
  which : Int
  bv : Value
  ob : List Nat
  pc : List Nat

/-- A slice's value holds these operations. -/
def HasOps (w : World) (v : Value) (l : List OpD) : Prop :=
  ∃ ao cap, v = .slice ao l.length cap ∧ ∀ (i : Nat) (x : OpD), l[i]? = some x → ∃ g o, ao = some ⟨g, o, none⟩ ∧
    (∀ j y, (opCells x.kind x.which x.bv x.pc)[j]? = some y → w.cell? ⟨g, o + i * 35 + j, none⟩ = some y) ∧ Has w x.bv x.ob ∧ Bytes x.ob ∧ x.pc.length = 32 ∧ Bytes x.pc ∧ x.ob.length ≤ 9223372036854775807

def weight : List OpD → Nat
  | [] => 0
  | x :: l => 1 + x.ob.length + weight l
theorem weight_snoc (l : List OpD) (k : Nat) (x : OpD) (h : l[k]? = some x) : weight (l.take (k + 1)) = weight (l.take k) + (1 + x.ob.length) := by
  induction l generalizing k with
  | nil => simp at h
  | cons y l ih =>
    cases k with
    | zero => simp at h; subst h; simp [weight]
    | succ k =>
      have := ih k (by simpa using h)
      simp only [List.take_succ_cons, weight]
      omega
theorem weight_le (l : List OpD) (k : Nat) : weight (l.take k) ≤ weight l := by
  induction l generalizing k with
  | nil => simp [weight]
  | cons y l ih =>
    cases k with
    | zero => simp [weight]
    | succ k => have := ih k; simp only [List.take_succ_cons, weight]; omega
theorem weight_mem (l : List OpD) (k : Nat) (x : OpD) (h : l[k]? = some x) : x.ob.length ≤ weight l := by
  have h1 := weight_snoc l k x h
  have h2 := weight_le l (k + 1)
  omega
end Go.Proofs.YtmglopfjjbnfiaaDoor
