/-
  WireMany: a pair that is made, in its box.
-/
import Derived.Test.YthpelabmfpogbaaGreatDoorManyX
namespace Go.Proofs.YthpelabmfpogbaaGreatDoor
open Go.RowKit Wire Bk

theorem below0 (w : World) : Below w.heap.size w w := Below.refl _ _
theorem below1 (w : World) (o : Obj) : Below w.heap.size w (w.alloc o) := (Below.refl _ _).alloc (Nat.le_refl _) _

theorem has_cut {w : World} {ab A : Option Addr} {cb m : Nat} {bl : List Int} (h : Has w (.slice ab bl.length cb) bl) (hm : m ≤ bl.length) (hA : (if cb = m then ab else ab.map (·.add m)) = A) : Has w (.slice A (bl.length - m) (cb - m)) (bl.drop m) := by
  obtain ⟨_, _, hv, hc⟩ := h.form
  simp only [Value.slice.injEq] at hv
  obtain ⟨-, -, rfl⟩ := hv
  by_cases e : cb = m
  · rw [show bl.length - m = 0 by omega, show cb - m = 0 by omega]
    exact has_gone (by omega)
  · rw [if_neg e] at hA
    rcases ab with _ | a
    · exfalso
      rcases h with ⟨h, _⟩ | ⟨a, cap, h, _⟩
      · simp only [Value.slice.injEq] at h; omega
      · simp at h
    · subst hA
      exact has_rest h hm

/-- The new box of a pair. -/
def BoxAt (w : World) (b : Nat) : Prop := w.heap[b]? = some (.cells #[.pointer none, .pointer none] 63)
theorem boxed {w w' : World} (hb : Below (w.alloc (.cells #[.pointer none, .pointer none] 63)).heap.size (w.alloc (.cells #[.pointer none, .pointer none] 63)) w') : BoxAt w' w.heap.size :=
  (hb.block _ (by simp)).trans (heap_alloc_new _ _)
theorem BoxAt.up {w w' : World} {b : Nat} (h : BoxAt w b) (hb : Below w.heap.size w w') : BoxAt w' b :=
  (hb.block b (Array.getElem?_eq_some_iff.1 h).1).trans h
theorem BoxAt.facts {w : World} {b : Nat} (h : BoxAt w b) : w.cell? ⟨b, 0, none⟩ = some (.pointer none) ∧ w.cell? ⟨b, 1, none⟩ = some (.pointer none) ∧ w.frozen? ⟨b, 0, none⟩ = false ∧ w.frozen? ⟨b, 1, none⟩ = false := by
  unfold BoxAt at h
  refine ⟨?_, ?_, ?_, ?_⟩ <;> simp [World.cell?, World.frozen?, h]

/-- A pair is made, and lies in its box bx. -/
structure Made (w wz : World) (bx R M : Nat) (l : List Int) : Prop where
  bel : Below w.heap.size w wz
  rd : ∃ a c, w.heap.size ≤ a ∧ a ≤ R ∧ R < c ∧ c ≤ M ∧ Rdr wz a R l 0 0 0 ∧ RfS wz c M l ⟨0, 0, 0⟩
  box : wz.heap[bx]? = some (.cells #[.pointer (some ⟨R, 0, none⟩), .pointer (some ⟨M, 0, none⟩)] 63)

theorem made_new {w w1 w2 : World} {R M a c : Nat} {l : List Int} (b1 : Below w.heap.size w w1) (b2 : Below w1.heap.size w1 w2) (ha : w.heap.size ≤ a) (haR : a ≤ R) (hRc : R < c) (hcM : c ≤ M) (h1 : Rdr w1 a R l 0 0 0) (h2 : RfS w2 c M l ⟨0, 0, 0⟩) :
    Made w (w2.alloc (.cells #[.pointer (some ⟨R, 0, none⟩), .pointer (some ⟨M, 0, none⟩)] 63)) w2.heap.size R M l := by
  have b3 := below1 w2 (.cells #[.pointer (some ⟨R, 0, none⟩), .pointer (some ⟨M, 0, none⟩)] 63)
  have l2 := h2.lt
  exact ⟨Below.up (Below.up b1 b2) b3, ⟨a, c, ha, haR, hRc, hcM, Rdr.below h1 (Below.up b2 b3), h2.kept fun k _ hk => b3.block k (by omega)⟩, heap_alloc_new _ _⟩

theorem made_set {w w1 w2 : World} {R M a c bx : Nat} {l : List Int} (b1 : Below w.heap.size w w1) (b2 : Below w1.heap.size w1 w2) (ha : w.heap.size ≤ a) (haR : a ≤ R) (hRc : R < c) (hcM : c ≤ M) (h1 : Rdr w1 a R l 0 0 0) (h2 : RfS w2 c M l ⟨0, 0, 0⟩) (hx : w.heap.size ≤ bx) (X : BoxAt w2 bx) (n1 : bx < a ∨ R < bx) (n2 : bx < c ∨ M < bx) :
    Made w ((w2.setCell ⟨bx, 0, none⟩ (.pointer (some ⟨R, 0, none⟩))).setCell ⟨bx, 1, none⟩ (.pointer (some ⟨M, 0, none⟩))) bx R M l := by
  have old : ∀ k, k ≠ bx → ((w2.setCell ⟨bx, 0, none⟩ (.pointer (some ⟨R, 0, none⟩))).setCell ⟨bx, 1, none⟩ (.pointer (some ⟨M, 0, none⟩))).heap[k]? = w2.heap[k]? := fun k hk => (setB hk).trans (setB hk)
  have b12 := Below.up b1 b2
  refine ⟨⟨b12.os, b12.tape, b12.output, ?_, fun k hk => (old k (by omega)).trans (b12.block k hk)⟩, ⟨a, c, ha, haR, hRc, hcM, ?_, ?_⟩, ?_⟩
  · rw [sizeS, sizeS]; exact b12.size
  · exact Rdr.kept (Rdr.below h1 b2) fun k q1 q2 => old k (by omega)
  · exact h2.kept fun k q1 q2 => old k (by omega)
  · have e0 := heap_setCell_at (o := 0) (Value.pointer (some ⟨R, 0, none⟩)) X
    have e1 := heap_setCell_at (o := 1) (Value.pointer (some ⟨M, 0, none⟩)) e0
    exact e1

theorem Made.cells {w wz : World} {bx R M : Nat} {l : List Int} (h : Made w wz bx R M l) : wz.cell? ⟨bx, 0, none⟩ = some (.pointer (some ⟨R, 0, none⟩)) ∧ wz.cell? ⟨bx, 1, none⟩ = some (.pointer (some ⟨M, 0, none⟩)) ∧ bx < wz.heap.size := by
  refine ⟨by simp [World.cell?, h.box], by simp [World.cell?, h.box], (Array.getElem?_eq_some_iff.1 h.box).1⟩
end Go.Proofs.YthpelabmfpogbaaGreatDoor
