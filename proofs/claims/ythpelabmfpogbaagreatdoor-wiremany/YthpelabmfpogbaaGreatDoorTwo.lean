/-
  The statements' pair of readers beside the Book.
-/
import Derived.Test.YthpelabmfpogbaaGreatDoorPair
import Derived.Test.YthpelabmfpogbaaGreatDoorBkOpen
import Derived.Test.YthpelabmfpogbaaGreatDoorPutsW
namespace Go.Proofs.YthpelabmfpogbaaGreatDoor
open Go.RowKit Wire Bk

/-- A pair of readers of the bytes l in the state s, beside the Book. -/
structure Two (w : World) (lo K n : Nat) (B : Nat → Prop) (loR R loM M : Nat) (l : List Int) (s : St) : Prop where
  book : BookOk w lo K n B
  rd : RdS w loR R l s
  rf : RfS w loM M l s
  nR : ∀ k, loR ≤ k → k ≤ R → ¬ B k
  nM : ∀ k, loM ≤ k → k ≤ M → ¬ B k
  lt : R < loM
  ge : lo ≤ loR
  le : loR ≤ R
  le2 : loM ≤ M

theorem Two.to {w w' : World} {lo K n : Nat} {B : Nat → Prop} {loR R loM M : Nat} {l : List Int} {s s' : St} (h : Two w lo K n B loR R loM M l s) (ho : w'.os = w.os) (ht : w'.tape = w.tape) (hu : w'.output = w.output) (hs : w.heap.size ≤ w'.heap.size)
    (hb : ∀ b, b < w.heap.size → b ≠ R → b ≠ M → w'.heap[b]? = w.heap[b]?) (r1 : RdS w' loR R l s') (r2 : RfS w' loM M l s') : Two w' lo K n B loR R loM M l s' :=
  ⟨h.book.keep hs (fun b hB => hb b (h.book.lt b hB) (fun e => h.nR R h.le (Nat.le_refl _) (e ▸ hB)) (fun e => h.nM M h.le2 (Nat.le_refl _) (e ▸ hB))) ho ht hu, r1, r2, h.nR, h.nM, h.lt, h.ge, h.le, h.le2⟩

theorem Two.up {w w' : World} {lo K n : Nat} {B : Nat → Prop} {loR R loM M : Nat} {l : List Int} {s : St} (h : Two w lo K n B loR R loM M l s) (hb : Below w.heap.size w w') : Two w' lo K n B loR R loM M l s :=
  h.to hb.os hb.tape hb.output hb.size (fun b hlt _ _ => hb.block b hlt) (h.rd.grown hb) (h.rf.kept fun k _ hk => hb.block k (Nat.lt_of_le_of_lt hk h.rf.lt))

/-- What a call leaves. -/
def DoesTo (w w' : World) (lo K n : Nat) (B : Nat → Prop) (loR R loM M : Nat) (l : List Int) : Prop :=
  ∃ s' n' B', n' ≤ n + 1 ∧ Two w' lo K n' B' loR R loM M l s' ∧ Below lo w w' ∧ ∀ b, b < w.heap.size → ¬ B b → b ≠ R → b ≠ M → w'.heap[b]? = w.heap[b]? ∧ ¬ B' b

theorem DoesTo.up {w w' w'' : World} {lo K n : Nat} {B : Nat → Prop} {loR R loM M : Nat} {l : List Int} (h : DoesTo w w' lo K n B loR R loM M l) (hb : Below w'.heap.size w' w'') (hlo : lo ≤ w.heap.size) : DoesTo w w'' lo K n B loR R loM M l := by
  obtain ⟨s', n', B', h1, h2, h3, h4⟩ := h
  have hs := h3.size
  exact ⟨s', n', B', h1, h2.up hb, h3.trans (hb.mono (by omega)), fun b q1 q2 q3 q4 => ⟨(hb.block b (by omega)).trans (h4 b q1 q2 q3 q4).1, (h4 b q1 q2 q3 q4).2⟩⟩

theorem DoesTo.from {w wb w' : World} {lo K n : Nat} {B : Nat → Prop} {loR R loM M : Nat} {l : List Int} (hb : Below w.heap.size w wb) (hlo : lo ≤ w.heap.size) (h : DoesTo wb w' lo K n B loR R loM M l) : DoesTo w w' lo K n B loR R loM M l := by
  obtain ⟨s', n', B', h1, h2, h3, h4⟩ := h
  have hs := hb.size
  exact ⟨s', n', B', h1, h2, (hb.mono hlo).trans h3, fun b q1 q2 q3 q4 => ⟨(h4 b (by omega) q2 q3 q4).1.trans (hb.block b q1), (h4 b (by omega) q2 q3 q4).2⟩⟩

/-- Both readers have made one step. -/
theorem Two.both {w w1 w2 : World} {lo K n : Nat} {B : Nat → Prop} {loR R loM M : Nat} {l : List Int} {s s' : St} (h : Two w lo K n B loR R loM M l s) (hlo : lo ≤ w.heap.size) (g1 : w.grownBy w1 (some R)) (g2 : w1.grownBy w2 (some M)) (r1 : RdS w1 loR R l s') (r2 : RfS w2 loM M l s') : DoesTo w w2 lo K n B loR R loM M l := by
  have hs1 := g1.size
  have hs2 := g2.size
  have hR : R < w.heap.size := h.rd.lt
  have hM : M < w.heap.size := h.rf.lt
  have hl := h.lt
  have hl2 := h.le2
  have hl3 := h.le
  have hl4 := h.ge
  have hb : ∀ b, b < w.heap.size → b ≠ R → b ≠ M → w2.heap[b]? = w.heap[b]? := fun b q1 q2 q3 => (g2.block b (by omega) (fun e => q3 (by injection e))).trans (g1.block b q1 (fun e => q2 (by injection e)))
  refine ⟨s', n, B, by omega, h.to (g2.os.trans g1.os) (g2.tape.trans g1.tape) (g2.output.trans g1.output) (by omega) hb (Rdr.kept r1 fun k q1 q2 => g2.block k (by omega) (fun e => by injection e with e; omega)) r2, ⟨g2.os.trans g1.os, g2.tape.trans g1.tape, g2.output.trans g1.output, by omega, fun k hk => hb k (by omega) (by omega) (by omega)⟩, fun b q1 q2 q3 q4 => ⟨hb b q1 q3 q4, q2⟩⟩

theorem Two.both' {w w1 w2 : World} {lo K n : Nat} {B : Nat → Prop} {loR R loM M : Nat} {l : List Int} {s s' : St} (h : Two w lo K n B loR R loM M l s) (hlo : lo ≤ w.heap.size) (g1 : w.grownBy w1 (some M)) (g2 : w1.grownBy w2 (some R)) (r1 : RfS w1 loM M l s') (r2 : RdS w2 loR R l s') : DoesTo w w2 lo K n B loR R loM M l := by
  have hs1 := g1.size
  have hs2 := g2.size
  have hR : R < w.heap.size := h.rd.lt
  have hM : M < w.heap.size := h.rf.lt
  have hl := h.lt
  have hl2 := h.le2
  have hl3 := h.le
  have hl4 := h.ge
  have hb : ∀ b, b < w.heap.size → b ≠ R → b ≠ M → w2.heap[b]? = w.heap[b]? := fun b q1 q2 q3 => (g2.block b (by omega) (fun e => q2 (by injection e))).trans (g1.block b q1 (fun e => q3 (by injection e)))
  refine ⟨s', n, B, by omega, h.to (g2.os.trans g1.os) (g2.tape.trans g1.tape) (g2.output.trans g1.output) (by omega) hb r2 (r1.kept fun k q1 q2 => g2.block k (by omega) (fun e => by injection e with e; omega)), ⟨g2.os.trans g1.os, g2.tape.trans g1.tape, g2.output.trans g1.output, by omega, fun k hk => hb k (by omega) (by omega) (by omega)⟩, fun b q1 q2 q3 q4 => ⟨hb b q1 q3 q4, q2⟩⟩
end Go.Proofs.YthpelabmfpogbaaGreatDoor
