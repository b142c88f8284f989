/-
  WireMany: many pairs of readers beside the Book, in a slice of pairs.
-/
import Derived.Test.YthpelabmfpogbaaGreatDoorReads0
namespace Go.Proofs.YthpelabmfpogbaaGreatDoor
open Go.RowKit Wire Bk

/-- A pair: where its readers lie, and what they read. -/
structure Pr where
  a : Nat
  R : Nat
  c : Nat
  M : Nat
  l : List Int

def Pr.cells (p : Pr) : List Value := [.pointer (some ⟨p.R, 0, none⟩), .pointer (some ⟨p.M, 0, none⟩)]

/-- Of no pair is this block. -/
def Pr.off (p : Pr) (b : Nat) : Prop := ¬ (p.a ≤ b ∧ b ≤ p.R) ∧ ¬ (p.c ≤ b ∧ b ≤ p.M)

theorem rowB2 {w w' : World} {lo e n : Nat} {v : Value} {xs : List Value} (h : w.ownsRow lo e 2 v n xs) (hb : ∀ k, v.ownBlock = some k → w'.heap[k]? = w.heap[k]?) : w'.ownsRow lo e 2 v n xs := by
  obtain ⟨h1, h | ⟨g, cap, cur, hv, hg, hh, hr⟩⟩ := h
  · exact ⟨h1, .inl h⟩
  · subst hv
    exact ⟨h1, .inr ⟨g, cap, cur, rfl, hg, (hb g rfl).trans hh, hr⟩⟩

/-- Many pairs, the Book, the slice of the pairs v. -/
structure MA (w0 w : World) (lo K n : Nat) (B : Nat → Prop) (ps : List Pr) (v : Value) : Prop where
  book : BookOk w lo K n B
  two : ∀ p ∈ ps, ∃ s, Two w lo K n B p.a p.R p.c p.M p.l s
  apart : ps.Pairwise fun p q => p.M < q.a
  own : w.ownsRow lo 63 2 v ps.length (ps.flatMap Pr.cells)
  nv : ∀ b, v.ownBlock = some b → ¬ B b ∧ ∀ p ∈ ps, p.off b
  bel : Below lo w0 w

section
variable {w0 w w' : World} {lo K n : Nat} {B : Nat → Prop} {ps : List Pr} {v : Value}

theorem MA.up (h : MA w0 w lo K n B ps v) (hlo : lo ≤ w.heap.size) (hb : Below w.heap.size w w') : MA w0 w' lo K n B ps v :=
  ⟨h.book.keep hb.size (fun b q => hb.block b (h.book.lt b q)) hb.os hb.tape hb.output, fun p hp => by obtain ⟨s, t⟩ := h.two p hp; exact ⟨s, t.up hb⟩, h.apart, rowB2 h.own fun k hk => hb.block k (World.ownsRow.lt h.own k hk).2, h.nv, h.bel.trans (hb.mono hlo)⟩

theorem MA.does (h : MA w0 w lo K n B ps v) {t : Nat} {p : Pr} (hp : ps[t]? = some p) (d : DoesTo w w' lo K n B p.a p.R p.c p.M p.l) :
    ∃ n' B', n' ≤ n + 1 ∧ MA w0 w' lo K n' B' ps v := by
  obtain ⟨s', n', B', h1, h2, h3, h4⟩ := d
  have hpm : p ∈ ps := List.mem_of_getElem? hp
  obtain ⟨s0, t0⟩ := h.two p hpm
  have q1 := t0.lt
  have q2 := t0.le2
  have q3 := t0.le
  have gv : ∀ b, v.ownBlock = some b → w'.heap[b]? = w.heap[b]? ∧ ¬ B' b := fun b hb => by
    obtain ⟨n1, n2⟩ := h.nv b hb
    have o := n2 p hpm
    unfold Pr.off at o
    exact h4 b (World.ownsRow.lt h.own b hb).2 n1 (by omega) (by omega)
  refine ⟨n', B', h1, h2.book, fun q hq => ?_, h.apart, rowB2 h.own fun k hk => (gv k hk).1, fun b hb => ⟨(gv b hb).2, (h.nv b hb).2⟩, h.bel.trans h3⟩
  obtain ⟨u, hu⟩ := List.getElem?_of_mem hq
  obtain ⟨s, tq⟩ := h.two q hq
  have z1 := tq.lt
  have z2 := tq.le2
  have z3 := tq.le
  have zM := tq.rf.lt
  by_cases e : u = t
  · subst e
    obtain rfl : p = q := by rw [hp] at hu; exact Option.some.inj hu
    exact ⟨s', h2⟩
  · have dis : p.M < q.a ∨ q.M < p.a := by
      obtain ⟨ht, et⟩ := List.getElem?_eq_some_iff.1 hp
      obtain ⟨hu', eu⟩ := List.getElem?_eq_some_iff.1 hu
      rcases Nat.lt_or_gt_of_ne e with z | z
      · exact .inr (by have := List.pairwise_iff_getElem.1 h.apart u t hu' ht z; rw [et, eu] at this; exact this)
      · exact .inl (by have := List.pairwise_iff_getElem.1 h.apart t u ht hu' z; rw [et, eu] at this; exact this)
    exact ⟨s, tq.beside h2.book (fun k y1 y2 => h4 k (by omega) (tq.nR k y1 y2) (by omega) (by omega)) (fun k y1 y2 => h4 k (by omega) (tq.nM k y1 y2) (by omega) (by omega))⟩

/-- A new pair behind the others. -/
theorem MA.more (h : MA w0 w lo K n B ps v) (hlo : lo ≤ w.heap.size) (hb : Below w.heap.size w w') {p : Pr} {s : St} (hR : RdS w' p.a p.R p.l s) (hM : RfS w' p.c p.M p.l s) (ha : w.heap.size ≤ p.a) (h1 : p.a ≤ p.R) (h2 : p.R < p.c) (h3 : p.c ≤ p.M) :
    MA w0 w' lo K n B ps v ∧ Two w' lo K n B p.a p.R p.c p.M p.l s ∧ (∀ q ∈ ps, q.M < p.a) ∧ ∀ b, v.ownBlock = some b → p.off b := by
  have hu := h.up hlo hb
  refine ⟨hu, ⟨hu.book, hR, hM, fun k y1 _ hk => ?_, fun k y1 _ hk => ?_, h2, by omega, h1, h3⟩, fun q hq => ?_, fun b hb' => ?_⟩
  · have := h.book.lt k hk; omega
  · have := h.book.lt k hk; omega
  · obtain ⟨s, t⟩ := h.two q hq
    have := t.rf.lt
    omega
  · have := (World.ownsRow.lt h.own b hb').2
    exact ⟨by omega, by omega⟩
end
end Go.Proofs.YthpelabmfpogbaaGreatDoor
