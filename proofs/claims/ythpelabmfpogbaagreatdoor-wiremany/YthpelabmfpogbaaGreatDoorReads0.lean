/-
  WireReads: the Room with two lists; two pairs of readers beside the Book and the Room.
-/
import Derived.Test.YthpelabmfpogbaaGreatDoorDoesA
namespace Go.Proofs.YthpelabmfpogbaaGreatDoor
open Go.RowKit Wire Bk

/-- The Room with two lists, which hold l and m. -/
structure RS2 (w : World) (lo R : Nat) (x y : Rl) (hB hA : Value) (l m : List Int) : Prop where
  room : RoomAt w lo R [x, y] hB hA
  ox : Owns w lo x.row (l ++ lots 600)
  oy : Owns w lo y.row (m ++ lots 600)
  nx : x.n = l.length
  ny : y.n = m.length
  ne : x.g ≠ y.g

def RSb2 (R : Nat) (x y : Rl) (hB hA : Value) (b : Nat) : Prop := b = R ∨ b = x.g ∨ b = y.g ∨ hB.ownBlock = some b ∨ hA.ownBlock = some b

theorem RS2.lt {w : World} {lo R : Nat} {x y : Rl} {hB hA : Value} {l m : List Int} (h : RS2 w lo R x y hB hA l m) : ∀ b, RSb2 R x y hB hA b → lo ≤ b ∧ b < w.heap.size := by
  rintro b (rfl | rfl | rfl | e | e)
  · exact ⟨h.room.loR, h.room.lt⟩
  · exact ⟨(h.room.each x (by simp)).1, (h.room.each x (by simp)).2.1⟩
  · exact ⟨(h.room.each y (by simp)).1, (h.room.each y (by simp)).2.1⟩
  · exact h.room.rows.lt b e
  · exact h.room.ats.lt b e

theorem room_kept {w w' : World} {lo R : Nat} {ls : List Rl} {hB hA : Value} (r : RoomAt w lo R ls hB hA) (hs : w.heap.size ≤ w'.heap.size) (h1 : w'.heap[R]? = w.heap[R]?) (h2 : ∀ k, hB.ownBlock = some k → w'.heap[k]? = w.heap[k]?) (h3 : ∀ k, hA.ownBlock = some k → w'.heap[k]? = w.heap[k]?)
    (h4 : ∀ z ∈ ls, ∀ i, i < 600 → w'.cell? ⟨z.g, z.n + i, none⟩ = w.cell? ⟨z.g, z.n + i, none⟩) : RoomAt w' lo R ls hB hA :=
  ⟨r.loR, Nat.lt_of_lt_of_le r.lt hs, frozenB h1 r.fz, fun i q1 q2 => cellB h1 (r.idle i q1 q2), cellB h1 r.c0, cellB h1 r.c1, rowB r.rows h2, rowB r.ats h3, r.nB, r.nA, r.nAB, fun z hz => by
    obtain ⟨y1, y2, y3, y4, y5, y6, y7, y8⟩ := r.each z hz
    exact ⟨y1, by omega, y3, y4, y5, y6, y7, fun i hi => (h4 z hz i hi).trans (y8 i hi)⟩⟩

theorem RS2.keep {w w' : World} {lo R : Nat} {x y : Rl} {hB hA : Value} {l m : List Int} (h : RS2 w lo R x y hB hA l m) (hs : w.heap.size ≤ w'.heap.size) (hb : ∀ b, RSb2 R x y hB hA b → w'.heap[b]? = w.heap[b]?) : RS2 w' lo R x y hB hA l m := by
  have gx := hb x.g (.inr (.inl rfl))
  have gy := hb y.g (.inr (.inr (.inl rfl)))
  refine ⟨room_kept h.room hs (hb R (.inl rfl)) (fun k hk => hb k (.inr (.inr (.inr (.inl hk))))) (fun k hk => hb k (.inr (.inr (.inr (.inr hk))))) fun z hz i hi => ?_, h.ox.block fun k hk => ?_, h.oy.block fun k hk => ?_, h.nx, h.ny, h.ne⟩
  · simp only [List.mem_cons, List.not_mem_nil, or_false] at hz
    rcases hz with rfl | rfl
    · simp only [World.cell?, gx]
    · simp only [World.cell?, gy]
  · have e : x.g = k := by simpa [Rl.row, Value.ownBlock] using hk
    subst e; exact gx
  · have e : y.g = k := by simpa [Rl.row, Value.ownBlock] using hk
    subst e; exact gy

/-- Two pairs, the Room, the slice of the pairs at P. -/
structure PA (w0 w : World) (lo K n : Nat) (B : Nat → Prop) (a1 R1 a2 M1 a3 R2 a4 M2 P : Nat) (la lb : List Int) (s1 s2 : St) (RR : Nat) (x y : Rl) (hB hA : Value) (l m : List Int) : Prop where
  t1 : Two w lo K n B a1 R1 a2 M1 la s1
  t2 : Two w lo K n B a3 R2 a4 M2 lb s2
  rm : RS2 w lo RR x y hB hA l m
  nb : ∀ b, RSb2 RR x y hB hA b → ¬ B b ∧ b < a1
  ord : M1 < a3
  pP : M2 < P
  nP : ¬ B P
  pc : w.heap[P]? = some (.cells #[.pointer (some ⟨R1, 0, none⟩), .pointer (some ⟨M1, 0, none⟩), .pointer (some ⟨R2, 0, none⟩), .pointer (some ⟨M2, 0, none⟩)] 63)
  bel : Below lo w0 w

theorem Two.beside {w w' : World} {lo K n n' : Nat} {B B' : Nat → Prop} {a R b M : Nat} {l : List Int} {s : St} (T : Two w lo K n B a R b M l s) (bk : BookOk w' lo K n' B') (f1 : ∀ k, a ≤ k → k ≤ R → w'.heap[k]? = w.heap[k]? ∧ ¬ B' k) (f2 : ∀ k, b ≤ k → k ≤ M → w'.heap[k]? = w.heap[k]? ∧ ¬ B' k) : Two w' lo K n' B' a R b M l s :=
  ⟨bk, Rdr.kept T.rd fun k q1 q2 => (f1 k q1 q2).1, T.rf.kept fun k q1 q2 => (f2 k q1 q2).1, fun k q1 q2 => (f1 k q1 q2).2, fun k q1 q2 => (f2 k q1 q2).2, T.lt, T.ge, T.le, T.le2⟩

section
variable {w0 w w' : World} {lo K n : Nat} {B : Nat → Prop} {a1 R1 a2 M1 a3 R2 a4 M2 P : Nat} {la lb : List Int} {s1 s2 : St} {RR : Nat} {x y : Rl} {hB hA : Value} {l m : List Int}

theorem PA.lt (h : PA w0 w lo K n B a1 R1 a2 M1 a3 R2 a4 M2 P la lb s1 s2 RR x y hB hA l m) : P < w.heap.size := by
  rcases Nat.lt_or_ge P w.heap.size with q | q
  · exact q
  · have := h.pc
    rw [Array.getElem?_eq_none q] at this
    cases this

theorem PA.does1 (h : PA w0 w lo K n B a1 R1 a2 M1 a3 R2 a4 M2 P la lb s1 s2 RR x y hB hA l m) (d : DoesTo w w' lo K n B a1 R1 a2 M1 la) :
    ∃ n' B' s1', n' ≤ n + 1 ∧ PA w0 w' lo K n' B' a1 R1 a2 M1 a3 R2 a4 M2 P la lb s1' s2 RR x y hB hA l m := by
  obtain ⟨s', n', B', h1, h2, h3, h4⟩ := d
  have q1 := h.t1.lt
  have q2 := h.t1.le2
  have q3 := h.t2.lt
  have q4 := h.t2.le2
  have q5 := h.t2.le
  have q6 := h.t1.le
  have q7 := h.ord
  have q8 := h.pP
  have q9 := h.lt
  have g : ∀ k, a3 ≤ k → k ≤ P → ¬ B k → w'.heap[k]? = w.heap[k]? ∧ ¬ B' k := fun k z1 z2 z3 => h4 k (by omega) z3 (by omega) (by omega)
  have gr : ∀ b, RSb2 RR x y hB hA b → w'.heap[b]? = w.heap[b]? ∧ ¬ B' b := fun b hb => h4 b (h.rm.lt b hb).2 (h.nb b hb).1 (by have := (h.nb b hb).2; omega) (by have := (h.nb b hb).2; omega)
  exact ⟨n', B', s', h1, ⟨h2, h.t2.beside h2.book (fun k z1 z2 => g k z1 (by omega) (h.t2.nR k z1 z2)) (fun k z1 z2 => g k (by omega) (by omega) (h.t2.nM k z1 z2)), h.rm.keep h3.size (fun b hb => (gr b hb).1), fun b hb => ⟨(gr b hb).2, (h.nb b hb).2⟩, h.ord, h.pP, (g P (by omega) (Nat.le_refl _) h.nP).2, (g P (by omega) (Nat.le_refl _) h.nP).1.trans h.pc, h.bel.trans h3⟩⟩

theorem PA.does2 (h : PA w0 w lo K n B a1 R1 a2 M1 a3 R2 a4 M2 P la lb s1 s2 RR x y hB hA l m) (d : DoesTo w w' lo K n B a3 R2 a4 M2 lb) :
    ∃ n' B' s2', n' ≤ n + 1 ∧ PA w0 w' lo K n' B' a1 R1 a2 M1 a3 R2 a4 M2 P la lb s1 s2' RR x y hB hA l m := by
  obtain ⟨s', n', B', h1, h2, h3, h4⟩ := d
  have q1 := h.t1.lt
  have q2 := h.t1.le2
  have q3 := h.t2.lt
  have q4 := h.t2.le2
  have q5 := h.t2.le
  have q6 := h.t1.le
  have q7 := h.ord
  have q8 := h.pP
  have q9 := h.lt
  have g : ∀ k, k ≤ M1 → ¬ B k → w'.heap[k]? = w.heap[k]? ∧ ¬ B' k := fun k z2 z3 => h4 k (by omega) z3 (by omega) (by omega)
  have gP := h4 P q9 h.nP (by omega) (by omega)
  have gr : ∀ b, RSb2 RR x y hB hA b → w'.heap[b]? = w.heap[b]? ∧ ¬ B' b := fun b hb => h4 b (h.rm.lt b hb).2 (h.nb b hb).1 (by have := (h.nb b hb).2; omega) (by have := (h.nb b hb).2; omega)
  exact ⟨n', B', s', h1, ⟨h.t1.beside h2.book (fun k z1 z2 => g k (by omega) (h.t1.nR k z1 z2)) (fun k z1 z2 => g k z2 (h.t1.nM k z1 z2)), h2, h.rm.keep h3.size (fun b hb => (gr b hb).1), fun b hb => ⟨(gr b hb).2, (h.nb b hb).2⟩, h.ord, h.pP, gP.2, gP.1.trans h.pc, h.bel.trans h3⟩⟩

theorem PA.up (h : PA w0 w lo K n B a1 R1 a2 M1 a3 R2 a4 M2 P la lb s1 s2 RR x y hB hA l m) (hb : Below w.heap.size w w') : PA w0 w' lo K n B a1 R1 a2 M1 a3 R2 a4 M2 P la lb s1 s2 RR x y hB hA l m :=
  ⟨h.t1.up hb, h.t2.up hb, h.rm.keep hb.size (fun b q => hb.block b (h.rm.lt b q).2), h.nb, h.ord, h.pP, h.nP, (hb.block P h.lt).trans h.pc, h.bel.trans (hb.mono (by have := h.t1.ge; have := h.t1.le; have := h.t1.rd.lt; omega))⟩
end
end Go.Proofs.YthpelabmfpogbaaGreatDoor
