/-
  WireReads: the walk.
-/
import Derived.Test.YthpelabmfpogbaaGreatDoorReads1
import Derived.Test.YthpelabmfpogbaaGreatDoorOpsIn
namespace Go.Proofs.YthpelabmfpogbaaGreatDoor
open Go.RowKit Wire Bk

/-- The Room with two new lists, the new Book. -/
def Lent2 (w0 w : World) (la lb : List Int) (x y : Rl) (hB hA : Value) : Prop :=
  RS2 w w0.heap.size w0.heap.size x y hB hA la lb ∧ BookOk w w0.heap.size (w0.heap.size + 1) 0 (fun b => b = w0.heap.size + 1) ∧ (∀ b, RSb2 w0.heap.size x y hB hA b → b ≠ w0.heap.size + 1) ∧ Below w0.heap.size w0 w

theorem lent1 (va : Value) (la : List Int) (w : World) (ha : Has w va la) (hla : la.length ≤ 65536) :
    Calls Tryz.prog 6 #[.pointer (some ⟨w.heap.size, 0, none⟩), va] ((w.alloc roomObj).alloc bookObj) fun e w' => ∃ x hB hA, e = .returned (.slice (some ⟨x.g, 0, none⟩) la.length (la.length + 600)) ∧ PutsAt w w.heap.size w.heap.size (w.heap.size + 1) x hB hA la 0 (fun b => b = w.heap.size + 1) w' := by
  have e0 : ((w.alloc roomObj).alloc bookObj).heap.size = w.heap.size + 2 := by simp
  obtain ⟨w2, ew2⟩ : ∃ w2, (w.alloc roomObj).alloc bookObj = w2 := ⟨_, rfl⟩
  have b2 : Below w.heap.size w w2 := by rw [← ew2]; exact ((Below.refl _ w).alloc (Nat.le_refl _) _).alloc (by simp) _
  have r2 : RoomAt w2 w.heap.size w.heap.size [] (.slice none 0 0) (.slice none 0 0) := by
    have h := room_new w w.heap.size (Nat.le_refl _)
    have hR : w2.heap[w.heap.size]? = (w.alloc roomObj).heap[w.heap.size]? := by rw [← ew2]; exact Below.heap_alloc _ _ _ (by simp)
    exact ⟨h.loR, by rw [← ew2]; simp; omega, frozenB hR h.fz, fun i h1 h2 => cellB hR (h.idle i h1 h2), cellB hR h.c0, cellB hR h.c1, World.ownsRow_nil _ _ _ _, World.ownsRow_nil _ _ _ _, h.nB, h.nA, h.nAB, by simp⟩
  have k2 : BookOk w2 w.heap.size (w.heap.size + 1) 0 (fun b => b = w.heap.size + 1) := by
    have h := book_new (w.alloc roomObj) w.heap.size (by simp)
    rw [ew2] at h
    simpa using h
  rw [ew2] at e0 ⊢
  refine (roomBytes_any w.heap.size w.heap.size [] (.slice none 0 0) (.slice none 0 0) va la w2 r2 (by simp) (ha.below b2) (by omega)).mono ?_
  rintro e w' ⟨g, rfl, x, hB, hA, hg, hxn, hgs, hr, ho, hold, hpB, hpA, hbel⟩
  subst hg
  refine ⟨x, hB, hA, rfl, k2.keep hbel.size (fun b hb => ?_) hbel.os hbel.tape hbel.output, ⟨by simpa using hr, ho.mono (by omega), hxn⟩, ?_, b2.trans hbel⟩
  · subst hb
    exact hold _ (by omega) (by omega) (by simp [Value.ownBlock]) (by simp [Value.ownBlock])
  · rintro b (rfl | rfl | e | e) hb
    · omega
    · omega
    · rcases hpB b e with h | h
      · simp [Value.ownBlock] at h
      · omega
    · rcases hpA b e with h | h
      · simp [Value.ownBlock] at h
      · omega

theorem lent2 (vb : Value) (la lb : List Int) (w w3 : World) (x : Rl) (hB hA : Value) (h : PutsAt w w.heap.size w.heap.size (w.heap.size + 1) x hB hA la 0 (fun b => b = w.heap.size + 1) w3) (hb : Has w vb lb) (hlb : lb.length ≤ 65536) :
    Calls Tryz.prog 6 #[.pointer (some ⟨w.heap.size, 0, none⟩), vb] w3 fun e w' => ∃ y hB' hA', e = .returned (.slice (some ⟨y.g, 0, none⟩) lb.length (lb.length + 600)) ∧ Lent2 w w' la lb x y hB' hA' := by
  obtain ⟨k3, r3, n3, b3⟩ := h
  refine (roomBytes_any w.heap.size w.heap.size [x] hB hA vb lb w3 r3.1 (by simp) (hb.below b3) (by omega)).mono ?_
  rintro e w' ⟨g, rfl, y, hB', hA', hg, hyn, hgs, hr, ho, hold, hpB, hpA, hbel⟩
  subst hg
  obtain ⟨y1, y2, y3, y4, y5, _⟩ := r3.1.each x (by simp)
  have hKlt : w.heap.size + 1 < w3.heap.size := k3.lt _ rfl
  have hKB : hB.ownBlock ≠ some (w.heap.size + 1) := fun e => n3 _ (.inr (.inr (.inl e))) rfl
  have hKA : hA.ownBlock ≠ some (w.heap.size + 1) := fun e => n3 _ (.inr (.inr (.inr e))) rfl
  refine ⟨y, hB', hA', rfl, ⟨hr, r3.2.1.block fun k hk => ?_, ho.mono (by omega), r3.2.2, hyn, by omega⟩, k3.keep hbel.size (fun b hb => ?_) hbel.os hbel.tape hbel.output, ?_, b3.trans hbel⟩
  · have e : x.g = k := by simpa [Rl.row, Value.ownBlock] using hk
    subst e
    exact hold _ y2 y3 y4 y5
  · subst hb
    exact hold _ hKlt (by omega) hKB hKA
  · rintro b (rfl | rfl | rfl | e | e) hb
    · omega
    · exact n3 _ (.inr (.inl rfl)) hb
    · omega
    · rcases hpB b e with h | h
      · exact n3 _ (.inr (.inr (.inl h))) hb
      · omega
    · rcases hpA b e with h | h
      · exact n3 _ (.inr (.inr (.inr h))) hb
      · omega
end Go.Proofs.YthpelabmfpogbaaGreatDoor
