/-
  WireReads: writing into the lent lists; the second list of the Room.
-/
import Derived.Test.YthpelabmfpogbaaGreatDoorReads0
import Derived.Test.YthpelabmfpogbaaGreatDoorPutsG
namespace Go.Proofs.YthpelabmfpogbaaGreatDoor
open Go.RowKit Wire Bk

theorem owns_set {w : World} {lo g n c i : Nat} {l : List Int} (h : Owns w lo (.slice (some ⟨g, 0, none⟩) n c) l) (b : Int) : Owns (w.setCell ⟨g, i, none⟩ (.int .u8 b)) lo (.slice (some ⟨g, 0, none⟩) n c) (l.set i b) := by
  obtain ⟨h1, h | ⟨g', cap, cur, hv', hg', hh, hn, hm, hs', htk⟩⟩ := h
  · cases h.1
  · injection hv' with e1 e2 e3
    injection e1 with e1
    injection e1 with e1
    subst e1 e2 e3
    have hl : (l.set i b).length = l.length := by simp
    unfold Owns
    rw [hl]
    refine ⟨by simp, .inr ⟨g, c, cur.setIfInBounds i (.int .u8 b), rfl, hg', ?_, hn, hm, by simpa using hs', ?_⟩⟩
    · simp only [World.setCell, Array.getElem?_modify, if_true, hh]
      simp
    · simp only [Nat.mul_one] at htk ⊢
      rw [List.map_set, ← htk, Array.toList_setIfInBounds, List.take_set]

theorem owns_cell {w : World} {lo g n c i : Nat} {l m : List Int} (h : Owns w lo (.slice (some ⟨g, 0, none⟩) n c) (l ++ m)) (hi : i < l.length) : w.cell? ⟨g, i, none⟩ = some (.int .u8 (l.getD i 0)) ∧ w.frozen? ⟨g, i, none⟩ = false := by
  refine ⟨?_, ?_⟩
  · have := World.ownsRow.cells h (g := g) rfl i (.int .u8 (l.getD i 0)) (by
      rw [List.getElem?_map, List.getElem?_append_left hi, List.getD, List.getElem?_eq_getElem hi]; rfl)
    rw [add0] at this
    exact this
  · obtain ⟨h1, h2 | ⟨g', cap, cur, hv, hg, hh, _⟩⟩ := h
    · cases h2.1
    · injection hv with e1 e2 e3
      injection e1 with e1
      injection e1 with e1
      subst e1
      simp [World.frozen?, hh]

theorem owns_has_part {w : World} {lo g n c k : Nat} {l m : List Int} (h : Owns w lo (.slice (some ⟨g, 0, none⟩) n c) (l ++ m)) (hk : l.length ≤ k) : Has w (.slice (some ⟨g, 0, none⟩) l.length k) l := by
  refine .inr ⟨⟨g, 0, none⟩, k, rfl, hk, fun i hi => ?_⟩
  exact World.ownsRow.cells h (g := g) rfl i (.int .u8 (l.getD i 0)) (by
    rw [List.getElem?_map, List.getElem?_append_left hi, List.getD, List.getElem?_eq_getElem hi]; rfl)

section
variable {w0 w w' : World} {lo K n : Nat} {B : Nat → Prop} {a1 R1 a2 M1 a3 R2 a4 M2 P : Nat} {la lb : List Int} {s1 s2 : St} {RR : Nat} {x y : Rl} {hB hA : Value} {l m : List Int}

theorem RS2.setx (h : RS2 w lo RR x y hB hA l m) {i : Nat} (hi : i < l.length) (b : Int) : RS2 (w.setCell ⟨x.g, i, none⟩ (.int .u8 b)) lo RR x y hB hA (l.set i b) m := by
  obtain ⟨y1, y2, y3, y4, y5, _⟩ := h.room.each x (by simp)
  have es : l.set i b ++ lots 600 = (l ++ lots 600).set i b := by rw [List.set_append_left _ _ hi]
  refine ⟨room_kept h.room (by rw [sizeS]; exact Nat.le_refl _) (setB (Ne.symm y3)) (fun k hk => setB fun e => y4 (by rw [hk, e])) (fun k hk => setB fun e => y5 (by rw [hk, e])) fun z hz j hj => ?_, by rw [es]; exact owns_set h.ox b, h.oy.block fun k hk => setB fun e => ?_, by simpa using h.nx, h.ny, h.ne⟩
  · refine World.cell?_setCell_other _ _ _ _ ?_
    simp only [List.mem_cons, List.not_mem_nil, or_false] at hz
    have hne := h.ne
    have hnx := h.nx
    rcases hz with rfl | rfl
    · intro e; injection e with e1 e2; omega
    · intro e; injection e with e1 e2; omega
  · have e2 : y.g = k := by simpa [Rl.row, Value.ownBlock] using hk
    exact h.ne (by rw [e2, e])

theorem RS2.sety (h : RS2 w lo RR x y hB hA l m) {i : Nat} (hi : i < m.length) (b : Int) : RS2 (w.setCell ⟨y.g, i, none⟩ (.int .u8 b)) lo RR x y hB hA l (m.set i b) := by
  obtain ⟨y1, y2, y3, y4, y5, _⟩ := h.room.each y (by simp)
  have es : m.set i b ++ lots 600 = (m ++ lots 600).set i b := by rw [List.set_append_left _ _ hi]
  refine ⟨room_kept h.room (by rw [sizeS]; exact Nat.le_refl _) (setB (Ne.symm y3)) (fun k hk => setB fun e => y4 (by rw [hk, e])) (fun k hk => setB fun e => y5 (by rw [hk, e])) fun z hz j hj => ?_, h.ox.block fun k hk => setB fun e => ?_, by rw [es]; exact owns_set h.oy b, h.nx, by simpa using h.ny, h.ne⟩
  · refine World.cell?_setCell_other _ _ _ _ ?_
    simp only [List.mem_cons, List.not_mem_nil, or_false] at hz
    have hne := h.ne
    have hny := h.ny
    rcases hz with rfl | rfl
    · intro e; injection e with e1 e2; omega
    · intro e; injection e with e1 e2; omega
  · have e2 : x.g = k := by simpa [Rl.row, Value.ownBlock] using hk
    exact h.ne (by rw [e2, e])

theorem PA.poke (h : PA w0 w lo K n B a1 R1 a2 M1 a3 R2 a4 M2 P la lb s1 s2 RR x y hB hA l m) {g i : Nat} {v : Value} {l' m' : List Int} (hg : RSb2 RR x y hB hA g) (hr : RS2 (w.setCell ⟨g, i, none⟩ v) lo RR x y hB hA l' m') : PA w0 (w.setCell ⟨g, i, none⟩ v) lo K n B a1 R1 a2 M1 a3 R2 a4 M2 P la lb s1 s2 RR x y hB hA l' m' := by
  have q1 := h.t1.lt
  have q2 := h.t1.le2
  have q3 := h.t2.lt
  have q4 := h.t2.le2
  have q5 := h.t2.le
  have q6 := h.t1.le
  have q7 := h.ord
  have q8 := h.pP
  have q9 := h.nb g hg
  have bk : BookOk (w.setCell ⟨g, i, none⟩ v) lo K n B := h.t1.book.keep (by rw [sizeS]; exact Nat.le_refl _) (fun b hB' => setB fun e => q9.1 (e ▸ hB')) rfl rfl rfl
  exact ⟨h.t1.beside bk (fun k z1 z2 => ⟨setB (by omega), h.t1.nR k z1 z2⟩) (fun k z1 z2 => ⟨setB (by omega), h.t1.nM k z1 z2⟩), h.t2.beside bk (fun k z1 z2 => ⟨setB (by omega), h.t2.nR k z1 z2⟩) (fun k z1 z2 => ⟨setB (by omega), h.t2.nM k z1 z2⟩), hr, h.nb, h.ord, h.pP, h.nP, (setB (by omega)).trans h.pc, h.bel.setCell (p := ⟨g, i, none⟩) (h.rm.lt g hg).1 _⟩
end
end Go.Proofs.YthpelabmfpogbaaGreatDoor
