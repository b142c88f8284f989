import Derived.Test.YtbjjbgaomoihaaaGreatDoorRow
namespace Go.Proofs.YtbjjbgaomoihaaaGreatDoor
open Go.RowKit
def New (w w' : World) (b : Nat) : Prop := w.heap.size ≤ b ∧ b < w'.heap.size
def CI (w : World) (B : Nat) (c : Array Value) (ks : F) (wr : World) (k : Nat) (u : Value) : Prop :=
  G w wr ∧ Var wr B c ∧ Var wr (B + 1) z30 ∧ B + 2 ≤ wr.heap.size ∧ ∃ (xs : List Value) (T : Nat → Prop), wr.ownsRow (B + 2) 30 41 u k xs ∧ RCells wr T (ks.take k) xs ∧ ∀ b, T b → B + 2 ≤ b ∧ b < wr.heap.size ∧ some b ≠ u.ownBlock
theorem CI.step {w : World} {B : Nat} {c : Array Value} {ks ks1 r : F} {wr w2 w4 : World} {k : Nat} {u u' : Value} {nm : ByteArray} {v : Vd} {m : Md} {c1 : Array Value} {xs : List Value} (h : G w wr ∧ Var wr B c ∧ Var wr (B + 1) z30 ∧ B + 2 ≤ wr.heap.size) {T : Nat → Prop}
    (hrow : wr.ownsRow (B + 2) 30 41 u k xs) (hcs : RCells wr T (ks.take k) xs) (hT : ∀ b, T b → B + 2 ≤ b ∧ b < wr.heap.size ∧ some b ≠ u.ownBlock) (hd : ks.drop k = .cons nm v m ks1 r)
    (hn : HasNP w2 (New wr w2) c1 nm v m ks1) (hg : G wr w2) (ho : w4.ownsRow (B + 2) 30 41 u' (k + 1) (xs ++ c1.toList)) (hgr : (w2.alloc (.cells c1 30)).grownBy w4 u.ownBlock)
    (hat : u'.ownBlock = u.ownBlock ∨ u'.ownBlock = some (w2.alloc (.cells c1 30)).heap.size) (hwB : w.heap.size = B) : CI w B c ks w4 (k + 1) u' := by
  have hlt := World.ownsRow.lt hrow
  have hs1 := hg.size
  have hs2 := hgr.size
  have hsw := h.1.size
  simp only [World.size_alloc] at hs2 hat
  have hsame : ∀ b, b < w2.heap.size → some b ≠ u.ownBlock → w4.heap[b]? = w2.heap[b]? := fun b hb hne => (hgr.block b (by simp; omega) hne).trans (Below.heap_alloc w2 _ b hb)
  have hbu : ∀ g, u.ownBlock = some g → B + 2 ≤ g := fun g hg => (hlt g hg).1
  have hne : ∀ b, b < B + 2 → some b ≠ u.ownBlock := fun b hb e => by have := hbu b e.symm; omega
  obtain ⟨kv, rfl, hk⟩ := hn
  refine ⟨?_, (hsame B (by omega) (hne B (by omega))).trans (h.2.1.grow hg), (hsame (B + 1) (by omega) (hne _ (by omega))).trans (h.2.2.1.grow hg), by omega, xs ++ (nc nm v m kv).toList, fun b => T b ∨ New wr w2 b, ho, ?_, ?_⟩
  · have h1 := (h.1.trans hg).trans (G.alloc w2 (.cells (nc nm v m kv) 30))
    exact Below.trans (B := w.heap.size) h1 ((Below.refl _ _).grown hgr (by simp; omega) fun g hg => by have := hbu g hg; omega)
  · rw [F.take_more ks k nm v m ks1 r hd]
    refine RCells.snoc (hk.keep fun b hb => ⟨?_, .inr hb⟩) (hcs.keep fun b hb => ⟨?_, .inl hb⟩)
    · exact hsame b hb.2 fun e => by have := (hlt b e.symm).2; have := hb.1; omega
    · have := hT b hb
      rw [hsame b (by omega) this.2.2]
      exact Below.block hg b this.2.1
  · rintro b (hb | hb)
    · have := hT b hb
      refine ⟨this.1, by omega, ?_⟩
      rcases hat with e | e
      · rw [e]; exact this.2.2
      · rw [e]; intro q; injection q with q; omega
    · have h1 := hb.1
      have h2 := hb.2
      refine ⟨by omega, by omega, ?_⟩
      rcases hat with e | e
      · rw [e]; intro q; have := (hlt b q.symm).2; omega
      · rw [e]; intro q; injection q with q; omega
theorem var_frozen {w : World} {g : Nat} {c : Array Value} (h : Var w g c) (j : Nat) : w.frozen? ⟨g, j, none⟩ = false := by
  have h' : w.heap[g]? = some (.cells c 30 (0, 0)) := h
  simp [World.frozen?, h']
theorem cell_of_var {w : World} {g : Nat} {c : Array Value} (h : Var w g c) (j : Nat) (hj : j < c.size) : ∃ u, w.cell? ⟨g, j, none⟩ = some u := ⟨c[j], lies_cell h.lies j _ (by simp [hj])⟩
theorem Var.setCell {w : World} {g : Nat} {c : Array Value} (h : Var w g c) (j : Nat) (u : Value) : Var (w.setCell ⟨g, j, none⟩ u) g (c.setIfInBounds j u) := by
  have h' : w.heap[g]? = some (.cells c 30 (0, 0)) := h
  unfold Var World.setCell
  simp only []
  rw [Array.getElem?_modify]
  simp [h']
theorem owns_growR {w w' : World} {lo e size n : Nat} {v : Value} {xs : List Value} (h : w.ownsRow lo e size v n xs) (hg : G w w') : w'.ownsRow lo e size v n xs := by
  have hlt := World.ownsRow.lt h
  obtain ⟨h1, h | ⟨g, cap, cur, hv, hb, hh, hr⟩⟩ := h
  · exact ⟨h1, .inl h⟩
  · refine ⟨h1, .inr ⟨g, cap, cur, hv, hb, ?_, hr⟩⟩
    rw [Below.block hg g (hlt g (by rw [hv]; rfl)).2]
    exact hh
end Go.Proofs.YtbjjbgaomoihaaaGreatDoor
