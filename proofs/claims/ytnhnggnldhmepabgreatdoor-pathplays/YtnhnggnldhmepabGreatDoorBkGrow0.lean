/-
  THE BOOK: a fresh list is laid on by one.
-/
import Derived.Test.YtnhnggnldhmepabGreatDoorBkMid
import Derived.Test.YtnhnggnldhmepabGreatDoorKept
namespace Go.Proofs.YtnhnggnldhmepabGreatDoor
open Go.RowKit Bk

/-- What a list is laid on with. -/
def grB (mark m : Nat) : List ByteArray := (List.range m).map fun i => numT (mark + 6 + 5 * i)

theorem grB_next (mark m : Nat) : grB mark (m + 1) = grB mark m ++ [numT (mark + 6 + 5 * m)] := by simp [grB, List.range_succ]
theorem grB_len (mark m : Nat) : (grB mark m).length = m := by simp [grB]

section
variable {w : World} {T : Nat → Nat} {lo K : Nat} {z : Nat → Value} {wr : World} {T' : Nat → Nat} {hs : List Value} {X : List (List Value)} {ws : List (Lst ByteArray)} {os : List (Bk.Ot ByteArray)} {fr : List (Lst ByteArray)}

/-- A fresh list v (it held c) that is laid on: g is what came of it. -/
def GrowAt (w : World) (T : Nat → Nat) (lo K : Nat) (z : Nat → Value) (wi : World) (hs : List Value) (X : List (List Value)) (ws : List (Lst ByteArray)) (os : List (Bk.Ot ByteArray)) (fr : List (Lst ByteArray)) (v : Value) (c : List ByteArray) (mark id : Nat) (g : Value) (m : Nat) : Prop :=
  ∃ T', Mid w T lo K z wi T' hs X ws os fr [] [] ∧ Sd wi lo T' g (c ++ grB mark m) (11 + id) ∧ HasV wi v (c.map Value.string)

theorem GrowAt.grown {v : Value} {c : List ByteArray} {mark id m : Nat} {g : Value} (h : GrowAt w T lo K z wr hs X ws os fr v c mark id g m) {wn : World} (hb : Below wr.heap.size wr wn) : GrowAt w T lo K z wn hs X ws os fr v c mark id g m := by
  obtain ⟨T', M, S, hh⟩ := h
  refine ⟨T', M.up hb, S.up hb, ?_⟩
  rcases hh with h | ⟨a, k, h1, h2, h3⟩
  · exact .inl h
  · refine .inr ⟨a, k, h1, h2, fun i u hi => ?_⟩
    have h4 := h3 i u hi
    rw [hb.cell (World.block_lt_of_cell? wr _ h4)]
    exact h4

theorem GrowAt.next {v : Value} {c : List ByteArray} {mark id m : Nat} {g : Value} (h : GrowAt w T lo K z wr hs X ws os fr v c mark id g m) (hv : v = nil0 ∨ ∃ b k, v = .slice (some ⟨b, 0, none⟩) c.length k)
    (hL : ∀ x ∈ ws ++ [] ++ fr, x.id ≠ id) (hO : ∀ o ∈ os, o.tag = 11 + id → o.v = v ∧ o.c = c) {ob : Obj} {g' : Value} {w' : World}
    (h1 : OwnsT w' lo g' (c ++ grB mark (m + 1))) (h2 : (wr.alloc ob).grownBy w' g.ownBlock) (h3 : g'.ownBlock = g.ownBlock ∨ g'.ownBlock = some (wr.alloc ob).heap.size)
    (h4 : ∀ b, g.ownBlock = some b → ∀ (j : Nat) (u : Value), ((c ++ grB mark m).map Value.string)[j]? = some u → w'.cell? ((⟨b, 0, none⟩ : Addr).add j) = some u) :
    GrowAt w T lo K z w' hs X ws os fr v c mark id g' (m + 1) := by
  obtain ⟨T', M, ⟨ho, ht⟩, hh⟩ := h
  have hsz : (wr.alloc ob).heap.size = wr.heap.size + 1 := by simp
  have hs2 := h2.size
  have F : Frm T' (fun t => t = 11 + id) wr w' := ⟨h2.os, h2.tape, h2.output, by omega, fun b hb hn => (h2.block b (by omega) (fun e => hn ((ht b e.symm).2))).trans (Below.heap_alloc wr ob b hb)⟩
  have hV : HasV w' v (c.map Value.string) := by
    rcases hh with ⟨e1, e2⟩ | ⟨a, k, e1, hk, hc⟩
    · exact .inl ⟨e1, e2⟩
    · refine .inr ⟨a, k, e1, hk, fun i u hi => ?_⟩
      obtain rfl | ⟨b, k', e2⟩ := hv
      · cases e1
      · rw [e1] at e2
        injection e2 with e3 e4 e5
        injection e3 with e3
        subst e3
        by_cases hg : g.ownBlock = some b
        · refine h4 b hg i u ?_
          rw [List.map_append, List.getElem?_append_left (by simpa using (List.getElem?_eq_some_iff.1 hi).1)]
          exact hi
        · have h5 := hc i u hi
          have h6 := World.block_lt_of_cell? wr _ h5
          rw [addBlock] at h6
          rw [World.cell?_of_block (w := wr) (by rw [addBlock]; exact (h2.block b (by show b < _; have : b < wr.heap.size := h6; omega) (fun e => hg e.symm)).trans (Below.heap_alloc wr ob b h6))]
          exact h5
  have hT : ∀ b, b < wr.heap.size → up T' (wr.alloc ob).heap.size (11 + id) b = T' b := fun b hb => up_old (by omega)
  refine ⟨up T' (wr.alloc ob).heap.size (11 + id), ⟨?_, M.kp.frmO F (by omega) (fun x hx e => hL x hx (by omega)) (fun o ho e => ?_) hT, M.frm.trans F fun b hb h => ?_, fun b hb => ?_⟩, ⟨h1, fun b hb => ⟨(World.ownsRow.lt h1 b hb).2, ?_⟩⟩, hV⟩
  · have r := M.rows.frm F (fun t h1 h9 => by omega)
    refine r.retag (by rw [hT K M.rows.lt]; exact r.tK) (fun b hb => ?_) (fun j hj b _ he => ?_)
    · have := M.rows.ge
      have := M.rows.lt
      rw [hT b (by omega)]; exact r.low b hb
    · rw [hT b ((M.rows.row j hj).lt b he).2]; exact r.tag j hj b he
  · obtain ⟨e1, e2⟩ := hO o ho e
    rw [e1, e2]; exact hV
  · intro e
    have := (M.zero b hb).2 e
    omega
  · have := M.frm.size
    rw [hT b (by omega)]; exact M.zero b hb
  · rcases h3 with h | h
    · rw [h] at hb
      rw [hT b (ht b hb).1]
      exact (ht b hb).2
    · rw [hb] at h
      injection h with h
      rw [h]; exact up_new
end
end Go.Proofs.YtnhnggnldhmepabGreatDoor
