/-
  What twineref15.Of holds while it goes through the cells.
-/
import Derived.Test.YtpenaeoodfgmpaaGreatDoorRef4
import Derived.Deep.CutBlock
namespace Go.Proofs.YtpenaeoodfgmpaaGreatDoor
open Go.RowKit

def pRow (vi vl : Value) (a b c d : Int) : Array Value := #[vi, vl, .int .i64 a, .int .i64 b, .int .i64 c, .int .i64 d]
/-- the plan as it grows, in the block PB: its two lists in blocks behind it -/
structure PS (w0 wr : World) (PB : Nat) (vi vl : Value) (I : List It) (R : List Int) : Prop where
  pv : wr.heap[PB]? = some (.cells (pRow vi vl 0 0 0 0) 55 (0, 0))
  oi : OwnsI wr (PB + 1) vi I
  ol : OwnsN wr (PB + 1) vl R
  ne : vi.ownBlock = none ∨ vi.ownBlock ≠ vl.ownBlock
  gr : Below PB w0 wr
theorem PS.up {w0 wr w' : World} {PB : Nat} {vi vl : Value} {I : List It} {R : List Int} (h : PS w0 wr PB vi vl I R) (hb : G wr w') : PS w0 w' PB vi vl I R :=
  ⟨(hb.block PB (Array.getElem?_eq_some_iff.1 h.pv).1).trans h.pv, h.oi.up hb, h.ol.up hb, h.ne, h.gr.trans (hb.mono (Nat.le_of_lt (Array.getElem?_eq_some_iff.1 h.pv).1))⟩
theorem own_ne {w : World} {lo s n : Nat} {T : TypeId} {v : Value} {xs : List Value} {PB : Nat} (h : w.ownsRow lo T s v n xs) (hl : PB < lo) : v.ownBlock ≠ some PB := fun e => by have := (World.ownsRow.lt h PB e).1; omega
theorem but_grown {PB : Nat} {w w' : World} (hb : But PB w w') : w.grownBy w' (some PB) := ⟨hb.os, hb.tape, hb.output, hb.size, fun k hk hn => hb.block k hk (fun e => hn (by rw [e]))⟩
theorem ne_symm {v v' : Value} (h : v.ownBlock = none ∨ v.ownBlock ≠ v'.ownBlock) : v'.ownBlock = none ∨ v'.ownBlock ≠ v.ownBlock := by
  rcases h with e | e
  · cases hv : v'.ownBlock
    · exact .inl rfl
    · exact .inr (by rw [e]; simp)
  · exact .inr (Ne.symm e)
theorem below_grown {PB : Nat} {w0 w1 w2 : World} {r : Option Nat} (h : Below PB w0 w1) (hg : w1.grownBy w2 r) (hr : ∀ k, r = some k → PB ≤ k) (hs : PB ≤ w1.heap.size) : Below PB w0 w2 :=
  ⟨hg.os.trans h.os, hg.tape.trans h.tape, hg.output.trans h.output, Nat.le_trans h.size hg.size, fun k hk => (hg.block k (by omega) (fun e => by have := hr k e.symm; omega)).trans (h.block k hk)⟩
theorem PS.putI {w0 wr w1 w2 : World} {PB : Nat} {vi vl : Value} {I : List It} {R : List Int} {x : It} {g cap : Nat} (h : PS w0 wr PB vi vl I R) (h1 : G wr w1)
    (hown : w2.ownsRow (PB + 1) 71 7 (.slice (some ⟨g, 0, none⟩) (I.length + 1) cap) (I.length + 1) (flat ic I ++ (ic x).toList)) (hgr : w1.grownBy w2 vi.ownBlock) (hat : vi.ownBlock = some g ∨ w1.heap.size ≤ g) :
    PS w0 (w2.setCell ⟨PB, 0, none⟩ (.slice (some ⟨g, 0, none⟩) (I.length + 1) cap)) PB (.slice (some ⟨g, 0, none⟩) (I.length + 1) cap) vl (I ++ [x]) R := by
  have H := h.up h1
  have hlt := (Array.getElem?_eq_some_iff.1 H.pv).1
  have hni := own_ne H.oi (Nat.lt_succ_self PB)
  have hK2 : w2.heap[PB]? = some (.cells (pRow vi vl 0 0 0 0) 55 (0, 0)) := (hgr.block PB hlt (fun e => hni e.symm)).trans H.pv
  have hgK : g ≠ PB := by
    rcases hat with e | e
    · intro e2; subst e2; exact hni e
    · omega
  have hb : But PB w2 (w2.setCell ⟨PB, 0, none⟩ (.slice (some ⟨g, 0, none⟩) (I.length + 1) cap)) := (But.refl PB w2).setCell 0 _
  have gr := but_grown hb
  have hl2 : OwnsN w2 (PB + 1) vl R := World.ownsRow.kept H.ol hgr (ne_symm H.ne)
  refine ⟨?_, ?_, World.ownsRow.kept hl2 gr (.inr (own_ne hl2 (Nat.lt_succ_self PB))), ?_, ?_⟩
  · rw [heap_setCell_same _ _ _ _ _ _ hK2]; rfl
  · unfold OwnsI
    rw [flat_snoc, List.length_append]
    exact World.ownsRow.kept hown gr (.inr (fun e => hgK (by simpa [Value.ownBlock] using e)))
  · refine .inr fun e => ?_
    have e' : vl.ownBlock = some g := e.symm
    rcases hat with a | a
    · rcases H.ne with b | b
      · rw [b] at a; cases a
      · exact b (a.trans e'.symm)
    · have := (World.ownsRow.lt H.ol _ e').2
      omega
  · exact (below_grown H.gr hgr (fun k e => by have := (World.ownsRow.lt H.oi k e).1; omega) (by omega)).trans (hb.below (Nat.le_refl _) (Nat.le_trans (Nat.le_of_lt hlt) hgr.size))
theorem PS.putN {w0 wr w1 w2 : World} {PB : Nat} {vi vl : Value} {I : List It} {R : List Int} {x : Int} {g cap : Nat} (h : PS w0 wr PB vi vl I R) (h1 : G wr w1)
    (hown : w2.ownsRow (PB + 1) 3 1 (.slice (some ⟨g, 0, none⟩) (R.length + 1) cap) (R.length + 1) (flat nc R ++ (nc x).toList)) (hgr : w1.grownBy w2 vl.ownBlock) (hat : vl.ownBlock = some g ∨ w1.heap.size ≤ g) :
    PS w0 (w2.setCell ⟨PB, 1, none⟩ (.slice (some ⟨g, 0, none⟩) (R.length + 1) cap)) PB vi (.slice (some ⟨g, 0, none⟩) (R.length + 1) cap) I (R ++ [x]) := by
  have H := h.up h1
  have hlt := (Array.getElem?_eq_some_iff.1 H.pv).1
  have hni := own_ne H.ol (Nat.lt_succ_self PB)
  have hK2 : w2.heap[PB]? = some (.cells (pRow vi vl 0 0 0 0) 55 (0, 0)) := (hgr.block PB hlt (fun e => hni e.symm)).trans H.pv
  have hgK : g ≠ PB := by
    rcases hat with e | e
    · intro e2; subst e2; exact hni e
    · omega
  have hb : But PB w2 (w2.setCell ⟨PB, 1, none⟩ (.slice (some ⟨g, 0, none⟩) (R.length + 1) cap)) := (But.refl PB w2).setCell 1 _
  have gr := but_grown hb
  have hl2 : OwnsI w2 (PB + 1) vi I := World.ownsRow.kept H.oi hgr H.ne
  refine ⟨?_, World.ownsRow.kept hl2 gr (.inr (own_ne hl2 (Nat.lt_succ_self PB))), ?_, ?_, ?_⟩
  · rw [heap_setCell_same _ _ _ _ _ _ hK2]; rfl
  · unfold OwnsN
    rw [flat_snoc, List.length_append]
    exact World.ownsRow.kept hown gr (.inr (fun e => hgK (by simpa [Value.ownBlock] using e)))
  · refine .inr fun e => ?_
    have e' : vi.ownBlock = some g := e
    rcases hat with a | a
    · rcases ne_symm H.ne with b | b
      · rw [b] at a; cases a
      · exact b (a.trans e'.symm)
    · have := (World.ownsRow.lt H.oi _ e').2
      omega
  · exact (below_grown H.gr hgr (fun k e => by have := (World.ownsRow.lt H.ol k e).1; omega) (by omega)).trans (hb.below (Nat.le_refl _) (Nat.le_trans (Nat.le_of_lt hlt) hgr.size))
end Go.Proofs.YtpenaeoodfgmpaaGreatDoor
