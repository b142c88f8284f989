/-
  What the laws hold behind the plan.
-/
import Derived.Test.YtpenaeoodfgmpaaSafe0
namespace Go.Proofs.Ytpenaeoodfgmpaa
open Go.RowKit

/-- a list of bools lies there -/
def HasB (w : World) (v : Value) (F : List Bool) : Prop :=
  ∃ ao cap, v = .slice ao F.length cap ∧ (∀ (i : Nat) (x : Bool), F[i]? = some x → ∃ g o, ao = some ⟨g, o, none⟩ ∧ w.cell? ⟨g, o + i, none⟩ = some (.bool x))
theorem HasB.up {w w' : World} {v : Value} {L : List Bool} (h : HasB w v L) (hb : G w w') : HasB w' v L := by
  obtain ⟨ao, cap, hv, h⟩ := h
  refine ⟨ao, cap, hv, fun i c hi => ?_⟩
  obtain ⟨g, o, ha, hl⟩ := h i c hi
  refine ⟨g, o, ha, ?_⟩
  rw [hb.cell (World.block_lt_of_cell? w _ hl)]
  exact hl
theorem HasB.at {w : World} {ao : Option Addr} {n cp : Nat} {R : List Bool} (h : HasB w (.slice ao n cp) R) {i : Nat} {x : Bool} (hi : R[i]? = some x) : ∃ g o, ao = some ⟨g, o, none⟩ ∧ w.cell? ⟨g, o + i, none⟩ = some (.bool x) := by
  obtain ⟨a, c, e, h⟩ := h
  injection e with e1 e2 e3
  subst e1
  exact h i x hi
/-- what the laws hold behind the plan: the merge's variable, the plan's, and all that they lead to -/
structure LawS (w wr : World) (M P : Nat) (vc vi vl : Value) (C : List Cd) (p : Pl) : Prop where
  mv : wr.heap[M]? = some (.cells #[vc] 24 (0, 0))
  pv : wr.heap[P]? = some (.cells (pCells p vi vl) 34 (0, 0))
  hc : HasC wr vc C
  hi : HasI wr vi p.items
  hn : HasN wr vl p.left
  hg : G w wr
theorem LawS.up {w wr w' : World} {M P : Nat} {vc vi vl : Value} {C : List Cd} {p : Pl} (h : LawS w wr M P vc vi vl C p) (hb : G wr w') : LawS w w' M P vc vi vl C p :=
  ⟨(hb.block M (Array.getElem?_eq_some_iff.1 h.mv).1).trans h.mv, (hb.block P (Array.getElem?_eq_some_iff.1 h.pv).1).trans h.pv, h.hc.up hb, h.hi.up hb, h.hn.up hb, h.hg.up hb⟩
theorem plan_facts {C : List Cd} {most : Int} {p : Pl} (h : planF C most = p) (hp : ∀ c ∈ C, c.pos) : ∃ B : List Bool, B.length = C.length ∧ B = leave C (cap most) ∧ p.items = its C B C.length ∧ p.left = pls B B.length ∧ p.na = (acc C p.items 0 p.items.length).1.2 ∧ p.ba = (acc C p.items 0 p.items.length).2.2 ∧ p.nb = (acc C p.items 1 p.items.length).1.2 ∧ p.bb = (acc C p.items 1 p.items.length).2.2 := by
  have hc : C.map cnt = C := by
    conv => rhs; rw [← List.map_id C]
    exact List.map_congr_left fun c hc => cnt_id (hp c hc)
  have e : planF C most = ⟨its C (leave C (cap most)) C.length, pls (leave C (cap most)) (leave C (cap most)).length, (acc C (its C (leave C (cap most)) C.length) 0 (its C (leave C (cap most)) C.length).length).1.2, (acc C (its C (leave C (cap most)) C.length) 0 (its C (leave C (cap most)) C.length).length).2.2, (acc C (its C (leave C (cap most)) C.length) 1 (its C (leave C (cap most)) C.length).length).1.2, (acc C (its C (leave C (cap most)) C.length) 1 (its C (leave C (cap most)) C.length).length).2.2⟩ := by
    unfold planF
    simp only [hc]
  rw [e] at h
  subst h
  exact ⟨_, leave_len _ _, rfl, rfl, rfl, rfl, rfl, rfl, rfl⟩
end Go.Proofs.Ytpenaeoodfgmpaa
