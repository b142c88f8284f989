/-
  append of texts onto a list of one's own.
-/
import Derived.Test.YtnhnggnldhmepabGreatDoorStep
import Derived.RangeFuncBox
namespace Go.Proofs.YtnhnggnldhmepabGreatDoor
open Go.RowKit

theorem row_block {w w' : World} {lo e n : Nat} {v : Value} {xs : List Value} (h : w.ownsRow lo e 1 v n xs) (hb : ∀ k, v.ownBlock = some k → w'.heap[k]? = w.heap[k]?) : w'.ownsRow lo e 1 v n xs := by
  obtain ⟨h1, h | ⟨g, cap, cur, hv, hg, hh, hr⟩⟩ := h
  · exact ⟨h1, .inl h⟩
  · subst hv
    exact ⟨h1, .inr ⟨g, cap, cur, rfl, hg, (hb g rfl).trans hh, hr⟩⟩
theorem cell_block {w w' : World} {R o : Nat} {x : Value} (h : w'.heap[R]? = w.heap[R]?) (hc : w.cell? ⟨R, o, none⟩ = some x) : w'.cell? ⟨R, o, none⟩ = some x := by
  simp only [World.cell?, h] at hc ⊢
  exact hc
theorem frozen_block {w w' : World} {R o : Nat} (h : w'.heap[R]? = w.heap[R]?) (hf : w.frozen? ⟨R, o, none⟩ = false) : w'.frozen? ⟨R, o, none⟩ = false := by
  simp only [World.frozen?, h] at hf ⊢
  exact hf
theorem set_block {w : World} {R o b : Nat} {x : Value} (h : b ≠ R) : (w.setCell ⟨R, o, none⟩ x).heap[b]? = w.heap[b]? := by
  simp only [World.setCell]
  rw [Array.getElem?_modify]
  simp [Ne.symm h]
theorem size_set (w : World) (a : Addr) (x : Value) : (w.setCell a x).heap.size = w.heap.size := by simp [World.setCell]
theorem wpList_append_texts {w : World} {ops : Array Oper} {rest : List Oper} {o : Oper} {a : Act} {Q : Exit → Act → World → Prop} (hgd : o.guard = none) (s x : Operand)
    (ho : o.op = .call { callee := .builtin .append, args := #[s, x], argTypes := #[27, 27] })
    (lo : Nat) (v vx : Value) (m l : List ByteArray) (hs : a.eval s = v) (hx : a.eval x = vx) (hown : OwnsT w lo v m) (hhas : HasT w vx l)
    (hlen : m.length + l.length ≤ 1048576) (hbase : lo ≤ w.heap.size)
    (h : ∀ v' w', OwnsT w' lo v' (m ++ l) → Below lo w w' → wpList Tryz.prog ops Q rest (a.put o.dst v') w') : wpList Tryz.prog ops Q (o :: rest) a w := by
  obtain ⟨i0, hi, hz0, hz1, hz2⟩ := info_parts Tryz.info9
  rcases hhas with ⟨rfl, rfl⟩ | ⟨ad, cap, rfl, hc, hcell⟩
  · refine wpList_append_own_none hgd s x 27 ho lo 9 i0 1 Tryz.underlying27 hi v m.length (m.map Value.string) hs hown hx ?_
    exact h v w (by simpa using hown) (Below.refl _ _)
  · refine wpList_append_own w hgd s x 27 ho lo 9 i0 (.string ⟨#[]⟩) 1 16 Tryz.underlying27 hi hz0 hz1 hz2 rfl (by decide) v m.length (m.map Value.string) hs hown ad l.length cap (l.map Value.string) hx (by simp) ?_ ?_ ?_ ?_ hbase ?_
    · intro j u hj
      rw [List.getElem?_map] at hj
      obtain ⟨s0, hs0, rfl⟩ := Option.map_eq_some_iff.1 hj
      exact hcell j s0 hs0
    · intro u hu; obtain ⟨x, _, rfl⟩ := List.mem_map.1 hu; rfl
    · unfold maxLen; omega
    · omega
    · intro v' w' h1 h2 _
      refine h v' w' ?_ ((Below.refl lo w).grown h2 hbase fun k hk => (World.ownsRow.lt hown k hk).1)
      unfold OwnsT
      simpa using h1
end Go.Proofs.YtnhnggnldhmepabGreatDoor
