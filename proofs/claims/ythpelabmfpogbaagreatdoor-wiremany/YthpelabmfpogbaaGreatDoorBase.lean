/-
  THE GROUND OF THE WALKS: closed facts on types; what holds bytes ('Has'), what owns them ('Owns'); append of what holds bytes.
-/
import Derived.Test.YthpelabmfpogbaaGreatDoorProg
import Derived.Test.YthpelabmfpogbaaGreatDoorPlain
import Derived.WalkKit
import Derived.WalkSpells
import Derived.WalkLawsBesides
import Derived.Laws.AppendOwnNone
import Derived.Lib.AppendZeros
import Derived.Lib.SliceRun
import Derived.KernelRfl
namespace Go.Proofs.YthpelabmfpogbaaGreatDoor
open Go.RowKit Wire

theorem Tryz.info5 : (Tryz.prog.info? 5).map (fun i => (i.zero, i.size, i.bytes)) = some (some (.int .u8 0), 1, 1) := by kernel_rfl
theorem Tryz.mixed : Tryz.prog.follows .mixedOrders = true := by kernel_rfl

/-- A slice's value holds these bytes. -/
def Has (w : World) (v : Value) (l : List Int) : Prop :=
  (v = .slice none 0 0 ∧ l = []) ∨ ∃ a cap, v = .slice (some a) l.length cap ∧ l.length ≤ cap ∧ ∀ i, i < l.length → w.cell? (a.add i) = some (.int .u8 (l.getD i 0))

/-- It holds them in a row of its own, from block lo on. -/
def Owns (w : World) (lo : Nat) (v : Value) (l : List Int) : Prop := w.ownsRow lo 5 1 v l.length (l.map (Value.int .u8))

theorem Owns.has {w : World} {lo : Nat} {v : Value} {l : List Int} (h : Owns w lo v l) : Has w v l := by
  have h0 := h
  obtain ⟨_, h | ⟨g, cap, cur, hv, hg, hh, hn, hm, hs, ht⟩⟩ := h
  · obtain ⟨rfl, hl⟩ := h
    exact .inl ⟨rfl, List.length_eq_zero_iff.1 hl⟩
  · subst hv
    refine .inr ⟨_, cap, rfl, hn, fun i hi => ?_⟩
    have := World.ownsRow.cells h0 (g := g) rfl i (.int .u8 (l.getD i 0)) (by simp [List.getD, List.getElem?_eq_getElem hi])
    exact this

theorem Owns.nil (w : World) (lo : Nat) : Owns w lo (.slice none 0 0) [] := World.ownsRow_nil _ _ _ _

theorem Owns.mono {w : World} {lo lo' : Nat} {v : Value} {l : List Int} (h : Owns w lo v l) (hl : lo' ≤ lo) : Owns w lo' v l := by
  obtain ⟨h1, h | ⟨g, cap, cur, hv, hg, hr⟩⟩ := h
  · exact ⟨h1, .inl h⟩
  · exact ⟨h1, .inr ⟨g, cap, cur, hv, Nat.le_trans hl hg, hr⟩⟩

theorem Owns.lt {w : World} {lo : Nat} {v : Value} {l : List Int} (h : Owns w lo v l) : ∀ k, v.ownBlock = some k → lo ≤ k ∧ k < w.heap.size := World.ownsRow.lt h

theorem Owns.block {w w' : World} {lo : Nat} {v : Value} {l : List Int} (h : Owns w lo v l) (hb : ∀ k, v.ownBlock = some k → w'.heap[k]? = w.heap[k]?) : Owns w' lo v l := by
  obtain ⟨h1, h | ⟨g, cap, cur, hv, hg, hh, hr⟩⟩ := h
  · exact ⟨h1, .inl h⟩
  · subst hv
    exact ⟨h1, .inr ⟨g, cap, cur, rfl, hg, (hb g rfl).trans hh, hr⟩⟩

theorem Owns.below {w w' : World} {B lo : Nat} {v : Value} {l : List Int} (h : Owns w lo v l) (hb : Below B w w') (hB : w.heap.size ≤ B) : Owns w' lo v l :=
  h.block fun k hk => hb.block k (Nat.lt_of_lt_of_le (h.lt k hk).2 hB)

theorem Has.block {w w' : World} {v : Value} {l : List Int} (h : Has w v l) (hb : ∀ a : Addr, a.block < w.heap.size → w'.cell? a = w.cell? a) : Has w' v l := by
  rcases h with h | ⟨a, cap, hv, hc, h⟩
  · exact .inl h
  · refine .inr ⟨a, cap, hv, hc, fun i hi => ?_⟩
    have h1 := h i hi
    rw [hb _ (World.block_lt_of_cell? w _ h1)]
    exact h1

theorem Has.below {w w' : World} {v : Value} {l : List Int} (h : Has w v l) (hb : Below w.heap.size w w') : Has w' v l :=
  h.block fun _ ha => hb.cell ha

theorem Below.up {w w1 w2 : World} (h : Below w.heap.size w w1) (k : Below w1.heap.size w1 w2) : Below w.heap.size w w2 := h.trans (k.mono h.size)

theorem Has.nil (w : World) : Has w (.slice none 0 0) [] := .inl ⟨rfl, rfl⟩

theorem Has.form {w : World} {v : Value} {l : List Int} (h : Has w v l) : ∃ ao cap, v = .slice ao l.length cap ∧ l.length ≤ cap := by
  rcases h with ⟨rfl, rfl⟩ | ⟨a, cap, rfl, hc, _⟩
  · exact ⟨none, 0, rfl, Nat.le_refl _⟩
  · exact ⟨some a, cap, rfl, hc⟩

/-- 'out = append(out, x...)': out the call's own (or nil), x holds bytes. -/
theorem wpList_append_has {w : World} {ops : Array Oper} {rest : List Oper} {o : Oper} {a : Act} {Q : Exit → Act → World → Prop} (hgd : o.guard = none) (s x : Operand)
    (ho : o.op = .call { callee := .builtin .append, args := #[s, x], argTypes := #[22, 22] })
    (lo : Nat) (v vx : Value) (m l : List Int) (hs : a.eval s = v) (hx : a.eval x = vx) (hown : Owns w lo v m) (hhas : Has w vx l)
    (hlen : m.length + l.length ≤ 1048576) (hbase : lo ≤ w.heap.size)
    (h : ∀ v' w', Owns w' lo v' (m ++ l) → Below lo w w' → wpList Tryz.prog ops Q rest (a.put o.dst v') w') : wpList Tryz.prog ops Q (o :: rest) a w := by
  obtain ⟨i0, hi, hz0, hz1, hz2⟩ := info_parts Tryz.info5
  rcases hhas with ⟨rfl, rfl⟩ | ⟨ad, cap, rfl, hc, hcell⟩
  · refine wpList_append_own_none hgd s x 22 ho lo 5 i0 1 Tryz.underlying22 hi v m.length (m.map (Value.int .u8)) hs hown hx ?_
    exact h v w (by simpa using hown) (Below.refl _ _)
  · refine wpList_append_own w hgd s x 22 ho lo 5 i0 (.int .u8 0) 1 1 Tryz.underlying22 hi hz0 hz1 hz2 rfl (by decide) v m.length (m.map (Value.int .u8)) hs hown ad l.length cap (l.map (Value.int .u8)) hx (by simp) ?_ ?_ ?_ ?_ hbase ?_
    · intro j u hj
      have hjl : j < l.length := by
        have := (List.getElem?_eq_some_iff.1 hj).1
        simpa using this
      rw [hcell j hjl]
      simpa [List.getD, List.getElem?_eq_getElem hjl] using hj
    · intro u hu; obtain ⟨x, _, rfl⟩ := List.mem_map.1 hu; rfl
    · unfold maxLen; omega
    · omega
    · intro v' w' h1 h2 _
      refine h v' w' ?_ ((Below.refl lo w).grown h2 hbase fun k hk => (World.ownsRow.lt hown k hk).1)
      unfold Owns
      simpa using h1

end Go.Proofs.YthpelabmfpogbaaGreatDoor
