/-
  LISTS OF TEXTS: what holds them ('HasT'), what owns them ('OwnsT').
-/
import Derived.Test.YthioflehpifflaaGreatDoorBase
namespace Go.Proofs.YthioflehpifflaaGreatDoor
open Go.RowKit

theorem Tryz.info9 : (Tryz.prog.info? 9).map (fun i => (i.zero, i.size, i.bytes)) = some (some (.string ⟨#[]⟩), 1, 16) := by kernel_rfl

def HasT (w : World) (v : Value) (L : List ByteArray) : Prop :=
  (v = .slice none 0 0 ∧ L = []) ∨ ∃ a cap, v = .slice (some a) L.length cap ∧ L.length ≤ cap ∧ ∀ i s, L[i]? = some s → w.cell? (a.add i) = some (.string s)
def OwnsT (w : World) (lo : Nat) (v : Value) (L : List ByteArray) : Prop := w.ownsRow lo 9 1 v L.length (L.map Value.string)

theorem OwnsT.has {w : World} {lo : Nat} {v : Value} {l : List ByteArray} (h : OwnsT w lo v l) : HasT w v l := by
  have h0 := h
  obtain ⟨_, h | ⟨g, cap, cur, hv, hg, hh, hn, hm, hs, ht⟩⟩ := h
  · obtain ⟨rfl, hl⟩ := h
    exact .inl ⟨rfl, List.length_eq_zero_iff.1 hl⟩
  · subst hv
    refine .inr ⟨_, cap, rfl, hn, fun i s hi => ?_⟩
    have := World.ownsRow.cells h0 (g := g) rfl i (.string s) (by simp [hi])
    exact this
theorem OwnsT.nil (w : World) (lo : Nat) : OwnsT w lo (.slice none 0 0) [] := World.ownsRow_nil _ _ _ _
theorem OwnsT.lt {w : World} {lo : Nat} {v : Value} {l : List ByteArray} (h : OwnsT w lo v l) : ∀ k, v.ownBlock = some k → lo ≤ k ∧ k < w.heap.size := World.ownsRow.lt h
theorem OwnsT.mono {w : World} {lo lo' : Nat} {v : Value} {l : List ByteArray} (h : OwnsT w lo v l) (hl : lo' ≤ lo) : OwnsT w lo' v l := by
  obtain ⟨h1, h | ⟨g, cap, cur, hv, hg, hr⟩⟩ := h
  · exact ⟨h1, .inl h⟩
  · exact ⟨h1, .inr ⟨g, cap, cur, hv, Nat.le_trans hl hg, hr⟩⟩
theorem HasT.block {w w' : World} {v : Value} {l : List ByteArray} (h : HasT w v l) (hb : ∀ a : Addr, a.block < w.heap.size → w'.cell? a = w.cell? a) : HasT w' v l := by
  rcases h with h | ⟨a, cap, hv, hc, h⟩
  · exact .inl h
  · refine .inr ⟨a, cap, hv, hc, fun i s hi => ?_⟩
    have h1 := h i s hi
    rw [hb _ (World.block_lt_of_cell? w _ h1)]
    exact h1
theorem HasT.below {w w' : World} {v : Value} {l : List ByteArray} (h : HasT w v l) (hb : Below w.heap.size w w') : HasT w' v l :=
  h.block fun _ ha => hb.cell ha
theorem HasT.drew {w w' : World} {v : Value} {l : List ByteArray} (h : HasT w v l) (hb : Drew w w') : HasT w' v l := h.below hb.below
theorem Below.up {w w1 w2 : World} (h : Below w.heap.size w w1) (k : Below w1.heap.size w1 w2) : Below w.heap.size w w2 := h.trans (k.mono h.size)
theorem Below.drews {w w1 w2 : World} {B : Nat} (h : Below B w w1) (k : Drew w1 w2) : Below B w w2 := by
  obtain ⟨n, rfl⟩ := k
  exact below_drewN h n
theorem HasT.form {w : World} {v : Value} {l : List ByteArray} (h : HasT w v l) : ∃ ao cap, v = .slice ao l.length cap ∧ l.length ≤ cap := by
  rcases h with ⟨rfl, rfl⟩ | ⟨a, cap, rfl, hc, _⟩
  · exact ⟨none, 0, rfl, Nat.le_refl _⟩
  · exact ⟨some a, cap, rfl, hc⟩
theorem HasT.at {w : World} {v : Value} {l : List ByteArray} (h : HasT w v l) {k : Nat} {s : ByteArray} (hk : l[k]? = some s) : ∃ a cap, v = .slice (some a) l.length cap ∧ w.cell? (a.add k) = some (.string s) := by
  rcases h with ⟨_, rfl⟩ | ⟨a, cap, rfl, _, hc⟩
  · simp at hk
  · exact ⟨a, cap, rfl, hc k s hk⟩
theorem one_new {w : World} {x : Value} {T : TypeId} : ∀ (j : Nat) (u : Value), [x][j]? = some u → (w.alloc (Obj.cells #[x] T)).cell? ((⟨w.heap.size, 0, none⟩ : Addr).add j) = some u := by
  intro j u hj
  match j, hj with
  | 0, hj => simp at hj; subst hj; simp [Addr.add]
theorem rel_own {w wr w1 : World} {v : Value} {o : Obj} (hb : Below w.heap.size w wr) (hown : ∀ k, v.ownBlock = some k → w.heap.size ≤ k) (hg : (wr.alloc o).grownBy w1 v.ownBlock) : Below w.heap.size w w1 :=
  (hb.alloc hb.size o).grown hg (by have := hb.size; simp; omega) hown
end Go.Proofs.YthioflehpifflaaGreatDoor
