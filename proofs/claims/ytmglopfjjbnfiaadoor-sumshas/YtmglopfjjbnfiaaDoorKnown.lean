/-
  twinelaw2.known by contract.
-/
import Derived.Test.YtmglopfjjbnfiaaDoorDigest
import Derived.Test.YtmglopfjjbnfiaaDoorEq
import Derived.Test.YtmglopfjjbnfiaaDoorCrcWalk
import Derived.Lib.SlBytesConst
namespace Go.Proofs.YtmglopfjjbnfiaaDoor
open Go.RowKit

theorem has_fr {W : World} {g : Nat} {T : TypeId} {fr : Nat × Nat} (c : Array Value) (p : List Nat) (hc : c = (p.map vb).toArray) (hg : W.heap[g]? = some (.cells c T fr)) : Has W (.slice (some ⟨g, 0, none⟩) p.length p.length) p := by
  refine .inr ⟨⟨g, 0, none⟩, p.length, rfl, Nat.le_refl _, fun i hi => ?_⟩
  rw [addr_add, Nat.zero_add, cell_of_row _ g i _ _ _ hg, hc]
  simp [List.getD, hi]

theorem hasL_one {W : World} {g : Nat} {T : TypeId} {v : Value} {p : List Nat} (hg : W.heap[g]? = some (.cells #[v] T (0, 0))) (hp : Has W v p) : HasL W (.slice (some ⟨g, 0, none⟩) 1 1) [p] :=
  .inr ⟨⟨g, 0, none⟩, 1, rfl, Nat.le_refl _, fun i hi => by
    have : i = 0 := by simpa using hi
    subst this
    exact ⟨v, by rw [addr_add, cell_of_row _ g 0 _ _ _ hg]; rfl, hp⟩⟩

/-- '[]byte("..")': the row gets the run-time's mark. -/
theorem conv43 (w : World) (g : Nat) (C : Array Value) (n c : Nat) (hg : w.heap[g]? = some (.cells C 5 (0, 0))) (B : Nat) (w0 : World) (hb : Below B w0 w) (hB : B ≤ g) :
    ∃ w', (convert 43 43 (.slice (some ⟨g, 0, none⟩) n c)).run Tryd.prog w = .ok (.slice (some ⟨g, 0, none⟩) n c) w' ∧ w'.heap[g]? = some (.cells C 5 (C.size, C.size + 1)) ∧ Below B w0 w' ∧ w'.heap.size = w.heap.size ∧ ∀ k, k ≠ g → w'.heap[k]? = w.heap[k]? := by
  have hsh : w.shape? g = some (5, C.size) := by unfold World.shape?; rw [hg]
  have hrun : (convert 43 43 (.slice (some ⟨g, 0, none⟩) n c)).run Tryd.prog w = .ok (.slice (some ⟨g, 0, none⟩) n c) (w.freeze ⟨g, C.size, none⟩ 1) := by
    simp [convert, run_underlying Tryd.underlying43, run_underlying Tryd.underlying5, markStringish, hsh]
  have hk : ∀ k, k ≠ g → (w.freeze ⟨g, C.size, none⟩ 1).heap[k]? = w.heap[k]? := fun k hk => by
    unfold World.freeze
    rw [if_neg (by decide)]
    simp [Array.getElem?_modify, Ne.symm hk]
  refine ⟨_, hrun, ?_, ?_, ?_, hk⟩
  · unfold World.freeze
    rw [if_neg (by decide)]
    simp [Array.getElem?_modify, hg]
  · refine hb.trans ⟨?_, ?_, ?_, ?_, fun k hk' => hk k (by omega)⟩ <;> (unfold World.freeze; rw [if_neg (by decide)]; try simp)
  · unfold World.freeze
    rw [if_neg (by decide)]; simp
end Go.Proofs.YtmglopfjjbnfiaaDoor
