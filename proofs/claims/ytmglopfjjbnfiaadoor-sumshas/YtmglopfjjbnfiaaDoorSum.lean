/-
  (*sum.Hash).Sum by contract: the ground.
-/
import Derived.Test.YtmglopfjjbnfiaaDoorAddWalk
import Derived.Deep.Cut
namespace Go.Proofs.YtmglopfjjbnfiaaDoor
open Go.RowKit

/-- The worlds of the two copies: 'mixed, last := h.mixed, h.rest'. -/
structure St (w0 wf : World) (K : Nat) (T : TypeId) (V : Sha.V) (rst : List Nat) (n : Nat) (g3 g4 : Option Nat) (b3 b4 : Bool) : Prop where
  hash : wf.heap[K]? = some (.cells (hcells V rst n) T (0, 0))
  below : Below w0.heap.size w0 wf
  r3 : ∀ g, g3 = some g → w0.heap.size ≤ g ∧ ∃ c, wf.heap[g]? = some (.cells c 94 (0, 0)) ∧ c.size = 8 ∧ (b3 = true → c = vagg V)
  r4 : ∀ g, g4 = some g → w0.heap.size ≤ g ∧ ∃ c, wf.heap[g]? = some (.cells c 96 (0, 0)) ∧ c.size = 64 ∧ (b4 = true → c = (rst.map vb).toArray)
  ne : ∀ g g', g3 = some g → g4 = some g' → g ≠ g'

def z94 : Array Value := fill 8 []
def z96 : Array Value := bfill 64 []

variable {w0 wf : World} {K : Nat} {T : TypeId} {V : Sha.V} {rst : List Nat} {n : Nat} {g3 g4 : Option Nat} {b3 b4 : Bool}

theorem St.alloc3 (h : St w0 wf K T V rst n none g4 b3 b4) : St w0 (wf.alloc (.cells z94 94)) K T V rst n (some wf.heap.size) g4 false b4 := by
  have hK := (Array.getElem?_eq_some_iff.1 h.hash).1
  refine ⟨?_, h.below.alloc h.below.size _, ?_, ?_, ?_⟩
  · rw [heap_alloc_old _ _ hK]; exact h.hash
  · intro g e; cases e
    exact ⟨h.below.size, z94, heap_alloc_new _ _, rfl, fun e => by cases e⟩
  · intro g e
    obtain ⟨h1, c, h2, h3⟩ := h.r4 g e
    exact ⟨h1, c, by rw [heap_alloc_old _ _ (Array.getElem?_eq_some_iff.1 h2).1]; exact h2, h3⟩
  · intro g g' e e'
    cases e
    obtain ⟨_, c, h2, _⟩ := h.r4 g' e'
    have := (Array.getElem?_eq_some_iff.1 h2).1
    omega
theorem St.alloc4 (h : St w0 wf K T V rst n g3 none b3 b4) : St w0 (wf.alloc (.cells z96 96)) K T V rst n g3 (some wf.heap.size) b3 false := by
  have hK := (Array.getElem?_eq_some_iff.1 h.hash).1
  refine ⟨?_, h.below.alloc h.below.size _, ?_, ?_, ?_⟩
  · rw [heap_alloc_old _ _ hK]; exact h.hash
  · intro g e
    obtain ⟨h1, c, h2, h3⟩ := h.r3 g e
    exact ⟨h1, c, by rw [heap_alloc_old _ _ (Array.getElem?_eq_some_iff.1 h2).1]; exact h2, h3⟩
  · intro g e; cases e
    exact ⟨h.below.size, z96, heap_alloc_new _ _, rfl, fun e => by cases e⟩
  · intro g g' e e'
    cases e'
    obtain ⟨_, c, h2, _⟩ := h.r3 g e
    have := (Array.getElem?_eq_some_iff.1 h2).1
    omega
theorem St.ne3 (h : St w0 wf K T V rst n g3 g4 b3 b4) (hK : K < w0.heap.size) : ∀ g, g3 = some g → K ≠ g := fun g e => by have := (h.r3 g e).1; omega
theorem St.ne4 (h : St w0 wf K T V rst n g3 g4 b3 b4) (hK : K < w0.heap.size) : ∀ g, g4 = some g → K ≠ g := fun g e => by have := (h.r4 g e).1; omega
theorem St.store3 {g : Nat} (h : St w0 wf K T V rst n (some g) g4 b3 b4) (hK : K < w0.heap.size) : St w0 (wf.setRow g (vagg V)) K T V rst n (some g) g4 true b4 := by
  obtain ⟨h1, c, h2, h3, _⟩ := h.r3 g rfl
  refine ⟨?_, below_setRow h.below h1 _, ?_, ?_, h.ne⟩
  · rw [setRow_other _ _ _ _ (h.ne3 hK g rfl)]; exact h.hash
  · intro g' e; cases e
    exact ⟨h1, vagg V, setRow_heap _ _ _ _ _ _ h2, rfl, fun _ => rfl⟩
  · intro g' e
    obtain ⟨k1, c', k2, k3⟩ := h.r4 g' e
    exact ⟨k1, c', by rw [setRow_other _ _ _ _ (Ne.symm (h.ne g g' rfl e))]; exact k2, k3⟩
theorem St.store4 {g : Nat} (h : St w0 wf K T V rst n g3 (some g) b3 b4) (hK : K < w0.heap.size) (hl : rst.length = 64) : St w0 (wf.setRow g (rst.map vb).toArray) K T V rst n g3 (some g) b3 true := by
  obtain ⟨h1, c, h2, h3, _⟩ := h.r4 g rfl
  refine ⟨?_, below_setRow h.below h1 _, ?_, ?_, h.ne⟩
  · rw [setRow_other _ _ _ _ (h.ne4 hK g rfl)]; exact h.hash
  · intro g' e
    obtain ⟨k1, c', k2, k3⟩ := h.r3 g' e
    exact ⟨k1, c', by rw [setRow_other _ _ _ _ (h.ne g' g e rfl)]; exact k2, k3⟩
  · intro g' e; cases e
    exact ⟨h1, _, setRow_heap _ _ _ _ _ _ h2, by simp [hl], fun _ => rfl⟩

variable {md : Region.Mode} {ops : Array Oper} {Q : Exit → Act → World → Prop} {fuel : Nat} {listed : Array Bool} {a : Act} {i : Nat} {o : Oper} {rs : List Nat}

theorem st_load94 (h : St w0 wf K T V rst n g3 g4 b3 b4) (hoi : ops[i]? = some o) (hgd : o.guard = none) (x : Operand) (ho : o.op = .load 94 x) (hx : a.eval x = .pointer (some ⟨K, 0, none⟩))
    (k : wpAny Tryd.prog md ops Q fuel (listed.setIfInBounds i true) (a.put o.dst (.agg (vagg V))) wf)
    (hs : AllReady Tryd.prog md ops Q fuel listed a wf rs) : AllReady Tryd.prog md ops Q fuel listed a wf (i :: rs) :=
  allReady_load hoi hgd 94 x ho K 0 hx ((vlist V).map vw) (.array 8 49) (fun j v hj => by rw [cell_of_row _ K _ _ _ _ h.hash]; exact hcells_mixed j v hj) Tryd.underlying94 rfl (by rw [show ((vlist V).map vw).length = 8 from rfl]; kernel_rfl) k hs
theorem st_load96 (h : St w0 wf K T V rst n g3 g4 b3 b4) (hl : rst.length = 64) (hoi : ops[i]? = some o) (hgd : o.guard = none) (x : Operand) (ho : o.op = .load 96 x) (hx : a.eval x = .pointer (some ⟨K, 8, none⟩))
    (k : wpAny Tryd.prog md ops Q fuel (listed.setIfInBounds i true) (a.put o.dst (.agg (rst.map vb).toArray)) wf)
    (hs : AllReady Tryd.prog md ops Q fuel listed a wf rs) : AllReady Tryd.prog md ops Q fuel listed a wf (i :: rs) :=
  allReady_load hoi hgd 96 x ho K 8 hx (rst.map vb) (.array 64 5) (fun j v hj => by rw [cell_of_row _ K _ _ _ _ h.hash]; exact hcells_rest j v hj) Tryd.underlying96 rfl (by rw [List.length_map, hl]; kernel_rfl) k hs

theorem zero94 : (Tryd.prog.info? 94).map (fun i => (i.zero, i.size)) = some (some (.agg z94), 8) := by kernel_rfl
theorem zero96 : (Tryd.prog.info? 96).map (fun i => (i.zero, i.size)) = some (some (.agg z96), 64) := by kernel_rfl

theorem allReady_alloc (hoi : ops[i]? = some o) (hgd : o.guard = none) (ty : TypeId) (ho : o.op = .alloc ty) (z : Array Value) (s : Nat) (hz : (Tryd.prog.info? ty).map (fun i => (i.zero, i.size)) = some (some (.agg z), s))
    (h : wpAny Tryd.prog md ops Q fuel (listed.setIfInBounds i true) (a.put o.dst (.pointer (some ⟨wf.heap.size, 0, none⟩))) (wf.alloc (.cells z ty)))
    (hs : AllReady Tryd.prog md ops Q fuel listed a wf rs) : AllReady Tryd.prog md ops Q fuel listed a wf (i :: rs) := by
  refine AllReady.cons hoi (fun K' hK => ?_) hs
  have hw : Region.wanted o (yielded ops a.tmps) = true := by simp [Region.wanted, hgd]
  rw [if_pos hw]
  have h0 := (zero_of_info hz).1 wf
  unfold Oper.wp
  simp [execOp, ho, go_sem, h0, Result.andThen]
  exact hK _ _ h

theorem st_alloc94 (h : St w0 wf K T V rst n none g4 b3 b4) (hoi : ops[i]? = some o) (hgd : o.guard = none) (ho : o.op = .alloc 94)
    (k : ∀ w', St w0 w' K T V rst n (some wf.heap.size) g4 false b4 → wpAny Tryd.prog md ops Q fuel (listed.setIfInBounds i true) (a.put o.dst (.pointer (some ⟨wf.heap.size, 0, none⟩))) w')
    (hs : AllReady Tryd.prog md ops Q fuel listed a wf rs) : AllReady Tryd.prog md ops Q fuel listed a wf (i :: rs) :=
  allReady_alloc hoi hgd 94 ho z94 8 zero94 (k _ h.alloc3) hs
theorem st_alloc96 (h : St w0 wf K T V rst n g3 none b3 b4) (hoi : ops[i]? = some o) (hgd : o.guard = none) (ho : o.op = .alloc 96)
    (k : ∀ w', St w0 w' K T V rst n g3 (some wf.heap.size) b3 false → wpAny Tryd.prog md ops Q fuel (listed.setIfInBounds i true) (a.put o.dst (.pointer (some ⟨wf.heap.size, 0, none⟩))) w')
    (hs : AllReady Tryd.prog md ops Q fuel listed a wf rs) : AllReady Tryd.prog md ops Q fuel listed a wf (i :: rs) :=
  allReady_alloc hoi hgd 96 ho z96 64 zero96 (k _ h.alloc4) hs
theorem whole_fin {old c : Array Value} (h : old.size = c.size) : (old.toList.take 0 ++ c.toList ++ old.toList.drop (0 + c.size)).toArray = c := by
  rw [List.take_zero, List.nil_append, List.drop_of_length_le (by simp; omega), List.append_nil]
theorem st_store94 {g : Nat} (h : St w0 wf K T V rst n (some g) g4 b3 b4) (hK : K < w0.heap.size) (hoi : ops[i]? = some o) (hgd : o.guard = none) (x y : Operand) (ho : o.op = .store 94 x y)
    (hx : a.eval x = .pointer (some ⟨g, 0, none⟩)) (hy : a.eval y = .agg (vagg V))
    (k : ∀ w', St w0 w' K T V rst n (some g) g4 true b4 → wpAny Tryd.prog md ops Q fuel (listed.setIfInBounds i true) (a.put o.dst undef) w')
    (hs : AllReady Tryd.prog md ops Q fuel listed a wf rs) : AllReady Tryd.prog md ops Q fuel listed a wf (i :: rs) := by
  obtain ⟨h1, c, h2, h3, _⟩ := h.r3 g rfl
  exact allReady_store hoi hgd 94 x y ho g 0 (vagg V) hx hy c (vagg V) 94 h2 (by rw [show (vagg V).size = 8 from rfl]; kernel_rfl) (by rw [h3, show (vagg V).size = 8 from rfl]; decide) (all_vw _) (whole_fin (by rw [h3]; rfl)) (k _ (h.store3 hK)) hs
theorem st_store96 {g : Nat} (h : St w0 wf K T V rst n g3 (some g) b3 b4) (hK : K < w0.heap.size) (hl : rst.length = 64) (hoi : ops[i]? = some o) (hgd : o.guard = none) (x y : Operand) (ho : o.op = .store 96 x y)
    (hx : a.eval x = .pointer (some ⟨g, 0, none⟩)) (hy : a.eval y = .agg (rst.map vb).toArray)
    (k : ∀ w', St w0 w' K T V rst n g3 (some g) b3 true → wpAny Tryd.prog md ops Q fuel (listed.setIfInBounds i true) (a.put o.dst undef) w')
    (hs : AllReady Tryd.prog md ops Q fuel listed a wf rs) : AllReady Tryd.prog md ops Q fuel listed a wf (i :: rs) := by
  obtain ⟨h1, c, h2, h3, _⟩ := h.r4 g rfl
  have hsz : ((rst.map vb).toArray).size = 64 := by simp [hl]
  exact allReady_store hoi hgd 96 x y ho g 0 (rst.map vb).toArray hx hy c (rst.map vb).toArray 96 h2 (by rw [hsz]; kernel_rfl) (by rw [h3, hsz]; decide) (all_vb _) (whole_fin (by rw [h3, hsz])) (k _ (h.store4 hK hl)) hs
end Go.Proofs.YtmglopfjjbnfiaaDoor
