/-
  STEPS of a plain region, one law for each sort of operation, found by the place of its value: memory by letters.
-/
import Derived.Test.YtfigneaaeakbcaaDoorHMem
import Derived.WalkKit
namespace Go.Proofs.YtfigneaaeakbcaaDoor.Hm
open Go.RowKit

section
variable {ops : Array Oper} {rest : List Oper} {o : Oper} {a : Act} {w : World} {Q : Exit → Act → World → Prop}
/-- a value, the world may be another one -/
theorem pl_val (d : Nat) (v : Value) (w' : World) (hd : o.dst = some d) (hw : Region.wanted o (yielded ops a.tmps) = true) (he : (execOp a.eval o).run Tryd.prog w = .ok (.value v) w') (h : wpList Tryd.prog ops Q rest (a.put (some d) v) w') : wpList Tryd.prog ops Q (o :: rest) a w := by
  refine wpList_execW v w' he hw ?_
  rw [hd]
  exact h
/-- a variable is made -/
theorem pl_alloc (d : Nat) (t : TypeId) (z : Array Value) (hd : o.dst = some d) (ho : o.op = .alloc t) (hw : Region.wanted o (yielded ops a.tmps) = true) (hz : (Tryd.prog.info? t).bind (·.zero) = some (.agg z))
    (h : ∀ w' b, w.heap.size = b → Below w.heap.size w w' → w'.heap[b]? = some (.cells z t (0, 0)) → w'.heap.size = b + 1 → wpList Tryd.prog ops Q rest (a.put (some d) (.pointer (some ⟨b, 0, none⟩))) w') : wpList Tryd.prog ops Q (o :: rest) a w := by
  refine pl_val d _ _ hd hw (exec_allocT t z ho hz w _ rfl) (h _ _ rfl ((Below.refl _ _).alloc (Nat.le_refl _) _) (World.alloc_heap_new w _) (by simp))
/-- a whole variable is written -/
theorem pl_store (t : TypeId) (x y : Operand) (g : Nat) (c old : Array Value) (hd : o.dst = none) (ho : o.op = .store t x y) (hw : Region.wanted o (yielded ops a.tmps) = true) (hx : a.eval x = .pointer (some ⟨g, 0, none⟩)) (hy : a.eval y = .agg c) (hg : w.heap[g]? = some (.cells old t (0, 0)))
    (hz : (Tryd.prog.info? t).map (·.size) = some c.size) (hs : old.size = c.size) (h1 : c.all (·.oneCell') = true)
    (h : ∀ w', Kp (fun b => b = g) w w' → w'.heap[g]? = some (.cells c t (0, 0)) → w'.heap.size = w.heap.size → wpList Tryd.prog ops Q rest a w') : wpList Tryd.prog ops Q (o :: rest) a w := by
  refine wpList_skipW (w.setRow g c) (exec_storeT t x y ho g c old hx hy w hg hz hs h1) hw ?_
  rw [hd]
  exact h _ ⟨rfl, rfl, rfl, by simp, fun b _ hn => setRow_other _ g b _ hn⟩ (setRow_heap _ _ _ _ _ _ hg) (by simp)
theorem setCells_size : ∀ (vs : List Value) (g o : Nat) (w : World), (w.setCells g o vs).heap.size = w.heap.size
  | [], _, _, _ => rfl
  | v :: r, g, o, w => by rw [World.setCells, setCells_size r]; simp
theorem setCells_kp : ∀ (vs : List Value) (g o : Nat) (w : World), Kp (fun b => b = g) w (w.setCells g o vs)
  | [], _, _, _ => Kp.refl _ _
  | v :: r, g, o, w => (Kp.set w g o v).trans (setCells_kp r g (o + 1) _) fun _ _ e => e
theorem heap_setCell_at {w : World} {R o : Nat} {c : Array Value} {T : TypeId} {f : Nat × Nat} (v : Value) (h : w.heap[R]? = some (.cells c T f)) : (w.setCell ⟨R, o, none⟩ v).heap[R]? = some (.cells (c.setIfInBounds o v) T f) := by
  simp [World.setCell, Array.getElem?_modify, h]
theorem heap_setCells {g : Nat} {T : TypeId} {f : Nat × Nat} : ∀ (vs : List Value) (o : Nat) (w : World) (xs : List Value), w.heap[g]? = some (.cells xs.toArray T f) → o + vs.length ≤ xs.length → (w.setCells g o vs).heap[g]? = some (.cells (over xs o vs).toArray T f)
  | [], o, w, xs, h, _ => by simpa [over, World.setCells] using h
  | v :: r, o, w, xs, h, hl => by
    simp only [List.length_cons] at hl
    have h1 := heap_setCell_at (o := o) v h
    rw [List.setIfInBounds_toArray] at h1
    have h2 := heap_setCells r (o + 1) _ _ h1 (by simp; omega)
    rw [over_set _ _ _ _ (by omega)] at h2
    exact h2
/-- a part of a variable is written -/
theorem pl_storeM (t : TypeId) (x y : Operand) (g f : Nat) (c : Array Value) (T : TypeId) (old : List Value) (hd : o.dst = none) (ho : o.op = .store t x y) (hw : Region.wanted o (yielded ops a.tmps) = true) (hx : a.eval x = .pointer (some ⟨g, f, none⟩)) (hy : a.eval y = .agg c) (hg : w.heap[g]? = some (.cells old.toArray T (0, 0)))
    (hs : f + c.size ≤ old.length) (hz : (Tryd.prog.info? t).map (·.size) = some c.size) (h1 : c.all (·.oneCell') = true)
    (h : ∀ w', Kp (fun b => b = g) w w' → w'.heap[g]? = some (.cells (over old f c.toList).toArray T (0, 0)) → w'.heap.size = w.heap.size → wpList Tryd.prog ops Q rest a w') : wpList Tryd.prog ops Q (o :: rest) a w := by
  refine wpList_skipW (w.setCells g f c.toList) (exec_storeM t x y ho g f c hx hy w (there_heap hg (by simpa using hs)) hz h1) hw ?_
  rw [hd]
  exact h _ (setCells_kp _ _ _ _) (heap_setCells _ _ _ _ hg (by simpa using hs)) (setCells_size _ _ _ _)
/-- one cell of a variable is written -/
theorem pl_store1 (t : TypeId) (x y : Operand) (g f : Nat) (v : Value) (T : TypeId) (old : Array Value) (hd : o.dst = none) (_ho : o.op = .store t x y) (hw : Region.wanted o (yielded ops a.tmps) = true) (he : (execOp a.eval o).run Tryd.prog w = .ok .skip (w.setCell ⟨g, f, none⟩ v)) (hg : w.heap[g]? = some (.cells old T (0, 0)))
    (h : ∀ w', Kp (fun b => b = g) w w' → w'.heap[g]? = some (.cells (old.setIfInBounds f v) T (0, 0)) → w'.heap.size = w.heap.size → wpList Tryd.prog ops Q rest a w') : wpList Tryd.prog ops Q (o :: rest) a w := by
  refine wpList_skipW _ he hw ?_
  rw [hd]
  exact h _ (Kp.set _ _ _ _) (heap_setCell_at _ hg) (by simp)
/-- a whole variable, or a part, is read -/
theorem pl_load (d : Nat) (ty : TypeId) (x : Operand) (b off : Nat) (c : Array Value) (u : TypeDesc) (hd : o.dst = some d) (ho : o.op = .load ty x) (hw : Region.wanted o (yielded ops a.tmps) = true) (hx : a.eval x = .pointer (some ⟨b, off, none⟩)) (hc : Lies w b off c)
    (hu : Tryd.prog.underlying ty = some u) (hr : u.isRow = true) (hi : (Tryd.prog.info? ty).map (·.size) = some c.size) (h : wpList Tryd.prog ops Q rest (a.put (some d) (.agg c)) w) : wpList Tryd.prog ops Q (o :: rest) a w :=
  pl_val d _ _ hd hw (exec_load ty x ho b off hx c u hc hu hr hi) h
/-- a call -/
theorem pl_call (d : Nat) (f : FuncId) (args : Array Value) (R : Value → World → Prop) (hd : o.dst = some d) (hw : Region.wanted o (yielded ops a.tmps) = true) (he : (execOp a.eval o).run Tryd.prog w = .ok (.enter f args) w) (hC : Calls Tryd.prog f args w fun e w' => ∃ v, e = .returned v ∧ R v w')
    (h : ∀ v w', R v w' → wpList Tryd.prog ops Q rest (a.put (some d) v) w') : wpList Tryd.prog ops Q (o :: rest) a w := by
  refine wpList_step fun K hK => ?_
  rw [if_pos hw]
  unfold Oper.wp
  rw [he, Oper.upon_enter]
  refine hC.mono ?_
  rintro e w' ⟨v, rfl, hR⟩
  rw [hd]
  exact hK _ _ (h v w' hR)
/-- a struct is put into a new block -/
theorem exec_boxT {o : Oper} {a : Act} (t : TypeId) (x : Operand) (ho : o.op = .box t x) (c : Array Value) (hx : a.eval x = .agg c) (w : World) (b : Nat) (hb : w.heap.size = b) : (execOp a.eval o).run Tryd.prog w = .ok (.value (.pointer (some ⟨b, 0, none⟩))) (w.alloc (.cells c t)) := by
  subst hb
  unfold execOp
  simp only [ho, hx]
  simp [Instr.box, newVar, newRow, newObj, Value.cells]
  rfl
theorem pl_box (d : Nat) (t : TypeId) (x : Operand) (c : Array Value) (hd : o.dst = some d) (ho : o.op = .box t x) (hw : Region.wanted o (yielded ops a.tmps) = true) (hx : a.eval x = .agg c)
    (h : ∀ w' b, w.heap.size = b → Below w.heap.size w w' → w'.heap[b]? = some (.cells c t (0, 0)) → w'.heap.size = b + 1 → wpList Tryd.prog ops Q rest (a.put (some d) (.pointer (some ⟨b, 0, none⟩))) w') : wpList Tryd.prog ops Q (o :: rest) a w := by
  refine pl_val d _ _ hd hw (exec_boxT t x ho c hx w _ rfl) (h _ _ rfl ((Below.refl _ _).alloc (Nat.le_refl _) _) (World.alloc_heap_new w _) (by simp))
end
end Go.Proofs.YtfigneaaeakbcaaDoor.Hm
