/-
  (*sum.Hash).Add by contract.
-/
import Derived.Test.YtmglopfjjbnfiaaDoorHash
namespace Go.Proofs.YtmglopfjjbnfiaaDoor
open Go.RowKit

/-- Nothing but block K has turned. -/
structure But (K : Nat) (w w' : World) : Prop where
  os : w'.os = w.os
  tape : w'.tape = w.tape
  output : w'.output = w.output
  size : w.heap.size ≤ w'.heap.size
  block : ∀ k, k < w.heap.size → k ≠ K → w'.heap[k]? = w.heap[k]?

theorem But.refl (K : Nat) (w : World) : But K w w := ⟨rfl, rfl, rfl, Nat.le_refl _, fun _ _ _ => rfl⟩
theorem But.trans {K : Nat} {a b c : World} (h : But K a b) (k : But K b c) : But K a c :=
  ⟨k.os.trans h.os, k.tape.trans h.tape, k.output.trans h.output, Nat.le_trans h.size k.size, fun i hi hn => (k.block i (Nat.lt_of_lt_of_le hi h.size) hn).trans (h.block i hi hn)⟩
theorem But.of_below {K : Nat} {a b : World} (h : Below a.heap.size a b) : But K a b := ⟨h.os, h.tape, h.output, h.size, fun i hi _ => h.block i hi⟩
theorem But.below {K B : Nat} {a b : World} (h : But K a b) (hB : B ≤ K) (hs : B ≤ a.heap.size) : Below B a b := ⟨h.os, h.tape, h.output, h.size, fun i hi => h.block i (by omega) (by omega)⟩
theorem But.setRow {K : Nat} {a b : World} (h : But K a b) (cs : Array Value) : But K a (b.setRow K cs) :=
  h.trans ⟨rfl, rfl, rfl, by simp [World.setRow], fun i _ hn => setRow_other b K i cs hn⟩
theorem But.setCell {K : Nat} {a b : World} (h : But K a b) (i : Nat) (v : Value) : But K a (b.setCell ⟨K, i, none⟩ v) :=
  h.trans ⟨rfl, rfl, rfl, by simp [World.setCell], fun j _ hn => heap_setCell_other _ _ _ _ hn⟩
theorem But.drewN {K : Nat} {a b : World} (h : But K a b) (n : Nat) : But K a (b.drewN n) := h.trans ⟨rfl, rfl, rfl, Nat.le_refl _, fun _ _ _ => rfl⟩
theorem But.cell {K : Nat} {a b : World} (h : But K a b) {x : Addr} {v : Value} (hx : a.cell? x = some v) (hn : x.block ≠ K) : b.cell? x = some v := by
  have hlt := block_lt_of_cell hx
  have := h.block x.block hlt hn
  unfold World.cell? at hx ⊢
  rw [this]; exact hx
theorem Tabs.but {w w' : World} {K : Nat} (h : Tabs w) (hb : But K w w') (hK : 3 ≤ K) : Tabs w' :=
  ⟨fun i hi => hb.cell (h.first i hi) (by show 1 ≠ K; omega), fun i hi => hb.cell (h.round i hi) (by show 2 ≠ K; omega)⟩
/-- A slice's value lies in another block. -/
def Off (K : Nat) (v : Value) : Prop := ∀ a n c, v = .slice (some a) n c → 0 < n → a.block ≠ K
theorem off_of_has {w : World} {K : Nat} {v : Value} {l : List Nat} (h : Has w v l) (hK : w.heap.size ≤ K) : Off K v := by
  intro a n c e hn
  rcases h with ⟨rfl, _⟩ | ⟨a', cap, rfl, _, hc⟩
  · cases e
  · simp only [Value.slice.injEq, Option.some.injEq] at e
    obtain ⟨rfl, rfl, rfl⟩ := e
    have h0 := block_lt_of_cell (hc 0 hn)
    have : (a'.add 0).block = a'.block := by unfold Addr.add; rfl
    omega
theorem Has.but {w w' : World} {K : Nat} {v : Value} {l : List Nat} (h : Has w v l) (hb : But K w w') (ho : Off K v) : Has w' v l := by
  rcases h with h | ⟨a, cap, rfl, hc, h⟩
  · exact .inl h
  · exact .inr ⟨a, cap, rfl, hc, fun i hi => hb.cell (h i hi) (by have := ho a _ _ rfl (by omega); unfold Addr.add; split <;> exact this)⟩

theorem hcells_size {v : Sha.V} {rest : List Nat} {n : Nat} (h : rest.length = 64) : (hcells v rest n).size = 73 := by simp [hcells, vlist, h]
theorem hcells_count {v : Sha.V} {rest : List Nat} {n : Nat} (h : rest.length = 64) : (hcells v rest n)[72]? = some (.int .i64 (n : Int)) := by
  simp [hcells, vlist, h]
theorem hcells_mixed {v : Sha.V} {rest : List Nat} {n : Nat} : ∀ j x, ((vlist v).map vw)[j]? = some x → (hcells v rest n)[0 + j]? = some x := by
  intro j x hx
  have hj : j < ((vlist v).map vw).length := (List.getElem?_eq_some_iff.1 hx).1
  simp only [hcells, Nat.zero_add, List.getElem?_toArray]
  rw [List.getElem?_append_left hj]; exact hx
theorem hcells_rest {v : Sha.V} {rest : List Nat} {n : Nat} : ∀ j x, (rest.map vb)[j]? = some x → (hcells v rest n)[8 + j]? = some x := by
  intro j x hx
  have hj : j < (rest.map vb).length := (List.getElem?_eq_some_iff.1 hx).1
  simp only [hcells, List.getElem?_toArray]
  rw [List.getElem?_append_right (by simp [vlist]), show 8 + j - ((vlist v).map vw).length = j by simp [vlist], List.getElem?_append_left hj]; exact hx
theorem hcells_setCount {v : Sha.V} {rest : List Nat} {n m : Nat} (h : rest.length = 64) : (hcells v rest n).setIfInBounds 72 (.int .i64 (m : Int)) = hcells v rest m := by
  apply Array.ext'
  simp [hcells, vlist, h]
theorem hcells_splice {v : Sha.V} {rest : List Nat} {n : Nat} (h : rest.length = 64) (r : Nat) (c : List Nat) (hr : r + c.length ≤ 64) :
    ((hcells v rest n).toList.take (8 + r) ++ (c.map vb ++ (hcells v rest n).toList.drop (8 + r + (c.map vb).length))).toArray = hcells v (Sha.splice rest r c) n := by
  apply Array.ext'
  have e : (hcells v rest n).toList = (vlist v).map vw ++ (rest.map vb ++ [Value.int .i64 (n : Int)]) := rfl
  have l8 : ((vlist v).map vw).length = 8 := rfl
  rw [e]
  simp only [hcells, Sha.splice]
  rw [List.take_append, List.take_of_length_le (by omega), l8, show 8 + r - 8 = r by omega, List.take_append_of_le_length (by simp; omega), List.drop_append, List.drop_of_length_le (by omega), l8, show 8 + r + (c.map vb).length - 8 = r + c.length by simp; omega, List.drop_append_of_le_length (by simp; omega)]
  simp [List.map_take, List.map_drop]
theorem hcells_setMixed {v u : Sha.V} {rest : List Nat} {n : Nat} : ((hcells v rest n).toList.take 0 ++ (vagg u).toList ++ (hcells v rest n).toList.drop (0 + (vagg u).size)).toArray = hcells u rest n := by
  apply Array.ext'
  simp [hcells, vagg, vlist]

theorem step_copy_row {ops : Array Oper} {o : Oper} {a : Act} {w : World} {K : Act → World → Prop} {Q : Exit → Act → World → Prop} {E : Prop} (hgd : o.guard = none) (d s : Operand)
    (ho : o.op = .call { callee := .builtin .copy, args := #[d, s], argTypes := #[43, 43] })
    (g off dLen dCap sLen sCap : Nat) (ad : Addr) (hd : a.eval d = .slice (some ⟨g, off, none⟩) dLen dCap) (hs : a.eval s = .slice (some ad) sLen sCap)
    (cur : Array Value) (t : TypeId) (hg : w.heap[g]? = some (.cells cur t (0, 0))) (cs : List Value) (hn : cs.length = Nat.min sLen dLen)
    (hsrc : ∀ j v, cs[j]? = some v → w.cell? (ad.add j) = some v) (hfit : off + cs.length ≤ cur.size) (h1 : ∀ v ∈ cs, v.oneCell' = true) (fin : Array Value)
    (hfin : (cur.toList.take off ++ (cs ++ cur.toList.drop (off + cs.length))).toArray = fin) (m : Nat) (hcm : cs.length = m)
    (h : K (a.put o.dst (.int .i64 (m : Int))) (w.setRow g fin)) :
    if Region.wanted o (yielded ops a.tmps) = true then Oper.wp Tryd.prog o a w K Q else E := by
  have hw : Region.wanted o (yielded ops a.tmps) = true := by simp [Region.wanted, hgd]
  rw [if_pos hw]
  have hrun := run_copy_row (P := Tryd.prog) w 43 43 o.type 5 g off dLen dCap ad sLen sCap cur t cs Tryd.underlying43 (by kernel_rfl) hg hn hsrc hfit h1
  rw [List.append_assoc, hfin] at hrun
  unfold Oper.wp
  simp [execOp, ho, resolve, invoke, builtin, hd, hs, hrun, Result.andThen]
  rw [hcm]
  exact h

theorem run_load_seg {w : World} (ty : TypeId) (g off : Nat) (cs : List Value) (d : TypeDesc) (hc : ∀ j v, cs[j]? = some v → w.cell? ⟨g, off + j, none⟩ = some v)
    (hu : Tryd.prog.underlying ty = some d) (hd : (match d with | .struct _ | .array _ _ => true | _ => false) = true) (hi : (Tryd.prog.info? ty).map (·.size) = some cs.length) :
    (loadVar ty ⟨g, off, none⟩).run Tryd.prog w = .ok (.agg cs.toArray) w := by
  have hl := run_loadCells_list (P := Tryd.prog) w ⟨g, off, none⟩ cs (fun j v hv => by
    rw [addr_add]; exact hc j v hv)
  cases hq : Tryd.prog.info? ty with
  | none => simp [hq] at hi
  | some i =>
    have hs : i.size = cs.length := by simpa [hq] using hi
    have hagg : (isAgg ty).run Tryd.prog w = .ok true w := by
      unfold isAgg
      rw [Sem.run_bind, run_underlying hu w]
      cases d <;> simp_all
    simp [loadVar, Sem.run_bind, hagg, sizeOf, typeInfo, hq, hs, hl]

theorem step_load_seg {ops : Array Oper} {o : Oper} {a : Act} {w : World} {K : Act → World → Prop} {Q : Exit → Act → World → Prop} {E : Prop} (hgd : o.guard = none) (ty : TypeId) (x : Operand) (ho : o.op = .load ty x)
    (g off : Nat) (hx : a.eval x = .pointer (some ⟨g, off, none⟩)) (cs : List Value) (d : TypeDesc) (hc : ∀ j v, cs[j]? = some v → w.cell? ⟨g, off + j, none⟩ = some v)
    (hu : Tryd.prog.underlying ty = some d) (hd : (match d with | .struct _ | .array _ _ => true | _ => false) = true) (hi : (Tryd.prog.info? ty).map (·.size) = some cs.length)
    (h : K (a.put o.dst (.agg cs.toArray)) w) :
    if Region.wanted o (yielded ops a.tmps) = true then Oper.wp Tryd.prog o a w K Q else E := by
  have hw : Region.wanted o (yielded ops a.tmps) = true := by simp [Region.wanted, hgd]
  rw [if_pos hw]
  have hrun := run_load_seg ty g off cs d hc hu hd hi
  unfold Oper.wp execOp
  simp only [ho, hx, Instr.loadAt, Instr.sureAddr, Sem.run_bind, Sem.run_pure, Result.andThen_ok, hrun]
  exact h

theorem run_store_seg {w : World} (ty : TypeId) (g off : Nat) (cells old fin : Array Value) (t : TypeId) (hg : w.heap[g]? = some (.cells old t (0, 0))) (hi : (Tryd.prog.info? ty).map (·.size) = some cells.size)
    (ho : off + cells.size ≤ old.size) (h1 : cells.all (·.oneCell') = true) (hfin : (old.toList.take off ++ cells.toList ++ old.toList.drop (off + cells.size)).toArray = fin) :
    (storeVar ty ⟨g, off, none⟩ (.agg cells)).run Tryd.prog w = .ok () (w.setRow g fin) := by
  have := store_seg off cells hg ho h1
  rw [hfin] at this
  cases hq : Tryd.prog.info? ty with
  | none => simp [hq] at hi
  | some i =>
    have hs : cells.size = i.size := by simp [hq] at hi; omega
    simp [storeVar, sizeOf, typeInfo, hq, Value.cells, hs, this]

theorem step_store_seg {ops : Array Oper} {o : Oper} {a : Act} {w : World} {K : Act → World → Prop} {Q : Exit → Act → World → Prop} {E : Prop} (hgd : o.guard = none) (ty : TypeId) (x y : Operand) (ho : o.op = .store ty x y)
    (g off : Nat) (cells : Array Value) (hx : a.eval x = .pointer (some ⟨g, off, none⟩)) (hy : a.eval y = .agg cells)
    (old fin : Array Value) (t : TypeId) (hg : w.heap[g]? = some (.cells old t (0, 0))) (hi : (Tryd.prog.info? ty).map (·.size) = some cells.size)
    (hof : off + cells.size ≤ old.size) (h1 : cells.all (·.oneCell') = true) (hfin : (old.toList.take off ++ cells.toList ++ old.toList.drop (off + cells.size)).toArray = fin)
    (h : K (a.put o.dst undef) (w.setRow g fin)) :
    if Region.wanted o (yielded ops a.tmps) = true then Oper.wp Tryd.prog o a w K Q else E := by
  have hw : Region.wanted o (yielded ops a.tmps) = true := by simp [Region.wanted, hgd]
  rw [if_pos hw]
  have hrun := run_store_seg ty g off cells old fin t hg hi hof h1 hfin
  unfold Oper.wp execOp
  simp only [ho, hx, hy, Instr.storeAt, Instr.sureAddr, Sem.run_bind, Sem.run_pure, Result.andThen_ok, hrun]
  exact h

theorem allReady_load {md : Region.Mode} {ops : Array Oper} {Q : Exit → Act → World → Prop} {fuel : Nat} {listed : Array Bool} {a : Act} {w : World} {i : Nat} {o : Oper} {rs : List Nat} (hoi : ops[i]? = some o)
    (hgd : o.guard = none) (ty : TypeId) (x : Operand) (ho : o.op = .load ty x)
    (g off : Nat) (hx : a.eval x = .pointer (some ⟨g, off, none⟩)) (cs : List Value) (d : TypeDesc) (hc : ∀ j v, cs[j]? = some v → w.cell? ⟨g, off + j, none⟩ = some v)
    (hu : Tryd.prog.underlying ty = some d) (hd : (match d with | .struct _ | .array _ _ => true | _ => false) = true) (hi : (Tryd.prog.info? ty).map (·.size) = some cs.length)
    (h : wpAny Tryd.prog md ops Q fuel (listed.setIfInBounds i true) (a.put o.dst (.agg cs.toArray)) w)
    (hs : AllReady Tryd.prog md ops Q fuel listed a w rs) : AllReady Tryd.prog md ops Q fuel listed a w (i :: rs) :=
  AllReady.cons hoi (fun _ hK => step_load_seg hgd ty x ho g off hx cs d hc hu hd hi (hK _ _ h)) hs
theorem allReady_store {md : Region.Mode} {ops : Array Oper} {Q : Exit → Act → World → Prop} {fuel : Nat} {listed : Array Bool} {a : Act} {w : World} {i : Nat} {o : Oper} {rs : List Nat} (hoi : ops[i]? = some o)
    (hgd : o.guard = none) (ty : TypeId) (x y : Operand) (ho : o.op = .store ty x y)
    (g off : Nat) (cells : Array Value) (hx : a.eval x = .pointer (some ⟨g, off, none⟩)) (hy : a.eval y = .agg cells)
    (old fin : Array Value) (t : TypeId) (hg : w.heap[g]? = some (.cells old t (0, 0))) (hi : (Tryd.prog.info? ty).map (·.size) = some cells.size)
    (hof : off + cells.size ≤ old.size) (h1 : cells.all (·.oneCell') = true) (hfin : (old.toList.take off ++ cells.toList ++ old.toList.drop (off + cells.size)).toArray = fin)
    (h : wpAny Tryd.prog md ops Q fuel (listed.setIfInBounds i true) (a.put o.dst undef) (w.setRow g fin))
    (hs : AllReady Tryd.prog md ops Q fuel listed a w rs) : AllReady Tryd.prog md ops Q fuel listed a w (i :: rs) :=
  AllReady.cons hoi (fun _ hK => step_store_seg hgd ty x y ho g off cells hx hy old fin t hg hi hof h1 hfin (hK _ _ h)) hs

set_option maxRecDepth 100000 in
theorem slice43 (a : Addr) (len cap m : Nat) (h : m ≤ len) (wz : World) : (Instr.sliceAt 43 (.slice (some a) len cap) (some (.int .i64 (m : Int))) none none).run Tryd.prog wz = .ok (.slice (some (if cap = m then a else a.add m)) (len - m) (cap - m)) wz := by
  have h1 : (Tryd.prog.info? 5).map (·.size) = some 1 := by kernel_rfl
  cases hq : Tryd.prog.info? 5 with
  | none => simp [hq] at h1
  | some i =>
    have hs : i.size = 1 := by simpa [hq] using h1
    have hmI : (m : Int) ≤ (len : Int) := by omega
    rw [run_sliceAt_slice _ 43 _ _ _ _ Tryd.underlying43]
    simp [Instr.slice, run_underlying Tryd.underlying43, Instr.sliceBounds, run_sliceBound, sizeOf, typeInfo, hq, hs, hmI, Result.andThen]
    split <;> simp_all

/-- 'x[m:]' of bytes. -/
theorem Has.drop {w : World} {a : Addr} {cap : Nat} {l : List Nat} (h : Has w (.slice (some a) l.length cap) l) (m : Nat) (hm : m ≤ l.length) :
    Has w (.slice (some (if cap = m then a else a.add m)) (l.length - m) (cap - m)) (l.drop m) := by
  rcases h with ⟨h, _⟩ | ⟨a', cap', e, hc, hcell⟩
  · cases h
  · simp only [Value.slice.injEq, Option.some.injEq, true_and] at e
    obtain ⟨rfl, rfl⟩ := e
    refine .inr ⟨if cap = m then a else a.add m, cap - m, by rw [List.length_drop], by simp; omega, fun i hi => ?_⟩
    have hi' : m + i < l.length := by simp at hi; omega
    rw [if_neg (by omega)]
    have : (a.add m).add i = a.add (m + i) := by
      unfold Addr.add
      by_cases h1 : m = 0 <;> by_cases h2 : i = 0 <;> simp [h1, h2, Nat.add_assoc]
    rw [this, hcell _ hi']
    simp [List.getD, List.getElem?_drop]
end Go.Proofs.YtmglopfjjbnfiaaDoor
