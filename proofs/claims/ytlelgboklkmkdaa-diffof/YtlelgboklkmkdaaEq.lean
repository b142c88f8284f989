import Derived.Test.YtlelgboklkmkdaaData
import Derived.RangeFuncRecord
import Derived.Deep.RegionHeld3
import Derived.Deep.DeepCutAuto
import Derived.Deep.RegionLaw
set_option maxRecDepth 100000
/-
  Loads of whole things; a thing's fields.
-/
namespace Go.Proofs.Ytlelgboklkmkdaa
open Go.RowKit
/-- the cells c lie from a place on -/
def Lies (w : World) (g o : Nat) (c : Array Value) : Prop := ∀ j u, c[j]? = some u → w.cell? ⟨g, o + j, none⟩ = some u
theorem Lies.block {w w' : World} {g o : Nat} {c : Array Value} (h : Lies w g o c) (hb : ∀ a : Addr, a.block < w.heap.size → w'.cell? a = w.cell? a) : Lies w' g o c := fun j u hj => by
  have h1 := h j u hj
  rw [hb _ (World.block_lt_of_cell? w _ h1)]
  exact h1
theorem Lies.below {w w' : World} {g o : Nat} {c : Array Value} (h : Lies w g o c) (hb : Below w.heap.size w w') : Lies w' g o c := h.block fun _ ha => hb.cell ha
theorem Lies.drew {w w' : World} {g o : Nat} {c : Array Value} (h : Lies w g o c) (hb : Drew w w') : Lies w' g o c := h.below hb.below
theorem load_lies {w : World} {g o : Nat} {c : Array Value} (ty : TypeId) (d : TypeDesc) (hu : Try.prog.underlying ty = some d) (hd : d.isRow = true) (hi : (Try.prog.info? ty).map (·.size) = some c.size) (h : Lies w g o c) :
    (Instr.loadAt ty (.pointer (some ⟨g, o, none⟩))).run Try.prog w = .ok (.agg c) w := by
  have := run_loadAt_mid (P := Try.prog) w g o ty c.toList d (fun j v hv => h j v (by simpa using hv)) hu hd (by rw [hi]; simp)
  simpa using this
theorem size30 : (Try.prog.info? 30).map (·.size) = some 41 := by kernel_rfl
theorem size24 : (Try.prog.info? 24).map (·.size) = some 35 := by kernel_rfl
theorem size27 : (Try.prog.info? 27).map (·.size) = some 4 := by kernel_rfl
theorem under30 : Try.prog.underlying 30 = some (.struct (Try.prog.fieldsOf 30)) := by kernel_rfl
theorem load30 {w : World} {g o : Nat} {c : Array Value} (hs : c.size = 41) (h : Lies w g o c) : (Instr.loadAt 30 (.pointer (some ⟨g, o, none⟩))).run Try.prog w = .ok (.agg c) w :=
  load_lies 30 _ under30 rfl (by rw [size30, hs]) h
/-- what the walk wants to know of a thing's cells -/
structure Nc (c : Array Value) (nm : ByteArray) (x m : Array Value) (kv : Value) : Prop where
  size : c.size = 41
  name : c[0]? = some (.string nm)
  val : c.extract 1 36 = x
  marks : c.extract 36 40 = m
  kids : c[40]? = some kv
theorem nc_nc (nm : ByteArray) (v : Vd) (m : Md) (kv : Value) : Nc (nc nm v m kv) nm (vx v).toArray (mx m).toArray kv := ⟨nc_size .., nc_name .., nc_val .., nc_marks .., nc_kids ..⟩
/-- all but one block is as it was; new blocks may be there -/
structure But (K : Nat) (w w' : World) : Prop where
  os : w'.os = w.os
  tape : w'.tape = w.tape
  output : w'.output = w.output
  size : w.heap.size ≤ w'.heap.size
  block : ∀ k, k < w.heap.size → k ≠ K → w'.heap[k]? = w.heap[k]?
theorem But.refl (K : Nat) (w : World) : But K w w := ⟨rfl, rfl, rfl, Nat.le_refl _, fun _ _ _ => rfl⟩
theorem But.trans {K : Nat} {a b c : World} (h : But K a b) (k : But K b c) : But K a c :=
  ⟨k.os.trans h.os, k.tape.trans h.tape, k.output.trans h.output, Nat.le_trans h.size k.size, fun i hi hn => (k.block i (by have := h.size; omega) hn).trans (h.block i hi hn)⟩
theorem But.of_below {K : Nat} {a b : World} (h : Below a.heap.size a b) : But K a b := ⟨h.os, h.tape, h.output, h.size, fun i hi _ => h.block i hi⟩
theorem But.below {K B : Nat} {a b : World} (h : But K a b) (hB : B ≤ K) (hs : B ≤ a.heap.size) : Below B a b := ⟨h.os, h.tape, h.output, h.size, fun i hi => h.block i (by omega) (by omega)⟩
theorem But.setCell {K : Nat} {a b : World} (h : But K a b) (i : Nat) (v : Value) : But K a (b.setCell ⟨K, i, none⟩ v) :=
  ⟨h.os, h.tape, h.output, by simpa using h.size, fun j hj hn => (Below.heap_setCell b ⟨K, i, none⟩ v j hn).trans (h.block j hj hn)⟩
theorem But.alloc {K : Nat} {a b : World} (h : But K a b) (o : Obj) : But K a (b.alloc o) :=
  h.trans (But.of_below ((Below.refl _ b).alloc (Nat.le_refl _) o))
theorem But.cell {K : Nat} {a b : World} (h : But K a b) {x : Addr} {v : Value} (hx : a.cell? x = some v) (hn : x.block ≠ K) : b.cell? x = some v := by
  rw [← hx]
  exact World.cell?_of_block (w := a) (h.block _ (World.block_lt_of_cell? a _ hx) hn)
theorem But.frozen {K : Nat} {a b : World} (h : But K a b) {x : Addr} {v : Value} (hx : a.cell? x = some v) (hn : x.block ≠ K) : b.frozen? x = a.frozen? x :=
  World.frozen?_of_block (w := a) (h.block _ (World.block_lt_of_cell? a _ hx) hn)
theorem wpList_loadT {ops : Array Oper} {rest : List Oper} {op : Oper} {a : Act} {w : World} {Q : Exit → Act → World → Prop} (hgd : op.guard = none) (ty : TypeId) (x : Operand) (ho : op.op = .load ty x)
    (b o : Nat) (hx : a.eval x = .pointer (some ⟨b, o, none⟩)) (c : Array Value) (d : TypeDesc) (hc : Lies w b o c)
    (hu : Try.prog.underlying ty = some d) (hd : d.isRow = true) (hi : (Try.prog.info? ty).map (·.size) = some c.size)
    (h : wpList Try.prog ops Q rest (a.put op.dst (.agg c)) w) : wpList Try.prog ops Q (op :: rest) a w :=
  wpList_load_mid (P := Try.prog) hgd ty x ho b o hx c.toList d (fun j v hv => hc j v (by simpa using hv)) hu hd (by rw [hi]; simp) (by simpa using h)
theorem wpList_load30 {ops : Array Oper} {rest : List Oper} {op : Oper} {a : Act} {w : World} {Q : Exit → Act → World → Prop} (hgd : op.guard = none) (x : Operand) (ho : op.op = .load 30 x)
    (b o : Nat) (hx : a.eval x = .pointer (some ⟨b, o, none⟩)) (c : Array Value) (hs : c.size = 41) (hc : Lies w b o c)
    (h : wpList Try.prog ops Q rest (a.put op.dst (.agg c)) w) : wpList Try.prog ops Q (op :: rest) a w :=
  wpList_loadT hgd 30 x ho b o hx c _ hc under30 rfl (by rw [size30, hs]) h
end Go.Proofs.Ytlelgboklkmkdaa
/-
  Values and marks held against one another.
-/
namespace Go.Proofs.Ytlelgboklkmkdaa
open Go.RowKit
theorem size5 (w : World) : (sizeOf 5).run Try.prog w = .ok 1 w := by
  have h1 : (Try.prog.info? 5).map (·.size) = some 1 := by kernel_rfl
  cases hq : Try.prog.info? 5 with
  | none => simp [hq] at h1
  | some i =>
    have hs : i.size = 1 := by simpa [hq] using h1
    simp [sizeOf, typeInfo, hq, hs]
theorem part5 (c : Array Value) (i : Nat) (x : Nat) (h : c[i]? = some (vb x)) (w : World) : (part 5 c (i * 1)).run Try.prog w = .ok (vb x) w := by
  have h1 : (Try.prog.info? 5).map (·.size) = some 1 := by kernel_rfl
  cases hq : Try.prog.info? 5 with
  | none => simp [hq] at h1
  | some j =>
    have hs : j.size = 1 := by simpa [hq] using h1
    simp [part, isAgg, run_underlying Try.underlying5, sizeOf, typeInfo, hq, hs, h]
theorem part3 (c : Array Value) (i : Nat) (x : Int) (h : c[i]? = some (.int .i64 x)) (w : World) : (part 3 c i).run Try.prog w = .ok (.int .i64 x) w := by
  have h1 : (Try.prog.info? 3).map (·.size) = some 1 := by kernel_rfl
  cases hq : Try.prog.info? 3 with
  | none => simp [hq] at h1
  | some j =>
    have hs : j.size = 1 := by simpa [hq] using h1
    simp [part, isAgg, run_underlying Try.underlying3, sizeOf, typeInfo, hq, hs, h]
theorem partAgg (t : TypeId) (d : TypeDesc) (n : Nat) (hu : Try.prog.underlying t = some d) (hd : d.isRow = true) (hi : (Try.prog.info? t).map (·.size) = some n) (c : Array Value) (i : Nat) (_hc : i + n ≤ c.size) (w : World) : (part t c i).run Try.prog w = .ok (.agg (c.extract i (i + n))) w := by
  cases hq : Try.prog.info? t with
  | none => simp [hq] at hi
  | some j =>
    have hs : j.size = n := by simpa [hq] using hi
    have hagg : (isAgg t).run Try.prog w = .ok true w := by
      unfold isAgg
      rw [Sem.run_bind, run_underlying hu w]
      cases d <;> simp_all
    simp [part, Sem.run_bind, hagg, sizeOf, typeInfo, hq, hs]
theorem eq22_list (d : Nat) (c e : Array Value) (w : World) : ∀ (is : List Nat) (x y : Nat → Nat), (∀ i ∈ is, c[i]? = some (vb (x i)) ∧ e[i]? = some (vb (y i))) →
    (forIn is ((none : Option Bool), ()) fun i _ => (do
      let a ← part 5 c (i * 1)
      let b ← part 5 e (i * 1)
      let r ← Op.equalIn (d + 1) 5 a b
      if (!r) = true then pure (ForInStep.done (some false, ())) else pure (ForInStep.yield (none, ())) : Sem (ForInStep (Option Bool × Unit)))).run Try.prog w = .ok (if is.all (fun i => x i == y i) then none else some false, ()) w
  | [], _, _, _ => by simp
  | i :: is, x, y, h => by
    obtain ⟨hx, hy⟩ := h i (by simp)
    have ih := eq22_list d c e w is x y (fun j hj => h j (by simp [hj]))
    simp only [List.forIn_cons, Sem.run_bind, part5 c i _ hx, part5 e i _ hy, Result.andThen_ok]
    simp only [vb, run_equalIn_int w d 5 .u8 .u8 _ _ Try.underlying5, Result.andThen_ok]
    by_cases hxy : x i = y i
    · simp only [hxy, beq_self_eq_true, Bool.not_true, Bool.false_eq_true, if_false, Sem.run_pure, Result.andThen_ok, List.all_cons, Bool.true_and]
      exact ih
    · have h2 : ((x i : Int) == (y i : Int)) = false := by simp; omega
      simp [h2, hxy]
theorem all_range (l m : List Nat) (hl : l.length = 32) (hm : m.length = 32) : (List.range' 0 32).all (fun i => l.getD i 0 == m.getD i 0) = decide (l = m) := by
  rw [Bool.eq_iff_iff]
  simp only [List.all_eq_true, List.mem_range'_1, beq_iff_eq, decide_eq_true_eq]
  constructor
  · intro h
    refine List.ext_getElem (by omega) fun i h1 h2 => ?_
    have := h i (by omega)
    simpa [List.getD, h1, h2] using this
  · rintro rfl i _; rfl
theorem eq22 (d : Nat) (l m : List Nat) (hl : l.length = 32) (hm : m.length = 32) (w : World) : (Op.equalIn (d + 2) 22 (.agg (l.map vb).toArray) (.agg (m.map vb).toArray)).run Try.prog w = .ok (decide (l = m)) w := by
  rw [show d + 2 = (d + 1) + 1 from rfl]
  unfold Op.equalIn
  simp only [Sem.run_bind, run_underlying Try.underlying22, Result.andThen_ok, size5]
  rw [Std.Legacy.Range.forIn_eq_forIn_range']
  rw [eq22_list d (l.map vb).toArray (m.map vb).toArray w _ (fun i => l.getD i 0) (fun i => m.getD i 0) ?_]
  · have h32 : (List.range' [:32].start [:32].size [:32].step) = List.range' 0 32 := by simp
    rw [h32, all_range l m hl hm]
    by_cases e : l = m <;> simp [e]
  · intro i hi
    have h1 : i < l.length := by simp at hi; omega
    have h2 : i < m.length := by simp at hi; omega
    exact ⟨by simp [h1, List.getD], by simp [h2, List.getD]⟩
theorem fields24 : ∃ a b c e : Field, (Try.prog.fieldsOf 24).toList = [a, b, c, e] ∧ (a.name, a.type, a.offset) = ("Kind", 3, 0) ∧ (b.name, b.type, b.offset) = ("Mode", 3, 1) ∧ (c.name, c.type, c.offset) = ("Size", 3, 2) ∧ (e.name, e.type, e.offset) = ("Sum", 22, 3) := by
  have h : (Try.prog.fieldsOf 24).toList.map (fun f => (f.name, f.type, f.offset)) = [("Kind", 3, 0), ("Mode", 3, 1), ("Size", 3, 2), ("Sum", 22, 3)] := by kernel_rfl
  obtain ⟨a, l1, h1, ha, h⟩ := List.map_eq_cons_iff.1 h
  obtain ⟨b, l2, h2, hb, h⟩ := List.map_eq_cons_iff.1 h
  obtain ⟨c, l3, h3, hc, h⟩ := List.map_eq_cons_iff.1 h
  obtain ⟨e, l4, h4, he, h⟩ := List.map_eq_cons_iff.1 h
  obtain rfl := List.map_eq_nil_iff.1 h
  exact ⟨a, b, c, e, by rw [h1, h2, h3, h4], ha, hb, hc, he⟩
theorem fields26 : ∃ a b : Field, (Try.prog.fieldsOf 26).toList = [a, b] ∧ (a.name, a.type, a.offset) = ("Number", 3, 0) ∧ (b.name, b.type, b.offset) = ("Stamp", 3, 1) := by
  have h : (Try.prog.fieldsOf 26).toList.map (fun f => (f.name, f.type, f.offset)) = [("Number", 3, 0), ("Stamp", 3, 1)] := by kernel_rfl
  obtain ⟨a, l1, h1, ha, h⟩ := List.map_eq_cons_iff.1 h
  obtain ⟨b, l2, h2, hb, h⟩ := List.map_eq_cons_iff.1 h
  obtain rfl := List.map_eq_nil_iff.1 h
  exact ⟨a, b, by rw [h1, h2], ha, hb⟩
theorem eqF_int (d : Nat) (xs ys : Array Value) (f : Field) (fs : List Field) (x y : Int) (hn : f.name ≠ "_") (ht : f.type = 3) (hx : xs[f.offset]? = some (.int .i64 x)) (hy : ys[f.offset]? = some (.int .i64 y)) (w : World) :
    (Op.eqFields (d + 1) xs ys (f :: fs)).run Try.prog w = if x = y then (Op.eqFields (d + 1) xs ys fs).run Try.prog w else .ok false w := by
  rw [Op.eqFields, if_pos hn, ht]
  simp only [Sem.run_bind, part3 xs f.offset x hx, part3 ys f.offset y hy, Result.andThen_ok, run_equalIn_int w d 3 .i64 .i64 _ _ Try.underlying3]
  by_cases h : x = y
  · subst h; simp
  · simp [h]
theorem under24 : Try.prog.underlying 24 = some (.struct (Try.prog.fieldsOf 24)) := by kernel_rfl
theorem under26 : Try.prog.underlying 26 = some (.struct (Try.prog.fieldsOf 26)) := by kernel_rfl
theorem size22 : (Try.prog.info? 22).map (·.size) = some 32 := by kernel_rfl
theorem vx_sum (v : Vd) : (vx v).toArray.extract 3 (3 + 32) = (v.sum.map vb).toArray := by
  simp only [vx, List.extract_toArray, List.extract_eq_take_drop, List.drop_succ_cons, List.drop_zero]
  rw [List.take_of_length_le (by simp [v.len])]
theorem ext_vd {v u : Vd} (h1 : v.kind = u.kind) (h2 : v.mode = u.mode) (h3 : v.size = u.size) (h4 : v.sum = u.sum) : v = u := by
  obtain ⟨a, b, c, d, e⟩ := v
  obtain ⟨a', b', c', d', e'⟩ := u
  simp only at h1 h2 h3 h4
  subst h1 h2 h3 h4
  rfl
theorem eq24 (d : Nat) (v u : Vd) (w : World) : (Op.equalIn (d + 3) 24 (.agg (vx v).toArray) (.agg (vx u).toArray)).run Try.prog w = .ok (decide (v = u)) w := by
  rw [show d + 3 = (d + 2) + 1 from rfl, run_equalIn_struct w (d + 2) 24 _ _ under24 (by kernel_rfl)]
  obtain ⟨a, b, c, e, hf, ha, hb, hc, he⟩ := fields24
  simp only [Prod.mk.injEq] at ha hb hc he
  rw [hf]
  have n1 : ∀ s : String, s ∈ ["Kind", "Mode", "Size", "Sum"] → s ≠ "_" := by decide
  have hv := v.len
  have hu := u.len
  rw [eqF_int (d + 1) _ _ a _ v.kind u.kind (by rw [ha.1]; exact n1 _ (by simp)) ha.2.1 (by rw [ha.2.2]; rfl) (by rw [ha.2.2]; rfl),
    eqF_int (d + 1) _ _ b _ v.mode u.mode (by rw [hb.1]; exact n1 _ (by simp)) hb.2.1 (by rw [hb.2.2]; rfl) (by rw [hb.2.2]; rfl),
    eqF_int (d + 1) _ _ c _ v.size u.size (by rw [hc.1]; exact n1 _ (by simp)) hc.2.1 (by rw [hc.2.2]; rfl) (by rw [hc.2.2]; rfl)]
  by_cases h1 : v.kind = u.kind
  · rw [if_pos h1]
    by_cases h2 : v.mode = u.mode
    · rw [if_pos h2]
      by_cases h3 : v.size = u.size
      · rw [if_pos h3, Op.eqFields, if_pos (by rw [he.1]; exact n1 _ (by simp)), he.2.1, he.2.2]
        simp only [Sem.run_bind, Result.andThen_ok, partAgg 22 _ 32 Try.underlying22 rfl size22 (vx v).toArray 3 (by simp [vx_len]), partAgg 22 _ 32 Try.underlying22 rfl size22 (vx u).toArray 3 (by simp [vx_len]), vx_sum, eq22 d v.sum u.sum hv hu]
        by_cases h4 : v.sum = u.sum
        · have : v = u := ext_vd h1 h2 h3 h4
          subst this
          simp [Op.eqFields]
        · have : v ≠ u := fun e => h4 (by rw [e])
          simp [h4, this]
      · rw [if_neg h3]
        have : v ≠ u := fun e => h3 (by rw [e])
        simp [this]
    · rw [if_neg h2]
      have : v ≠ u := fun e => h2 (by rw [e])
      simp [this]
  · rw [if_neg h1]
    have : v ≠ u := fun e => h1 (by rw [e])
    simp [this]
theorem eq26 (d : Nat) (a b a' b' : Int) (w : World) : (Op.equalIn (d + 2) 26 (.agg #[.int .i64 a, .int .i64 b]) (.agg #[.int .i64 a', .int .i64 b'])).run Try.prog w = .ok (decide (a = a' ∧ b = b')) w := by
  rw [show d + 2 = (d + 1) + 1 from rfl, run_equalIn_struct w (d + 1) 26 _ _ under26 (by kernel_rfl)]
  obtain ⟨fa, fb, hf, ha, hb⟩ := fields26
  simp only [Prod.mk.injEq] at ha hb
  rw [hf]
  have n1 : ∀ s : String, s ∈ ["Number", "Stamp"] → s ≠ "_" := by decide
  rw [eqF_int d _ _ fa _ a a' (by rw [ha.1]; exact n1 _ (by simp)) ha.2.1 (by rw [ha.2.2]; rfl) (by rw [ha.2.2]; rfl),
    eqF_int d _ _ fb _ b b' (by rw [hb.1]; exact n1 _ (by simp)) hb.2.1 (by rw [hb.2.2]; rfl) (by rw [hb.2.2]; rfl), Op.eqFields]
  by_cases h1 : a = a' <;> by_cases h2 : b = b' <;> simp [h1, h2]
theorem size26 (w : World) : (sizeOf 26).run Try.prog w = .ok 2 w := by
  have h1 : (Try.prog.info? 26).map (·.size) = some 2 := by kernel_rfl
  cases hq : Try.prog.info? 26 with
  | none => simp [hq] at h1
  | some i =>
    have hs : i.size = 2 := by simpa [hq] using h1
    simp [sizeOf, typeInfo, hq, hs]
theorem eq27 (d : Nat) (m n : Md) (w : World) : (Op.equalIn (d + 3) 27 (.agg (mx m).toArray) (.agg (mx n).toArray)).run Try.prog w = .ok (decide (m = n)) w := by
  rw [show d + 3 = (d + 2) + 1 from rfl]
  unfold Op.equalIn
  have hs : (Try.prog.info? 26).map (·.size) = some 2 := by kernel_rfl
  simp only [Sem.run_bind, run_underlying Try.underlying27, Result.andThen_ok, size26]
  rw [Std.Legacy.Range.forIn_eq_forIn_range']
  have h2 : (List.range' [:2].start [:2].size [:2].step) = [0, 1] := by simp [List.range']
  rw [h2]
  obtain ⟨a, b, c, e⟩ := m
  obtain ⟨a', b', c', e'⟩ := n
  have x0 : ∀ w, (part 26 (mx ⟨a, b, c, e⟩).toArray 0).run Try.prog w = .ok (.agg #[.int .i64 a, .int .i64 b]) w := fun w => by
    rw [partAgg 26 _ 2 under26 rfl hs _ 0 (by simp [mx])]; simp [mx]
  have x1 : ∀ w, (part 26 (mx ⟨a, b, c, e⟩).toArray 2).run Try.prog w = .ok (.agg #[.int .i64 c, .int .i64 e]) w := fun w => by
    rw [partAgg 26 _ 2 under26 rfl hs _ 2 (by simp [mx])]; simp [mx]
  have y0 : ∀ w, (part 26 (mx ⟨a', b', c', e'⟩).toArray 0).run Try.prog w = .ok (.agg #[.int .i64 a', .int .i64 b']) w := fun w => by
    rw [partAgg 26 _ 2 under26 rfl hs _ 0 (by simp [mx])]; simp [mx]
  have y1 : ∀ w, (part 26 (mx ⟨a', b', c', e'⟩).toArray 2).run Try.prog w = .ok (.agg #[.int .i64 c', .int .i64 e']) w := fun w => by
    rw [partAgg 26 _ 2 under26 rfl hs _ 2 (by simp [mx])]; simp [mx]
  simp only [List.forIn_cons, Sem.run_bind, Nat.zero_mul, Nat.one_mul, x0, y0, Result.andThen_ok, eq26]
  by_cases h1 : a = a' ∧ b = b'
  · by_cases h2 : c = c' ∧ e = e'
    · obtain ⟨rfl, rfl⟩ := h1
      obtain ⟨rfl, rfl⟩ := h2
      simp [x1, eq26]
    · obtain ⟨rfl, rfl⟩ := h1
      have : ¬ ((⟨a, b, c, e⟩ : Md) = ⟨a, b, c', e'⟩) := by simpa using h2
      simp [x1, y1, eq26, h2, this]
  · have : ¬ ((⟨a, b, c, e⟩ : Md) = ⟨a', b', c', e'⟩) := by
      simp only [Md.mk.injEq]
      rintro ⟨q1, q2, _⟩
      exact h1 ⟨q1, q2⟩
    simp [h1, this]
theorem exec_eq24 {o : Oper} {a : Act} (x y : Operand) (v u : Vd) (ho : o.op = .binOp .eql 24 x y 24) (hx : a.eval x = .agg (vx v).toArray) (hy : a.eval y = .agg (vx u).toArray) (w : World) :
    (execOp a.eval o).run Try.prog w = .ok (.value (.bool (decide (v = u)))) w := by
  have h' : (Op.equal 24 (.agg (vx v).toArray) (.agg (vx u).toArray)).run Try.prog w = .ok (decide (v = u)) w := eq24 9997 v u w
  have hg : Try.prog.eqGuardType Try.prog.depth 24 = false := by kernel_rfl
  unfold execOp
  simp only [ho, hx, hy, eqGuard, binOp, Sem.run_bind]
  simp [Result.andThen, hg, h']
theorem exec_neq24 {o : Oper} {a : Act} (x y : Operand) (v u : Vd) (ho : o.op = .binOp .neq 24 x y 24) (hx : a.eval x = .agg (vx v).toArray) (hy : a.eval y = .agg (vx u).toArray) (w : World) :
    (execOp a.eval o).run Try.prog w = .ok (.value (.bool (!decide (v = u)))) w := by
  have h' : (Op.equal 24 (.agg (vx v).toArray) (.agg (vx u).toArray)).run Try.prog w = .ok (decide (v = u)) w := eq24 9997 v u w
  have hg : Try.prog.eqGuardType Try.prog.depth 24 = false := by kernel_rfl
  unfold execOp
  simp only [ho, hx, hy, eqGuard, binOp, Sem.run_bind]
  simp [Result.andThen, hg, h']
theorem exec_neq27 {o : Oper} {a : Act} (x y : Operand) (v u : Md) (ho : o.op = .binOp .neq 27 x y 27) (hx : a.eval x = .agg (mx v).toArray) (hy : a.eval y = .agg (mx u).toArray) (w : World) :
    (execOp a.eval o).run Try.prog w = .ok (.value (.bool (!decide (v = u)))) w := by
  have h' : (Op.equal 27 (.agg (mx v).toArray) (.agg (mx u).toArray)).run Try.prog w = .ok (decide (v = u)) w := eq27 9997 v u w
  have hg : Try.prog.eqGuardType Try.prog.depth 27 = false := by kernel_rfl
  unfold execOp
  simp only [ho, hx, hy, eqGuard, binOp, Sem.run_bind]
  simp [Result.andThen, hg, h']
theorem wpList_exec {ops : Array Oper} {rest : List Oper} {o : Oper} {a : Act} {w : World} {Q : Exit → Act → World → Prop} (v : Value)
    (he : (execOp a.eval o).run Try.prog w = .ok (.value v) w) (hw : Region.wanted o (yielded ops a.tmps) = true) (h : wpList Try.prog ops Q rest (a.put o.dst v) w) : wpList Try.prog ops Q (o :: rest) a w := by
  refine wpList_step fun K hK => ?_
  rw [if_pos hw]
  unfold Oper.wp
  rw [he, Oper.upon_value]
  exact hK _ _ h
theorem step_exec {ops : Array Oper} {o : Oper} {a : Act} {w : World} {K : Act → World → Prop} {Q : Exit → Act → World → Prop} (v : Value)
    (he : (execOp a.eval o).run Try.prog w = .ok (.value v) w) (hw : Region.wanted o (yielded ops a.tmps) = true) (h : K (a.put o.dst v) w) : if Region.wanted o (yielded ops a.tmps) = true then Oper.wp Try.prog o a w K Q else K (a.put o.dst undef) w := by
  rw [if_pos hw]
  unfold Oper.wp
  rw [he, Oper.upon_value]
  exact h
theorem exec_load {o : Oper} {a : Act} {w : World} (ty : TypeId) (x : Operand) (ho : o.op = .load ty x) (b off : Nat) (hx : a.eval x = .pointer (some ⟨b, off, none⟩)) (c : Array Value) (d : TypeDesc) (hc : Lies w b off c)
    (hu : Try.prog.underlying ty = some d) (hd : d.isRow = true) (hi : (Try.prog.info? ty).map (·.size) = some c.size) : (execOp a.eval o).run Try.prog w = .ok (.value (.agg c)) w := by
  unfold execOp
  simp only [ho, hx, Sem.run_bind, load_lies ty d hu hd hi hc, Result.andThen_ok, Sem.run_pure]
theorem exec_load30 {o : Oper} {a : Act} {w : World} (x : Operand) (ho : o.op = .load 30 x) (b off : Nat) (hx : a.eval x = .pointer (some ⟨b, off, none⟩)) (c : Array Value) (hs : c.size = 41) (hc : Lies w b off c) : (execOp a.eval o).run Try.prog w = .ok (.value (.agg c)) w :=
  exec_load 30 x ho b off hx c _ hc under30 rfl (by rw [size30, hs])
theorem exec_load24 {o : Oper} {a : Act} {w : World} (x : Operand) (ho : o.op = .load 24 x) (b off : Nat) (hx : a.eval x = .pointer (some ⟨b, off, none⟩)) (c : Array Value) (hs : c.size = 35) (hc : Lies w b off c) : (execOp a.eval o).run Try.prog w = .ok (.value (.agg c)) w :=
  exec_load 24 x ho b off hx c _ hc under24 rfl (by rw [size24, hs])
theorem exec_load27 {o : Oper} {a : Act} {w : World} (x : Operand) (ho : o.op = .load 27 x) (b off : Nat) (hx : a.eval x = .pointer (some ⟨b, off, none⟩)) (c : Array Value) (hs : c.size = 4) (hc : Lies w b off c) : (execOp a.eval o).run Try.prog w = .ok (.value (.agg c)) w :=
  exec_load 27 x ho b off hx c _ hc Try.underlying27 rfl (by rw [size27, hs])
/-- a part of what lies -/
theorem Lies.part {w : World} {g o : Nat} {c : Array Value} (h : Lies w g o c) (i j : Nat) : Lies w g (o + i) (c.extract i j) := fun k u hk => by
  rw [Array.getElem?_extract] at hk
  split at hk
  · have := h (i + k) u hk
    rw [Nat.add_assoc]
    exact this
  · cases hk
theorem lies_val {w : World} {g o : Nat} {nm : ByteArray} {v : Vd} {m : Md} {kv : Value} (h : Lies w g o (nc nm v m kv)) : Lies w g (o + 1) (vx v).toArray := by
  have := h.part 1 36
  rwa [nc_val] at this
theorem lies_marks {w : World} {g o : Nat} {nm : ByteArray} {v : Vd} {m : Md} {kv : Value} (h : Lies w g o (nc nm v m kv)) : Lies w g (o + 36) (mx m).toArray := by
  have := h.part 36 40
  rwa [nc_marks] at this
theorem lies_kids {w : World} {g o : Nat} {nm : ByteArray} {v : Vd} {m : Md} {kv : Value} (h : Lies w g o (nc nm v m kv)) : w.cell? ⟨g, o + 40, none⟩ = some kv := h 40 kv (nc_kids ..)
theorem lies_name {w : World} {g o : Nat} {nm : ByteArray} {v : Vd} {m : Md} {kv : Value} (h : Lies w g o (nc nm v m kv)) : w.cell? ⟨g, o, none⟩ = some (.string nm) := h 0 _ (nc_name ..)
theorem exec_neq24' {o : Oper} {a : Act} (x y : Operand) (ho : o.op = .binOp .neq 24 x y 24) (X Y : Array Value) (hx : a.eval x = .agg X) (hy : a.eval y = .agg Y) (v u : Vd) (hX : X = (vx v).toArray) (hY : Y = (vx u).toArray) (b : Bool) (hb : (!decide (v = u)) = b) (w : World) :
    (execOp a.eval o).run Try.prog w = .ok (.value (.bool b)) w := by
  subst hX hY hb
  exact exec_neq24 x y v u ho hx hy w
theorem exec_neq27' {o : Oper} {a : Act} (x y : Operand) (ho : o.op = .binOp .neq 27 x y 27) (X Y : Array Value) (hx : a.eval x = .agg X) (hy : a.eval y = .agg Y) (v u : Md) (hX : X = (mx v).toArray) (hY : Y = (mx u).toArray) (b : Bool) (hb : (!decide (v = u)) = b) (w : World) :
    (execOp a.eval o).run Try.prog w = .ok (.value (.bool b)) w := by
  subst hX hY hb
  exact exec_neq27 x y v u ho hx hy w
theorem exec_eq24' {o : Oper} {a : Act} (x y : Operand) (ho : o.op = .binOp .eql 24 x y 24) (X Y : Array Value) (hx : a.eval x = .agg X) (hy : a.eval y = .agg Y) (v u : Vd) (hX : X = (vx v).toArray) (hY : Y = (vx u).toArray) (b : Bool) (hb : decide (v = u) = b) (w : World) :
    (execOp a.eval o).run Try.prog w = .ok (.value (.bool b)) w := by
  subst hX hY hb
  exact exec_eq24 x y v u ho hx hy w
/-- a take, the place of its value written out -/
theorem takeD {ops : Array Oper} {Q : Exit → Act → World → Prop} {md : Region.Mode} {S : World → Prop} (i d : Nat) (v : Value) {oi : Oper} {fuel : Nat} {listed : Array Bool} {a : Act} {w : World} (hS : S w) (hi : ops[i]? = some oi) (hd : oi.dst = some d)
    (hs : Region.noSelect ops = true) (hf : Region.free md ops listed i = true) (hr : (Region.ready md ops listed).contains i = true)
    (hQ : ∀ c a w, Q (.panic c) (a.put (some d) v) w → Q (.panic c) a w) (hw : Region.wanted oi (yielded ops a.tmps) = true) (hy : ∀ w, S w → (execOp a.eval oi).run Try.prog w = .ok (.value v) w)
    (h : wpAnyH Try.prog md ops Q S fuel (listed.setIfInBounds i true) (a.put (some d) v) w) : wpAnyH Try.prog md ops Q S (fuel + 1) listed a w :=
  wpAnyH_take hi hs hf hr (by rw [hd]; exact hQ) (Or.inl ⟨hw, hy⟩) hS (by rw [hd]; exact h)
theorem skipD {ops : Array Oper} {Q : Exit → Act → World → Prop} {md : Region.Mode} {S : World → Prop} (i d : Nat) {oi : Oper} {fuel : Nat} {listed : Array Bool} {a : Act} {w : World} (hS : S w) (hi : ops[i]? = some oi) (hd : oi.dst = some d)
    (hs : Region.noSelect ops = true) (hf : Region.free md ops listed i = true) (hr : (Region.ready md ops listed).contains i = true)
    (hQ : ∀ c a w, Q (.panic c) (a.put (some d) undef) w → Q (.panic c) a w) (hw : Region.wanted oi (yielded ops a.tmps) = false)
    (h : wpAnyH Try.prog md ops Q S fuel (listed.setIfInBounds i true) (a.put (some d) undef) w) : wpAnyH Try.prog md ops Q S (fuel + 1) listed a w :=
  wpAnyH_take hi hs hf hr (by rw [hd]; exact hQ) (Or.inr ⟨hw, rfl⟩) hS (by rw [hd]; exact h)
end Go.Proofs.Ytlelgboklkmkdaa
