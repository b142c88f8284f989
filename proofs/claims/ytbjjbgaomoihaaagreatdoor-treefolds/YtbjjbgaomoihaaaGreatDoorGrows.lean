import Derived.Test.YtbjjbgaomoihaaaGreatDoorCount
set_option maxRecDepth 100000
namespace Go.Proofs.YtbjjbgaomoihaaaGreatDoor
open Go.RowKit
theorem size5 (w : World) : (sizeOf 5).run Tryz.prog w = .ok 1 w := by
  have h1 : (Tryz.prog.info? 5).map (·.size) = some 1 := by kernel_rfl
  cases hq : Tryz.prog.info? 5 with
  | none => simp [hq] at h1
  | some i =>
    have hs : i.size = 1 := by simpa [hq] using h1
    simp [sizeOf, typeInfo, hq, hs]
theorem part5 (c : Array Value) (i : Nat) (x : Nat) (h : c[i]? = some (vb x)) (w : World) : (part 5 c (i * 1)).run Tryz.prog w = .ok (vb x) w := by
  have h1 : (Tryz.prog.info? 5).map (·.size) = some 1 := by kernel_rfl
  cases hq : Tryz.prog.info? 5 with
  | none => simp [hq] at h1
  | some j =>
    have hs : j.size = 1 := by simpa [hq] using h1
    simp [part, isAgg, run_underlying Tryz.underlying5, sizeOf, typeInfo, hq, hs, h]
theorem part3 (c : Array Value) (i : Nat) (x : Int) (h : c[i]? = some (.int .i64 x)) (w : World) : (part 3 c i).run Tryz.prog w = .ok (.int .i64 x) w := by
  have h1 : (Tryz.prog.info? 3).map (·.size) = some 1 := by kernel_rfl
  cases hq : Tryz.prog.info? 3 with
  | none => simp [hq] at h1
  | some j =>
    have hs : j.size = 1 := by simpa [hq] using h1
    simp [part, isAgg, run_underlying Tryz.underlying3, sizeOf, typeInfo, hq, hs, h]
theorem partAgg (t : TypeId) (d : TypeDesc) (n : Nat) (hu : Tryz.prog.underlying t = some d) (hd : d.isRow = true) (hi : (Tryz.prog.info? t).map (·.size) = some n) (c : Array Value) (i : Nat) (_hc : i + n ≤ c.size) (w : World) : (part t c i).run Tryz.prog w = .ok (.agg (c.extract i (i + n))) w := by
  cases hq : Tryz.prog.info? t with
  | none => simp [hq] at hi
  | some j =>
    have hs : j.size = n := by simpa [hq] using hi
    have hagg : (isAgg t).run Tryz.prog w = .ok true w := by
      unfold isAgg
      rw [Sem.run_bind, run_underlying hu w]
      cases d <;> simp_all
    simp [part, Sem.run_bind, hagg, sizeOf, typeInfo, hq, hs]
theorem eq22_list (d : Nat) (c e : Array Value) (w : World) : ∀ (is : List Nat) (x y : Nat → Nat), (∀ i ∈ is, c[i]? = some (vb (x i)) ∧ e[i]? = some (vb (y i))) →
    (forIn is ((none : Option Bool), ()) fun i _ => (do
      let a ← part 5 c (i * 1)
      let b ← part 5 e (i * 1)
      let r ← Op.equalIn (d + 1) 5 a b
      if (!r) = true then pure (ForInStep.done (some false, ())) else pure (ForInStep.yield (none, ())) : Sem (ForInStep (Option Bool × Unit)))).run Tryz.prog w = .ok (if is.all (fun i => x i == y i) then none else some false, ()) w
  | [], _, _, _ => by simp
  | i :: is, x, y, h => by
    obtain ⟨hx, hy⟩ := h i (by simp)
    have ih := eq22_list d c e w is x y (fun j hj => h j (by simp [hj]))
    simp only [List.forIn_cons, Sem.run_bind, part5 c i _ hx, part5 e i _ hy, Result.andThen_ok]
    simp only [vb, run_equalIn_int w d 5 .u8 .u8 _ _ Tryz.underlying5, Result.andThen_ok]
    by_cases hxy : x i = y i
    · simp only [hxy, beq_self_eq_true, Bool.not_true, Bool.false_eq_true, if_false, Sem.run_pure, Result.andThen_ok, List.all_cons, Bool.true_and]
      exact ih
    · have h2 : ((x i : Int) == (y i : Int)) = false := by simp; omega
      simp [h2, hxy]
theorem all_range (l m : List Nat) (hl : l.length = 32) (hm : m.length = 32) : (List.range' 0 32).all (fun i => l.getD i 0 == m.getD i 0) = decide (l = m) := by
  rw [Bool.eq_iff_iff]
  simp only [List.all_eq_true, List.mem_range'_1, beq_iff_eq, decide_eq_true_eq]
  constructor
  · intro h
    refine List.ext_getElem (by omega) fun i h1 h2 => ?_
    have := h i (by omega)
    simpa [List.getD, h1, h2] using this
  · rintro rfl i _; rfl
theorem eq22 (d : Nat) (l m : List Nat) (hl : l.length = 32) (hm : m.length = 32) (w : World) : (Op.equalIn (d + 2) 22 (.agg (l.map vb).toArray) (.agg (m.map vb).toArray)).run Tryz.prog w = .ok (decide (l = m)) w := by
  rw [show d + 2 = (d + 1) + 1 from rfl]
  unfold Op.equalIn
  simp only [Sem.run_bind, run_underlying Tryz.underlying22, Result.andThen_ok, size5]
  rw [Std.Legacy.Range.forIn_eq_forIn_range']
  rw [eq22_list d (l.map vb).toArray (m.map vb).toArray w _ (fun i => l.getD i 0) (fun i => m.getD i 0) ?_]
  · have h32 : (List.range' [:32].start [:32].size [:32].step) = List.range' 0 32 := by simp
    rw [h32, all_range l m hl hm]
    by_cases e : l = m <;> simp [e]
  · intro i hi
    have h1 : i < l.length := by simp at hi; omega
    have h2 : i < m.length := by simp at hi; omega
    exact ⟨by simp [h1, List.getD], by simp [h2, List.getD]⟩
theorem fields24 : ∃ a b c e : Field, (Tryz.prog.fieldsOf 24).toList = [a, b, c, e] ∧ (a.name, a.type, a.offset) = ("Kind", 3, 0) ∧ (b.name, b.type, b.offset) = ("Mode", 3, 1) ∧ (c.name, c.type, c.offset) = ("Size", 3, 2) ∧ (e.name, e.type, e.offset) = ("Sum", 22, 3) := by
  have h : (Tryz.prog.fieldsOf 24).toList.map (fun f => (f.name, f.type, f.offset)) = [("Kind", 3, 0), ("Mode", 3, 1), ("Size", 3, 2), ("Sum", 22, 3)] := by kernel_rfl
  obtain ⟨a, l1, h1, ha, h⟩ := List.map_eq_cons_iff.1 h
  obtain ⟨b, l2, h2, hb, h⟩ := List.map_eq_cons_iff.1 h
  obtain ⟨c, l3, h3, hc, h⟩ := List.map_eq_cons_iff.1 h
  obtain ⟨e, l4, h4, he, h⟩ := List.map_eq_cons_iff.1 h
  obtain rfl := List.map_eq_nil_iff.1 h
  exact ⟨a, b, c, e, by rw [h1, h2, h3, h4], ha, hb, hc, he⟩
theorem fields26 : ∃ a b : Field, (Tryz.prog.fieldsOf 26).toList = [a, b] ∧ (a.name, a.type, a.offset) = ("Number", 3, 0) ∧ (b.name, b.type, b.offset) = ("Stamp", 3, 1) := by
  have h : (Tryz.prog.fieldsOf 26).toList.map (fun f => (f.name, f.type, f.offset)) = [("Number", 3, 0), ("Stamp", 3, 1)] := by kernel_rfl
  obtain ⟨a, l1, h1, ha, h⟩ := List.map_eq_cons_iff.1 h
  obtain ⟨b, l2, h2, hb, h⟩ := List.map_eq_cons_iff.1 h
  obtain rfl := List.map_eq_nil_iff.1 h
  exact ⟨a, b, by rw [h1, h2], ha, hb⟩
theorem eqF_int (d : Nat) (xs ys : Array Value) (f : Field) (fs : List Field) (x y : Int) (hn : f.name ≠ "_") (ht : f.type = 3) (hx : xs[f.offset]? = some (.int .i64 x)) (hy : ys[f.offset]? = some (.int .i64 y)) (w : World) :
    (Op.eqFields (d + 1) xs ys (f :: fs)).run Tryz.prog w = if x = y then (Op.eqFields (d + 1) xs ys fs).run Tryz.prog w else .ok false w := by
  rw [Op.eqFields, if_pos hn, ht]
  simp only [Sem.run_bind, part3 xs f.offset x hx, part3 ys f.offset y hy, Result.andThen_ok, run_equalIn_int w d 3 .i64 .i64 _ _ Tryz.underlying3]
  by_cases h : x = y
  · subst h; simp
  · simp [h]
theorem under24 : Tryz.prog.underlying 24 = some (.struct (Tryz.prog.fieldsOf 24)) := by kernel_rfl
theorem under26 : Tryz.prog.underlying 26 = some (.struct (Tryz.prog.fieldsOf 26)) := by kernel_rfl
theorem size22 : (Tryz.prog.info? 22).map (·.size) = some 32 := by kernel_rfl
theorem vx_sum (v : Vd) : (vx v).toArray.extract 3 (3 + 32) = (v.sum.map vb).toArray := by
  simp only [vx, List.extract_toArray, List.extract_eq_take_drop, List.drop_succ_cons, List.drop_zero]
  rw [List.take_of_length_le (by simp [v.len])]
theorem ext_vd {v u : Vd} (h1 : v.kind = u.kind) (h2 : v.mode = u.mode) (h3 : v.size = u.size) (h4 : v.sum = u.sum) : v = u := by
  obtain ⟨a, b, c, d, e⟩ := v
  obtain ⟨a', b', c', d', e'⟩ := u
  simp only at h1 h2 h3 h4
  subst h1 h2 h3 h4
  rfl
theorem eq24 (d : Nat) (v u : Vd) (w : World) : (Op.equalIn (d + 3) 24 (.agg (vx v).toArray) (.agg (vx u).toArray)).run Tryz.prog w = .ok (decide (v = u)) w := by
  rw [show d + 3 = (d + 2) + 1 from rfl, run_equalIn_struct w (d + 2) 24 _ _ under24 (by kernel_rfl)]
  obtain ⟨a, b, c, e, hf, ha, hb, hc, he⟩ := fields24
  simp only [Prod.mk.injEq] at ha hb hc he
  rw [hf]
  have n1 : ∀ s : String, s ∈ ["Kind", "Mode", "Size", "Sum"] → s ≠ "_" := by decide
  have hv := v.len
  have hu := u.len
  rw [eqF_int (d + 1) _ _ a _ v.kind u.kind (by rw [ha.1]; exact n1 _ (by simp)) ha.2.1 (by rw [ha.2.2]; rfl) (by rw [ha.2.2]; rfl),
    eqF_int (d + 1) _ _ b _ v.mode u.mode (by rw [hb.1]; exact n1 _ (by simp)) hb.2.1 (by rw [hb.2.2]; rfl) (by rw [hb.2.2]; rfl),
    eqF_int (d + 1) _ _ c _ v.size u.size (by rw [hc.1]; exact n1 _ (by simp)) hc.2.1 (by rw [hc.2.2]; rfl) (by rw [hc.2.2]; rfl)]
  by_cases h1 : v.kind = u.kind
  · rw [if_pos h1]
    by_cases h2 : v.mode = u.mode
    · rw [if_pos h2]
      by_cases h3 : v.size = u.size
      · rw [if_pos h3, Op.eqFields, if_pos (by rw [he.1]; exact n1 _ (by simp)), he.2.1, he.2.2]
        simp only [Sem.run_bind, Result.andThen_ok, partAgg 22 _ 32 Tryz.underlying22 rfl size22 (vx v).toArray 3 (by simp [vx_len]), partAgg 22 _ 32 Tryz.underlying22 rfl size22 (vx u).toArray 3 (by simp [vx_len]), vx_sum, eq22 d v.sum u.sum hv hu]
        by_cases h4 : v.sum = u.sum
        · have : v = u := ext_vd h1 h2 h3 h4
          subst this
          simp [Op.eqFields]
        · have : v ≠ u := fun e => h4 (by rw [e])
          simp [h4, this]
      · rw [if_neg h3]
        have : v ≠ u := fun e => h3 (by rw [e])
        simp [this]
    · rw [if_neg h2]
      have : v ≠ u := fun e => h2 (by rw [e])
      simp [this]
  · rw [if_neg h1]
    have : v ≠ u := fun e => h1 (by rw [e])
    simp [this]
theorem eq26 (d : Nat) (a b a' b' : Int) (w : World) : (Op.equalIn (d + 2) 26 (.agg #[.int .i64 a, .int .i64 b]) (.agg #[.int .i64 a', .int .i64 b'])).run Tryz.prog w = .ok (decide (a = a' ∧ b = b')) w := by
  rw [show d + 2 = (d + 1) + 1 from rfl, run_equalIn_struct w (d + 1) 26 _ _ under26 (by kernel_rfl)]
  obtain ⟨fa, fb, hf, ha, hb⟩ := fields26
  simp only [Prod.mk.injEq] at ha hb
  rw [hf]
  have n1 : ∀ s : String, s ∈ ["Number", "Stamp"] → s ≠ "_" := by decide
  rw [eqF_int d _ _ fa _ a a' (by rw [ha.1]; exact n1 _ (by simp)) ha.2.1 (by rw [ha.2.2]; rfl) (by rw [ha.2.2]; rfl),
    eqF_int d _ _ fb _ b b' (by rw [hb.1]; exact n1 _ (by simp)) hb.2.1 (by rw [hb.2.2]; rfl) (by rw [hb.2.2]; rfl), Op.eqFields]
  by_cases h1 : a = a' <;> by_cases h2 : b = b' <;> simp [h1, h2]
theorem size26 (w : World) : (sizeOf 26).run Tryz.prog w = .ok 2 w := by
  have h1 : (Tryz.prog.info? 26).map (·.size) = some 2 := by kernel_rfl
  cases hq : Tryz.prog.info? 26 with
  | none => simp [hq] at h1
  | some i =>
    have hs : i.size = 2 := by simpa [hq] using h1
    simp [sizeOf, typeInfo, hq, hs]
theorem eq27 (d : Nat) (m n : Md) (w : World) : (Op.equalIn (d + 3) 27 (.agg (mx m).toArray) (.agg (mx n).toArray)).run Tryz.prog w = .ok (decide (m = n)) w := by
  rw [show d + 3 = (d + 2) + 1 from rfl]
  unfold Op.equalIn
  have hs : (Tryz.prog.info? 26).map (·.size) = some 2 := by kernel_rfl
  simp only [Sem.run_bind, run_underlying Tryz.underlying27, Result.andThen_ok, size26]
  rw [Std.Legacy.Range.forIn_eq_forIn_range']
  have h2 : (List.range' [:2].start [:2].size [:2].step) = [0, 1] := by simp [List.range']
  rw [h2]
  obtain ⟨a, b, c, e⟩ := m
  obtain ⟨a', b', c', e'⟩ := n
  have x0 : ∀ w, (part 26 (mx ⟨a, b, c, e⟩).toArray 0).run Tryz.prog w = .ok (.agg #[.int .i64 a, .int .i64 b]) w := fun w => by
    rw [partAgg 26 _ 2 under26 rfl hs _ 0 (by simp [mx])]; simp [mx]
  have x1 : ∀ w, (part 26 (mx ⟨a, b, c, e⟩).toArray 2).run Tryz.prog w = .ok (.agg #[.int .i64 c, .int .i64 e]) w := fun w => by
    rw [partAgg 26 _ 2 under26 rfl hs _ 2 (by simp [mx])]; simp [mx]
  have y0 : ∀ w, (part 26 (mx ⟨a', b', c', e'⟩).toArray 0).run Tryz.prog w = .ok (.agg #[.int .i64 a', .int .i64 b']) w := fun w => by
    rw [partAgg 26 _ 2 under26 rfl hs _ 0 (by simp [mx])]; simp [mx]
  have y1 : ∀ w, (part 26 (mx ⟨a', b', c', e'⟩).toArray 2).run Tryz.prog w = .ok (.agg #[.int .i64 c', .int .i64 e']) w := fun w => by
    rw [partAgg 26 _ 2 under26 rfl hs _ 2 (by simp [mx])]; simp [mx]
  simp only [List.forIn_cons, Sem.run_bind, Nat.zero_mul, Nat.one_mul, x0, y0, Result.andThen_ok, eq26]
  by_cases h1 : a = a' ∧ b = b'
  · by_cases h2 : c = c' ∧ e = e'
    · obtain ⟨rfl, rfl⟩ := h1
      obtain ⟨rfl, rfl⟩ := h2
      simp [x1, eq26]
    · obtain ⟨rfl, rfl⟩ := h1
      have : ¬ ((⟨a, b, c, e⟩ : Md) = ⟨a, b, c', e'⟩) := by simpa using h2
      simp [x1, y1, eq26, h2, this]
  · have : ¬ ((⟨a, b, c, e⟩ : Md) = ⟨a', b', c', e'⟩) := by
      simp only [Md.mk.injEq]
      rintro ⟨q1, q2, _⟩
      exact h1 ⟨q1, q2⟩
    simp [h1, this]
theorem exec_neq24 {o : Oper} {a : Act} (x y : Operand) (v u : Vd) (ho : o.op = .binOp .neq 24 x y 24) (hx : a.eval x = .agg (vx v).toArray) (hy : a.eval y = .agg (vx u).toArray) (w : World) :
    (execOp a.eval o).run Tryz.prog w = .ok (.value (.bool (!decide (v = u)))) w := by
  have h' : (Op.equal 24 (.agg (vx v).toArray) (.agg (vx u).toArray)).run Tryz.prog w = .ok (decide (v = u)) w := eq24 9997 v u w
  have hg : Tryz.prog.eqGuardType Tryz.prog.depth 24 = false := by kernel_rfl
  unfold execOp
  simp only [ho, hx, hy, eqGuard, binOp, Sem.run_bind]
  simp [Result.andThen, hg, h']
theorem exec_neq27 {o : Oper} {a : Act} (x y : Operand) (v u : Md) (ho : o.op = .binOp .neq 27 x y 27) (hx : a.eval x = .agg (mx v).toArray) (hy : a.eval y = .agg (mx u).toArray) (w : World) :
    (execOp a.eval o).run Tryz.prog w = .ok (.value (.bool (!decide (v = u)))) w := by
  have h' : (Op.equal 27 (.agg (mx v).toArray) (.agg (mx u).toArray)).run Tryz.prog w = .ok (decide (v = u)) w := eq27 9997 v u w
  have hg : Tryz.prog.eqGuardType Tryz.prog.depth 27 = false := by kernel_rfl
  unfold execOp
  simp only [ho, hx, hy, eqGuard, binOp, Sem.run_bind]
  simp [Result.andThen, hg, h']
theorem wpList_exec {ops : Array Oper} {rest : List Oper} {o : Oper} {a : Act} {w : World} {Q : Exit → Act → World → Prop} (v : Value)
    (he : (execOp a.eval o).run Tryz.prog w = .ok (.value v) w) (hw : Region.wanted o (yielded ops a.tmps) = true) (h : wpList Tryz.prog ops Q rest (a.put o.dst v) w) : wpList Tryz.prog ops Q (o :: rest) a w := by
  refine wpList_step fun K hK => ?_
  rw [if_pos hw]
  unfold Oper.wp
  rw [he, Oper.upon_value]
  exact hK _ _ h
theorem exec_load {o : Oper} {a : Act} {w : World} (ty : TypeId) (x : Operand) (ho : o.op = .load ty x) (b off : Nat) (hx : a.eval x = .pointer (some ⟨b, off, none⟩)) (c : Array Value) (d : TypeDesc) (hc : Lies w b off c)
    (hu : Tryz.prog.underlying ty = some d) (hd : d.isRow = true) (hi : (Tryz.prog.info? ty).map (·.size) = some c.size) : (execOp a.eval o).run Tryz.prog w = .ok (.value (.agg c)) w := by
  unfold execOp
  simp only [ho, hx, Sem.run_bind, load_lies ty d hu hd hi hc, Result.andThen_ok, Sem.run_pure]
theorem exec_load30 {o : Oper} {a : Act} {w : World} (x : Operand) (ho : o.op = .load 30 x) (b off : Nat) (hx : a.eval x = .pointer (some ⟨b, off, none⟩)) (c : Array Value) (hs : c.size = 41) (hc : Lies w b off c) : (execOp a.eval o).run Tryz.prog w = .ok (.value (.agg c)) w :=
  exec_load 30 x ho b off hx c _ hc under30 rfl (by rw [size30, hs])
theorem exec_load24 {o : Oper} {a : Act} {w : World} (x : Operand) (ho : o.op = .load 24 x) (b off : Nat) (hx : a.eval x = .pointer (some ⟨b, off, none⟩)) (c : Array Value) (hs : c.size = 35) (hc : Lies w b off c) : (execOp a.eval o).run Tryz.prog w = .ok (.value (.agg c)) w :=
  exec_load 24 x ho b off hx c _ hc under24 rfl (by rw [size24, hs])
theorem exec_load27 {o : Oper} {a : Act} {w : World} (x : Operand) (ho : o.op = .load 27 x) (b off : Nat) (hx : a.eval x = .pointer (some ⟨b, off, none⟩)) (c : Array Value) (hs : c.size = 4) (hc : Lies w b off c) : (execOp a.eval o).run Tryz.prog w = .ok (.value (.agg c)) w :=
  exec_load 27 x ho b off hx c _ hc Tryz.underlying27 rfl (by rw [size27, hs])
theorem Lies.part {w : World} {g o : Nat} {c : Array Value} (h : Lies w g o c) (i j : Nat) : Lies w g (o + i) (c.extract i j) := fun k u hk => by
  rw [Array.getElem?_extract] at hk
  split at hk
  · have := h (i + k) u hk
    rw [Nat.add_assoc]
    exact this
  · cases hk
theorem lies_val {w : World} {g o : Nat} {nm : ByteArray} {v : Vd} {m : Md} {kv : Value} (h : Lies w g o (nc nm v m kv)) : Lies w g (o + 1) (vx v).toArray := by
  have := h.part 1 36
  rwa [nc_val] at this
theorem lies_marks {w : World} {g o : Nat} {nm : ByteArray} {v : Vd} {m : Md} {kv : Value} (h : Lies w g o (nc nm v m kv)) : Lies w g (o + 36) (mx m).toArray := by
  have := h.part 36 40
  rwa [nc_marks] at this
theorem lies_kids {w : World} {g o : Nat} {nm : ByteArray} {v : Vd} {m : Md} {kv : Value} (h : Lies w g o (nc nm v m kv)) : w.cell? ⟨g, o + 40, none⟩ = some kv := h 40 kv (nc_kids ..)
theorem exec_neq24' {o : Oper} {a : Act} (x y : Operand) (ho : o.op = .binOp .neq 24 x y 24) (X Y : Array Value) (hx : a.eval x = .agg X) (hy : a.eval y = .agg Y) (v u : Vd) (hX : X = (vx v).toArray) (hY : Y = (vx u).toArray) (b : Bool) (hb : (!decide (v = u)) = b) (w : World) :
    (execOp a.eval o).run Tryz.prog w = .ok (.value (.bool b)) w := by
  subst hX hY hb
  exact exec_neq24 x y v u ho hx hy w
theorem exec_neq27' {o : Oper} {a : Act} (x y : Operand) (ho : o.op = .binOp .neq 27 x y 27) (X Y : Array Value) (hx : a.eval x = .agg X) (hy : a.eval y = .agg Y) (v u : Md) (hX : X = (mx v).toArray) (hY : Y = (mx u).toArray) (b : Bool) (hb : (!decide (v = u)) = b) (w : World) :
    (execOp a.eval o).run Tryz.prog w = .ok (.value (.bool b)) w := by
  subst hX hY hb
  exact exec_neq27 x y v u ho hx hy w
theorem takeD {ops : Array Oper} {Q : Exit → Act → World → Prop} {md : Region.Mode} {S : World → Prop} (i d : Nat) (v : Value) {oi : Oper} {fuel : Nat} {listed : Array Bool} {a : Act} {w : World} (hS : S w) (hi : ops[i]? = some oi) (hd : oi.dst = some d)
    (hs : Region.noSelect ops = true) (hf : Region.free md ops listed i = true) (hr : (Region.ready md ops listed).contains i = true)
    (hQ : ∀ c a w, Q (.panic c) (a.put (some d) v) w → Q (.panic c) a w) (hw : Region.wanted oi (yielded ops a.tmps) = true) (hy : ∀ w, S w → (execOp a.eval oi).run Tryz.prog w = .ok (.value v) w)
    (h : wpAnyH Tryz.prog md ops Q S fuel (listed.setIfInBounds i true) (a.put (some d) v) w) : wpAnyH Tryz.prog md ops Q S (fuel + 1) listed a w :=
  wpAnyH_take hi hs hf hr (by rw [hd]; exact hQ) (Or.inl ⟨hw, hy⟩) hS (by rw [hd]; exact h)
def G (w w' : World) : Prop := Below w.heap.size w w'
theorem G.refl (w : World) : G w w := Below.refl _ _
theorem G.trans {a b c : World} (h : G a b) (k : G b c) : G a c := Below.trans (B := a.heap.size) h (k.mono h.size)
theorem G.drew (w : World) : G w w.drew := (Below.refl _ w).drew
theorem G.cell {w w' : World} {a : Addr} {v : Value} (h : G w w') (hc : w.cell? a = some v) : w'.cell? a = some v := (Below.cell (B := w.heap.size) h (World.block_lt_of_cell? w _ hc)).trans hc
theorem G.lies {w w' : World} {g o : Nat} {c : Array Value} (h : G w w') (hc : Lies w g o c) : Lies w' g o c := hc.below h
theorem G.alloc (w : World) (o : Obj) : G w (w.alloc o) := (Below.refl _ w).alloc (Nat.le_refl _) o
def YieldsG (ops : Array Oper) (w0 : World) (o : Oper) (v : Value) (a : Act) : Prop :=
  (Region.wanted o (yielded ops a.tmps) = true ∧ ∀ w, G w0 w → o.quietAt Tryz.prog a (G w) w v) ∨ (Region.wanted o (yielded ops a.tmps) = false ∧ v = undef)
theorem YieldsG.of_same {ops : Array Oper} {w0 : World} {o : Oper} {v : Value} {a a' : Act} (h : YieldsG ops w0 o v a) (he : execOp a'.eval o = execOp a.eval o)
    (hw : Region.wanted o (yielded ops a'.tmps) = Region.wanted o (yielded ops a.tmps)) : YieldsG ops w0 o v a' := by
  unfold YieldsG Oper.quietAt at *
  rw [he, hw]
  exact h
theorem YieldsG.mono {ops : Array Oper} {w0 w1 : World} {o : Oper} {v : Value} {a : Act} (h : YieldsG ops w0 o v a) (hg : G w0 w1) : YieldsG ops w1 o v a :=
  h.imp (fun h => ⟨h.1, fun w hw => h.2 w (hg.trans hw)⟩) id
theorem wp_of_quietAt {o : Oper} {a : Act} {w : World} {v : Value} {K : Act → World → Prop} {Q : Exit → Act → World → Prop} (h : o.quietAt Tryz.prog a (G w) w v) (hk : ∀ w', G w w' → K (a.put o.dst v) w') : o.wp Tryz.prog a w K Q := by
  unfold Oper.quietAt at h
  unfold Oper.wp
  generalize (execOp a.eval o).run Tryz.prog w = r at *
  match r, h with
  | .ok (.value u) w', h =>
    obtain ⟨rfl, rfl⟩ := h
    exact hk _ (G.refl _)
  | .ok .skip w', h =>
    obtain ⟨rfl, rfl⟩ := h
    exact hk _ (G.refl _)
  | .ok (.enter f args) w', h =>
    obtain ⟨rfl, h⟩ := h
    refine Calls.mono h ?_
    rintro e w'' ⟨rfl, hg⟩
    exact hk _ hg
theorem YieldsG.wpOp {ops : Array Oper} {Q : Exit → Act → World → Prop} {w0 w : World} {i : Nat} {o : Oper} {v : Value} {a : Act} {K : Act → World → Prop} (h : YieldsG ops w0 o v a) (hi : ops[i]? = some o) (hg : G w0 w) (hk : ∀ w', G w w' → K (a.put o.dst v) w') : wpOp Tryz.prog ops Q i K a w := by
  unfold Go.wpOp
  rw [hi]
  rcases h with ⟨hw, h⟩ | ⟨hw, rfl⟩
  · simp only [hw, if_true]
    exact .inl (wp_of_quietAt (h w hg) hk)
  · simp only [hw, Bool.false_eq_true, if_false]
    exact hk _ (G.refl _)
theorem wpOp_before {ops : Array Oper} {Q : Exit → Act → World → Prop} {w0 w : World} {j : Nat} {oi oj : Oper} {v : Value} {a : Act} {K : Act → World → Prop} (hj : ops[j]? = some oj) (hap : oi.apart ops oj = true)
    (hsi : ∀ cs b, oi.op ≠ .select cs b) (hsj : ∀ cs b, oj.op ≠ .select cs b) (hQ : ∀ c a w, Q (.panic c) (a.put oi.dst v) w → Q (.panic c) a w)
    (hy : YieldsG ops w0 oi v a) (h : wpOp Tryz.prog ops Q j K (a.put oi.dst v) w) : wpOp Tryz.prog ops Q j (fun a' w' => YieldsG ops w0 oi v a' ∧ K (a'.put oi.dst v) w') a w := by
  obtain ⟨s1, s2, s3⟩ := Oper.apart_spec hap
  have stay : ∀ u, YieldsG ops w0 oi v (a.put oj.dst u) := fun u => hy.of_same (execOp_put oi hsi a oj.dst u s3) (wanted_put oi a oj.dst u s3)
  have swap : ∀ u, (a.put oi.dst v).put oj.dst u = (a.put oj.dst u).put oi.dst v := fun u => Act.put_comm a v u s2
  have ex : execOp (a.put oi.dst v).eval oj = execOp a.eval oj := execOp_put oj hsj a oi.dst v s1
  unfold Go.wpOp at h ⊢
  rw [hj] at h ⊢
  simp only at h ⊢
  rw [wanted_put oj a oi.dst v s1] at h
  by_cases hw : Region.wanted oj (yielded ops a.tmps) = true
  · rw [if_pos hw] at h ⊢
    rcases h with h | h
    · left
      unfold Oper.wp at h ⊢
      rw [ex] at h
      generalize (execOp a.eval oj).run Tryz.prog w = r at h ⊢
      match r, h with
      | .ok (.value u) w', h => exact ⟨stay u, by rw [← swap]; exact h⟩
      | .ok .skip w', h => exact ⟨stay undef, by rw [← swap]; exact h⟩
      | .ok (.defer d) w', h =>
        refine ⟨(hy.of_same (a' := { a with defers := d :: a.defers }) rfl rfl).of_same (execOp_put oi hsi _ oj.dst undef s3) (wanted_put oi _ oj.dst undef s3), ?_⟩
        rw [← Act.put_comm _ v undef s2, ← Act.put_defers]
        exact h
      | .ok (.enter f args) w', h =>
        refine Calls.mono h fun e w'' he => ?_
        match e, he with
        | .returned u, he => exact ⟨stay u, by rw [← swap]; exact he⟩
        | .panicked c, he => exact hQ _ _ _ he
        | .outgrown, he => exact he
      | .ok (.row row args) w', h => exact Rows.mono h fun u w'' he => ⟨stay u, by rw [← swap]; exact he⟩
      | .halt (.panic u) w', h => exact hQ _ _ _ h
    · right
      refine ⟨?_, h.2⟩
      have := h.1
      unfold Oper.asks at this ⊢
      rw [ex] at this
      exact this
  · rw [if_neg hw] at h ⊢
    exact ⟨stay undef, by rw [← swap]; exact h⟩
def wpG (md : Region.Mode) (ops : Array Oper) (Q : Exit → Act → World → Prop) : Nat → Array Bool → Act → World → Prop
  | 0, listed, a, w0 => ∀ w, G w0 w → Region.ready md ops listed = [] ∧ Q .normal a w
  | n + 1, listed, a, w0 => ∀ w, G w0 w → (Region.ready md ops listed = [] → Q .normal a w) ∧
    ∀ i ∈ Region.ready md ops listed, wpOp Tryz.prog ops Q i (fun a' w' => G w w' ∧ wpG md ops Q n (listed.setIfInBounds i true) a' w') a w
theorem wpG.grow {md : Region.Mode} {ops : Array Oper} {Q : Exit → Act → World → Prop} {n : Nat} {listed : Array Bool} {a : Act} {w w' : World} (h : wpG md ops Q n listed a w) (hg : G w w') : wpG md ops Q n listed a w' := by
  cases n with
  | zero => exact fun x hx => h x (hg.trans hx)
  | succ n => exact fun x hx => h x (hg.trans hx)
theorem wpG.any {md : Region.Mode} {ops : Array Oper} {Q : Exit → Act → World → Prop} : ∀ (n : Nat) (listed : Array Bool) (a : Act) (w : World), wpG md ops Q n listed a w → wpAny Tryz.prog md ops Q n listed a w
  | 0, _, _, w, h => h w (G.refl w)
  | n + 1, _, _, w, h => ⟨(h w (G.refl w)).1, fun i hi => wpOp_mono (fun a' w' h' => wpG.any n _ a' w' h'.2) ((h w (G.refl w)).2 i hi)⟩
theorem wpG_first {md : Region.Mode} {ops : Array Oper} {Q : Exit → Act → World → Prop} {i : Nat} {oi : Oper} {v : Value} (hi : ops[i]? = some oi) (hsel : ∀ (j : Nat) (o : Oper) cs b, ops[j]? = some o → o.op ≠ .select cs b)
    (hQ : ∀ c a w, Q (.panic c) (a.put oi.dst v) w → Q (.panic c) a w) :
    ∀ (n : Nat) (listed : Array Bool) (a : Act) (w0 : World), (∀ j oj, ops[j]? = some oj → j ≠ i → listed.getD j true = false → (∀ e ∈ oj.after, Region.binds md e = true → e.on ≠ i) → oi.apart ops oj = true) →
      i ∈ Region.ready md ops listed → YieldsG ops w0 oi v a → wpG md ops Q n (listed.setIfInBounds i true) (a.put oi.dst v) w0 → wpG md ops Q (n + 1) listed a w0 := by
  intro n
  induction n with
  | zero =>
    intro listed a w0 _ hr hy H w hg
    refine ⟨fun e => (by rw [e] at hr; cases hr), fun j hj => ?_⟩
    by_cases hji : j = i
    · subst hji
      exact hy.wpOp hi hg fun w' hg' => ⟨hg', fun x hx => H x ((hg.trans hg').trans hx)⟩
    · have := ready_mono hj hji
      rw [(H w hg).1] at this
      cases this
  | succ n ih =>
    intro listed a w0 hfree hr hy H w hg
    refine ⟨fun e => (by rw [e] at hr; cases hr), fun j hj => ?_⟩
    by_cases hji : j = i
    · subst hji
      exact hy.wpOp hi hg fun w' hg' => ⟨hg', H.grow (hg.trans hg')⟩
    · obtain ⟨hun, oj, hoj, hall⟩ := mem_ready.1 hj
      have hno : ∀ e ∈ oj.after, Region.binds md e = true → e.on ≠ i := fun e he hb heq => by
        have h1 := hall e he hb
        rw [heq] at h1
        have h0 := (mem_ready.1 hr).1
        by_cases hlt : i < listed.size
        · simp [Array.getD, hlt] at h0 h1
          rw [h0] at h1
          cases h1
        · simp [Array.getD, hlt] at h1
      have h2 := wpOp_before hoj (hfree j oj hoj hji hun hno) (fun cs b => hsel i oi cs b hi) (fun cs b => hsel j oj cs b hoj) hQ hy ((H w hg).2 j (ready_mono hj hji))
      refine wpOp_mono (fun a' w' h3 => ⟨h3.2.1, ih (listed.setIfInBounds j true) a' w' ?_ (ready_mono hr (Ne.symm hji)) (h3.1.mono (hg.trans h3.2.1)) ?_⟩) h2
      · intro k ok hk hki hunk hnok
        refine hfree k ok hk hki ?_ hnok
        by_cases hjk : j = k
        · subst hjk; exact hun
        · rwa [getD_set_ne true hjk] at hunk
      · rw [Array.setIfInBounds_comm _ _ hji]
        exact h3.2.2
section
variable {ops : Array Oper} {Q : Exit → Act → World → Prop} {md : Region.Mode}
theorem wp_region_G {id : Nat} {a : Act} {w : World} (h : wpG .any ops Q ops.size (Array.replicate ops.size false) a w.drew) : (Code.region id ops true).wp Tryz.prog Q a w :=
  wp_region_any (by kernel_rfl) (wpG.any _ _ _ _ h)
theorem takeG (i d : Nat) (v : Value) {oi : Oper} {n : Nat} {listed : Array Bool} {a : Act} {w0 : World} (hi : ops[i]? = some oi) (hd : oi.dst = some d)
    (hs : Region.noSelect ops = true) (hf : Region.free md ops listed i = true) (hr : (Region.ready md ops listed).contains i = true)
    (hQ : ∀ c a w, Q (.panic c) (a.put (some d) v) w → Q (.panic c) a w) (hw : Region.wanted oi (yielded ops a.tmps) = true) (hy : ∀ w, G w0 w → (execOp a.eval oi).run Tryz.prog w = .ok (.value v) w)
    (h : wpG md ops Q n (listed.setIfInBounds i true) (a.put (some d) v) w0) : wpG md ops Q (n + 1) listed a w0 :=
  wpG_first hi (Region.noSelect_spec hs) (by rw [hd]; exact hQ) n listed a w0 (Region.free_spec hi hf) (by simpa using hr)
    (.inl ⟨hw, fun w hg => by unfold Oper.quietAt; rw [hy w hg]; exact ⟨rfl, rfl⟩⟩) (by rw [hd]; exact h)
theorem skipG (i d : Nat) {oi : Oper} {n : Nat} {listed : Array Bool} {a : Act} {w0 : World} (hi : ops[i]? = some oi) (hd : oi.dst = some d)
    (hs : Region.noSelect ops = true) (hf : Region.free md ops listed i = true) (hr : (Region.ready md ops listed).contains i = true)
    (hQ : ∀ c a w, Q (.panic c) (a.put (some d) undef) w → Q (.panic c) a w) (hw : Region.wanted oi (yielded ops a.tmps) = false)
    (h : wpG md ops Q n (listed.setIfInBounds i true) (a.put (some d) undef) w0) : wpG md ops Q (n + 1) listed a w0 :=
  wpG_first hi (Region.noSelect_spec hs) (by rw [hd]; exact hQ) n listed a w0 (Region.free_spec hi hf) (by simpa using hr) (.inr ⟨hw, rfl⟩) (by rw [hd]; exact h)
theorem callG (i d : Nat) (v : Value) {oi : Oper} {n : Nat} {listed : Array Bool} {a : Act} {w0 : World} (f : FuncId) (args : Array Value) (hi : ops[i]? = some oi) (hd : oi.dst = some d)
    (hs : Region.noSelect ops = true) (hf : Region.free md ops listed i = true) (hr : (Region.ready md ops listed).contains i = true)
    (hQ : ∀ c a w, Q (.panic c) (a.put (some d) v) w → Q (.panic c) a w) (hw : Region.wanted oi (yielded ops a.tmps) = true) (hx : ∀ w, (execOp a.eval oi).run Tryz.prog w = .ok (.enter f args) w)
    (hc : ∀ w, G w0 w → Calls Tryz.prog f args w fun e w' => e = .returned v ∧ G w w')
    (h : wpG md ops Q n (listed.setIfInBounds i true) (a.put (some d) v) w0) : wpG md ops Q (n + 1) listed a w0 :=
  wpG_first hi (Region.noSelect_spec hs) (by rw [hd]; exact hQ) n listed a w0 (Region.free_spec hi hf) (by simpa using hr)
    (.inl ⟨hw, fun w hg => by unfold Oper.quietAt; rw [hx w]; exact ⟨rfl, hc w hg⟩⟩) (by rw [hd]; exact h)
theorem doneG {n : Nat} {listed : Array Bool} {a : Act} {w0 : World} (hr : Region.ready md ops listed = []) (h : ∀ w, G w0 w → Q .normal a w) : wpG md ops Q n listed a w0 := by
  cases n with
  | zero => exact fun w hg => ⟨hr, h w hg⟩
  | succ n => exact fun w hg => ⟨fun _ => h w hg, fun i hi => by rw [hr] at hi; cases hi⟩
def AllG (md : Region.Mode) (ops : Array Oper) (Q : Exit → Act → World → Prop) (n : Nat) (listed : Array Bool) (a : Act) (w : World) (rs : List Nat) : Prop :=
  ∀ i ∈ rs, wpOp Tryz.prog ops Q i (fun a' w' => G w w' ∧ wpG md ops Q n (listed.setIfInBounds i true) a' w') a w
theorem readyG (rs : List Nat) {n : Nat} {listed : Array Bool} {a : Act} {w0 : World} (hr : Region.ready md ops listed = rs) (hne : rs ≠ []) (h : ∀ w, G w0 w → AllG md ops Q n listed a w rs) : wpG md ops Q (n + 1) listed a w0 :=
  fun w hg => ⟨fun e => absurd (hr ▸ e) hne, hr ▸ h w hg⟩
theorem AllG.nil {n : Nat} {listed : Array Bool} {a : Act} {w : World} : AllG md ops Q n listed a w [] := fun _ h => by cases h
theorem AllG.call (i d : Nat) {oi : Oper} {n : Nat} {listed : Array Bool} {a : Act} {w : World} {rs : List Nat} (f : FuncId) (args : Array Value) (hi : ops[i]? = some oi) (hd : oi.dst = some d) (hw : Region.wanted oi (yielded ops a.tmps) = true)
    (hx : (execOp a.eval oi).run Tryz.prog w = .ok (.enter f args) w) (hc : Calls Tryz.prog f args w fun e w' => ∃ v, e = .returned v ∧ G w w' ∧ wpG md ops Q n (listed.setIfInBounds i true) (a.put (some d) v) w')
    (hs : AllG md ops Q n listed a w rs) : AllG md ops Q n listed a w (i :: rs) := fun j hj => by
  rcases List.mem_cons.1 hj with rfl | hj
  · unfold Go.wpOp
    rw [hi]
    simp only [hw, if_true]
    left
    unfold Oper.wp
    rw [hx]
    refine Calls.mono hc ?_
    rintro e w' ⟨v, rfl, hg, h⟩
    rw [hd]
    exact ⟨hg, h⟩
  · exact hs j hj
theorem AllG.value (i d : Nat) (v : Value) (w' : World) {oi : Oper} {n : Nat} {listed : Array Bool} {a : Act} {w : World} {rs : List Nat} (hi : ops[i]? = some oi) (hd : oi.dst = some d) (hw : Region.wanted oi (yielded ops a.tmps) = true)
    (hx : (execOp a.eval oi).run Tryz.prog w = .ok (.value v) w') (hg : G w w') (h : wpG md ops Q n (listed.setIfInBounds i true) (a.put (some d) v) w')
    (hs : AllG md ops Q n listed a w rs) : AllG md ops Q n listed a w (i :: rs) := fun j hj => by
  rcases List.mem_cons.1 hj with rfl | hj
  · unfold Go.wpOp
    rw [hi]
    simp only [hw, if_true]
    left
    unfold Oper.wp
    rw [hx]
    show G w w' ∧ _
    rw [hd]
    exact ⟨hg, h⟩
  · exact hs j hj
end
end Go.Proofs.YtbjjbgaomoihaaaGreatDoor
