/-
  SETUPS AND FAULTS held against themselves.
-/
import Derived.Test.YtfigneaaeakbcaaDoorUi
import Derived.Test.YtfigneaaeakbcaaDoorSw
namespace Go.Proofs.YtfigneaaeakbcaaDoor
open Go.RowKit Hm
attribute [local go_sem] Oper.semAt_some

theorem size3' (w : World) : (sizeOf 3).run Tryd.prog w = .ok 1 w := by
  have h1 : (Tryd.prog.info? 3).map (·.size) = some 1 := by kernel_rfl
  cases hq : Tryd.prog.info? 3 with
  | none => simp [hq] at h1
  | some i =>
    have hs : i.size = 1 := by simpa [hq] using h1
    simp [sizeOf, typeInfo, hq, hs]
theorem part3 (c : Array Value) (i : Nat) (x : Int) (h : c[i]? = some (.int .i64 x)) (w : World) : (part 3 c i).run Tryd.prog w = .ok (.int .i64 x) w := by
  have h1 : (Tryd.prog.info? 3).map (·.size) = some 1 := by kernel_rfl
  cases hq : Tryd.prog.info? 3 with
  | none => simp [hq] at h1
  | some j =>
    have hs : j.size = 1 := by simpa [hq] using h1
    simp [part, isAgg, run_underlying Tryd.underlying3, sizeOf, typeInfo, hq, hs, h]
theorem partAgg (t : TypeId) (d : TypeDesc) (n : Nat) (hu : Tryd.prog.underlying t = some d) (hd : d.isRow = true) (hi : (Tryd.prog.info? t).map (·.size) = some n) (c : Array Value) (i : Nat) (w : World) : (part t c i).run Tryd.prog w = .ok (.agg (c.extract i (i + n))) w := by
  cases hq : Tryd.prog.info? t with
  | none => simp [hq] at hi
  | some j =>
    have hs : j.size = n := by simpa [hq] using hi
    have hagg : (isAgg t).run Tryd.prog w = .ok true w := by
      unfold isAgg
      rw [Sem.run_bind, run_underlying hu w]
      cases d <;> simp_all
    simp [part, Sem.run_bind, hagg, sizeOf, typeInfo, hq, hs]
theorem eqF_int (d : Nat) (xs : Array Value) (f : Field) (fs : List Field) (x : Int) (hn : f.name ≠ "_") (ht : f.type = 3) (hx : xs[f.offset]? = some (.int .i64 x)) (w : World) :
    (Op.eqFields (d + 1) xs xs (f :: fs)).run Tryd.prog w = (Op.eqFields (d + 1) xs xs fs).run Tryd.prog w := by
  rw [Op.eqFields, if_pos hn, ht]
  simp only [Sem.run_bind, part3 xs f.offset x hx, Result.andThen_ok, run_equalIn_int w d 3 .i64 .i64 _ _ Tryd.underlying3]
  simp
theorem eqF_agg (d : Nat) (xs : Array Value) (f : Field) (fs : List Field) (t : TypeId) (u : TypeDesc) (n : Nat) (hn : f.name ≠ "_") (ht : f.type = t) (hu : Tryd.prog.underlying t = some u) (hd : u.isRow = true) (hi : (Tryd.prog.info? t).map (·.size) = some n) (w : World)
    (he : (Op.equalIn d t (.agg (xs.extract f.offset (f.offset + n))) (.agg (xs.extract f.offset (f.offset + n)))).run Tryd.prog w = .ok true w) :
    (Op.eqFields d xs xs (f :: fs)).run Tryd.prog w = (Op.eqFields d xs xs fs).run Tryd.prog w := by
  rw [Op.eqFields, if_pos hn, ht]
  simp only [Sem.run_bind, partAgg t u n hu hd hi xs f.offset w, Result.andThen_ok, he]
  simp
theorem fields28 : ∃ a b : Field, (Tryd.prog.fieldsOf 28).toList = [a, b] ∧ (a.name, a.type, a.offset) = ("At", 3, 0) ∧ (b.name, b.type, b.offset) = ("Err", 3, 1) := by
  have h : (Tryd.prog.fieldsOf 28).toList.map (fun f => (f.name, f.type, f.offset)) = [("At", 3, 0), ("Err", 3, 1)] := by kernel_rfl
  obtain ⟨a, l1, h1, ha, h⟩ := List.map_eq_cons_iff.1 h
  obtain ⟨b, l2, h2, hb, h⟩ := List.map_eq_cons_iff.1 h
  obtain rfl := List.map_eq_nil_iff.1 h
  exact ⟨a, b, by rw [h1, h2], ha, hb⟩
theorem fields24 : ∃ a b : Field, (Tryd.prog.fieldsOf 24).toList = [a, b] ∧ (a.name, a.type, a.offset) = ("Bytes", 22, 0) ∧ (b.name, b.type, b.offset) = ("Names", 22, 3) := by
  have h : (Tryd.prog.fieldsOf 24).toList.map (fun f => (f.name, f.type, f.offset)) = [("Bytes", 22, 0), ("Names", 22, 3)] := by kernel_rfl
  obtain ⟨a, l1, h1, ha, h⟩ := List.map_eq_cons_iff.1 h
  obtain ⟨b, l2, h2, hb, h⟩ := List.map_eq_cons_iff.1 h
  obtain rfl := List.map_eq_nil_iff.1 h
  exact ⟨a, b, by rw [h1, h2], ha, hb⟩
theorem fields26 : ∃ a b : Field, (Tryd.prog.fieldsOf 26).toList = [a, b] ∧ (a.name, a.type, a.offset) = ("Caps", 24, 0) ∧ (b.name, b.type, b.offset) = ("Most", 3, 6) := by
  have h : (Tryd.prog.fieldsOf 26).toList.map (fun f => (f.name, f.type, f.offset)) = [("Caps", 24, 0), ("Most", 3, 6)] := by kernel_rfl
  obtain ⟨a, l1, h1, ha, h⟩ := List.map_eq_cons_iff.1 h
  obtain ⟨b, l2, h2, hb, h⟩ := List.map_eq_cons_iff.1 h
  obtain rfl := List.map_eq_nil_iff.1 h
  exact ⟨a, b, by rw [h1, h2], ha, hb⟩
theorem under28 : Tryd.prog.underlying 28 = some (.struct (Tryd.prog.fieldsOf 28)) := by kernel_rfl
theorem under24 : Tryd.prog.underlying 24 = some (.struct (Tryd.prog.fieldsOf 24)) := by kernel_rfl
theorem under26 : Tryd.prog.underlying 26 = some (.struct (Tryd.prog.fieldsOf 26)) := by kernel_rfl
theorem siz22 : (Tryd.prog.info? 22).map (·.size) = some 3 := by kernel_rfl
theorem siz24 : (Tryd.prog.info? 24).map (·.size) = some 6 := by kernel_rfl
theorem eq28 (d : Nat) (a b : Int) (w : World) : (Op.equalIn (d + 2) 28 (.agg #[.int .i64 a, .int .i64 b]) (.agg #[.int .i64 a, .int .i64 b])).run Tryd.prog w = .ok true w := by
  rw [show d + 2 = (d + 1) + 1 from rfl, run_equalIn_struct w (d + 1) 28 _ _ under28 (by kernel_rfl)]
  obtain ⟨fa, fb, hf, ha, hb⟩ := fields28
  simp only [Prod.mk.injEq] at ha hb
  rw [hf]
  have n1 : ∀ s : String, s ∈ ["At", "Err"] → s ≠ "_" := by decide
  rw [eqF_int d _ fa _ a (by rw [ha.1]; exact n1 _ (by simp)) ha.2.1 (by rw [ha.2.2]; rfl),
    eqF_int d _ fb _ b (by rw [hb.1]; exact n1 _ (by simp)) hb.2.1 (by rw [hb.2.2]; rfl), Op.eqFields]
  simp
theorem eq22 (d : Nat) (a b c : Int) (w : World) : (Op.equalIn (d + 2) 22 (.agg #[.int .i64 a, .int .i64 b, .int .i64 c]) (.agg #[.int .i64 a, .int .i64 b, .int .i64 c])).run Tryd.prog w = .ok true w := by
  rw [show d + 2 = (d + 1) + 1 from rfl]
  unfold Op.equalIn
  simp only [Sem.run_bind, run_underlying Tryd.underlying22, Result.andThen_ok, size3']
  rw [Std.Legacy.Range.forIn_eq_forIn_range']
  have h3 : (List.range' [:3].start [:3].size [:3].step) = [0, 1, 2] := by simp [List.range']
  rw [h3]
  have x0 : ∀ w, (part 3 #[.int .i64 a, .int .i64 b, .int .i64 c] 0).run Tryd.prog w = .ok (.int .i64 a) w := fun w => part3 _ _ _ rfl w
  have x1 : ∀ w, (part 3 #[.int .i64 a, .int .i64 b, .int .i64 c] 1).run Tryd.prog w = .ok (.int .i64 b) w := fun w => part3 _ _ _ rfl w
  have x2 : ∀ w, (part 3 #[.int .i64 a, .int .i64 b, .int .i64 c] 2).run Tryd.prog w = .ok (.int .i64 c) w := fun w => part3 _ _ _ rfl w
  simp [List.forIn_cons, Sem.run_bind, x0, x1, x2, run_equalIn_int _ d 3 .i64 .i64 _ _ Tryd.underlying3]
theorem eq24 (d : Nat) (a b c e f g : Int) (w : World) : (Op.equalIn (d + 3) 24 (.agg #[.int .i64 a, .int .i64 b, .int .i64 c, .int .i64 e, .int .i64 f, .int .i64 g]) (.agg #[.int .i64 a, .int .i64 b, .int .i64 c, .int .i64 e, .int .i64 f, .int .i64 g])).run Tryd.prog w = .ok true w := by
  rw [show d + 3 = (d + 2) + 1 from rfl, run_equalIn_struct w (d + 2) 24 _ _ under24 (by kernel_rfl)]
  obtain ⟨fa, fb, hf, ha, hb⟩ := fields24
  simp only [Prod.mk.injEq] at ha hb
  rw [hf]
  have n1 : ∀ s : String, s ∈ ["Bytes", "Names"] → s ≠ "_" := by decide
  rw [eqF_agg (d + 2) _ fa _ 22 _ 3 (by rw [ha.1]; exact n1 _ (by simp)) ha.2.1 Tryd.underlying22 rfl siz22 w (by rw [ha.2.2]; exact eq22 d a b c w),
    eqF_agg (d + 2) _ fb _ 22 _ 3 (by rw [hb.1]; exact n1 _ (by simp)) hb.2.1 Tryd.underlying22 rfl siz22 w (by rw [hb.2.2]; exact eq22 d e f g w), Op.eqFields]
  simp
theorem eq26 (d : Nat) (a b c e f g h : Int) (w : World) : (Op.equalIn (d + 4) 26 (.agg #[.int .i64 a, .int .i64 b, .int .i64 c, .int .i64 e, .int .i64 f, .int .i64 g, .int .i64 h]) (.agg #[.int .i64 a, .int .i64 b, .int .i64 c, .int .i64 e, .int .i64 f, .int .i64 g, .int .i64 h])).run Tryd.prog w = .ok true w := by
  rw [show d + 4 = (d + 3) + 1 from rfl, run_equalIn_struct w (d + 3) 26 _ _ under26 (by kernel_rfl)]
  obtain ⟨fa, fb, hf, ha, hb⟩ := fields26
  simp only [Prod.mk.injEq] at ha hb
  rw [hf]
  have n1 : ∀ s : String, s ∈ ["Caps", "Most"] → s ≠ "_" := by decide
  rw [eqF_agg (d + 3) _ fa _ 24 _ 6 (by rw [ha.1]; exact n1 _ (by simp)) ha.2.1 under24 rfl siz24 w (by rw [ha.2.2]; exact eq24 d a b c e f g w),
    eqF_int (d + 2) _ fb _ h (by rw [hb.1]; exact n1 _ (by simp)) hb.2.1 (by rw [hb.2.2]; rfl), Op.eqFields]
  simp
theorem exec_neq28 {o : Oper} {a : Act} (x y : Operand) (ho : o.op = .binOp .neq 28 x y 28) (p q : Int) (hx : a.eval x = .agg #[.int .i64 p, .int .i64 q]) (hy : a.eval y = .agg #[.int .i64 p, .int .i64 q]) (w : World) :
    (execOp a.eval o).run Tryd.prog w = .ok (.value (.bool false)) w := by
  have h' : (Op.equal 28 (.agg #[.int .i64 p, .int .i64 q]) (.agg #[.int .i64 p, .int .i64 q])).run Tryd.prog w = .ok true w := eq28 9998 p q w
  have hg : Tryd.prog.eqGuardType Tryd.prog.depth 28 = false := by kernel_rfl
  unfold execOp
  simp only [ho, hx, hy, eqGuard, binOp, Sem.run_bind]
  simp [Result.andThen, hg, h']
theorem exec_neq26 {o : Oper} {a : Act} (x y : Operand) (ho : o.op = .binOp .neq 26 x y 26) (l : List Int) (hl : l.length = 7) (X : Array Value) (hX : X = (l.map vi).toArray) (hx : a.eval x = .agg X) (hy : a.eval y = .agg X) (w : World) :
    (execOp a.eval o).run Tryd.prog w = .ok (.value (.bool false)) w := by
  obtain ⟨p, q, r, s, t, u, v, rfl⟩ : ∃ p q r s t u v, l = [p, q, r, s, t, u, v] := by
    match l, hl with
    | [p, q, r, s, t, u, v], _ => exact ⟨p, q, r, s, t, u, v, rfl⟩
  have h' : (Op.equal 26 (.agg X) (.agg X)).run Tryd.prog w = .ok true w := by rw [hX]; exact eq26 9996 p q r s t u v w
  have hg : Tryd.prog.eqGuardType Tryd.prog.depth 26 = false := by kernel_rfl
  unfold execOp
  simp only [ho, hx, hy, eqGuard, binOp, Sem.run_bind]
  simp [Result.andThen, hg, h']
end Go.Proofs.YtfigneaaeakbcaaDoor
