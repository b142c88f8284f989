/-
  Items and cells held against themselves.
-/
import Derived.Test.YtpenaeoodfgmpaaGreatDoorBase
import Derived.ChangeKeysEq
namespace Go.Proofs.YtpenaeoodfgmpaaGreatDoor
open Go.RowKit

theorem under31 : Tryz.prog.underlying 52 = some (.struct (Tryz.prog.fieldsOf 52)) := by kernel_rfl
theorem under32 : Tryz.prog.underlying 53 = some (.array 2 52) := by kernel_rfl
theorem partRoom (c : Array Value) (i : Nat) (w : World) (x y : Value) (h : c.extract i (i + 2) = #[x, y]) : (part 52 c i).run Tryz.prog w = .ok (.agg #[x, y]) w := by
  have hi : (Tryz.prog.info? 52).map (·.size) = some 2 := by kernel_rfl
  cases hq : Tryz.prog.info? 52 with
  | none => simp [hq] at hi
  | some j =>
    have hs : j.size = 2 := by simpa [hq] using hi
    have hagg : (isAgg 52).run Tryz.prog w = .ok true w := by
      unfold isAgg
      rw [Sem.run_bind, run_underlying under31 w]
      simp
    simp [part, Sem.run_bind, hagg, sizeOf, typeInfo, hq, hs, h]
theorem eqRoom (d : Nat) (a b : Int) (w : World) : (Op.equalIn (d + 2) 52 (.agg #[.int .i64 a, .int .i64 b]) (.agg #[.int .i64 a, .int .i64 b])).run Tryz.prog w = .ok true w := by
  rw [show d + 2 = (d + 1) + 1 from rfl, run_equalIn_struct w (d + 1) 52 _ _ under31 (by kernel_rfl)]
  have h : (Tryz.prog.fieldsOf 52).toList.map (fun f => (f.name, f.type, f.offset)) = [("Names", 3, 0), ("Bytes", 3, 1)] := by kernel_rfl
  obtain ⟨fa, l1, h1, ha, h⟩ := List.map_eq_cons_iff.1 h
  obtain ⟨fb, l2, h2, hb, h⟩ := List.map_eq_cons_iff.1 h
  obtain rfl := List.map_eq_nil_iff.1 h
  rw [h1, h2]
  simp only [Prod.mk.injEq] at ha hb
  have hi : (Tryz.prog.info? 3).map (·.size) = some 1 := by kernel_rfl
  have n1 : ∀ s : String, s ∈ ["Names", "Bytes"] → s ≠ "_" := by decide
  cases hq : Tryz.prog.info? 3 with
  | none => simp [hq] at hi
  | some j =>
    have hs : j.size = 1 := by simpa [hq] using hi
    have p0 : ∀ w, (part 3 #[Value.int .i64 a, .int .i64 b] 0).run Tryz.prog w = .ok (.int .i64 a) w := fun w => by simp [part, isAgg, run_underlying Tryz.underlying3, sizeOf, typeInfo, hq, hs]
    have p1 : ∀ w, (part 3 #[Value.int .i64 a, .int .i64 b] 1).run Tryz.prog w = .ok (.int .i64 b) w := fun w => by simp [part, isAgg, run_underlying Tryz.underlying3, sizeOf, typeInfo, hq, hs]
    rw [Op.eqFields, if_pos (by rw [ha.1]; exact n1 _ (by simp)), ha.2.1, ha.2.2]
    simp only [Sem.run_bind, p0, Result.andThen_ok, run_equalIn_int _ _ 3 .i64 .i64 _ _ Tryz.underlying3, beq_self_eq_true, Bool.not_true, Bool.false_eq_true, if_false]
    rw [Op.eqFields, if_pos (by rw [hb.1]; exact n1 _ (by simp)), hb.2.1, hb.2.2]
    simp [p1, run_equalIn_int _ _ 3 .i64 .i64 _ _ Tryz.underlying3, Op.eqFields]
theorem eq32 (a b c d : Int) (w : World) : (Op.equalIn 10000 53 (.agg #[.int .i64 a, .int .i64 b, .int .i64 c, .int .i64 d]) (.agg #[.int .i64 a, .int .i64 b, .int .i64 c, .int .i64 d])).run Tryz.prog w = .ok true w := by
  have hi : (Tryz.prog.info? 52).map (·.size) = some 2 := by kernel_rfl
  have hc : Tryz.prog.cellsOf 52 = 2 := by kernel_rfl
  cases hq : Tryz.prog.info? 52 with
  | none => simp [hq] at hi
  | some j =>
    rw [show (10000 : Nat) = 9999 + 1 from rfl, run_equalIn_array w 9999 _ _ under32 hq, hc]
    have q0 : ∀ w, (part 52 #[Value.int .i64 a, .int .i64 b, .int .i64 c, .int .i64 d] (0 * 2)).run Tryz.prog w = .ok (.agg #[.int .i64 a, .int .i64 b]) w := fun w => partRoom _ _ w _ _ rfl
    have q1 : ∀ w, (part 52 #[Value.int .i64 a, .int .i64 b, .int .i64 c, .int .i64 d] (1 * 2)).run Tryz.prog w = .ok (.agg #[.int .i64 c, .int .i64 d]) w := fun w => partRoom _ _ w _ _ rfl
    show (Op.eqItems 9999 52 2 _ _ [0, 1]).run Tryz.prog w = _
    simp only [Op.eqItems, Sem.run_bind, q0, q1, Result.andThen_ok, eqRoom 9997, Bool.not_true, Bool.false_eq_true, if_false]
    simp
end Go.Proofs.YtpenaeoodfgmpaaGreatDoor
namespace Go.Proofs.YtpenaeoodfgmpaaGreatDoor
open Go.RowKit

theorem eq71 (a b : Int) (c : ByteArray) (d e f g : Int) (w : World) : (Op.equalIn 10000 71 (.agg #[.int .i64 a, .int .i64 b, .string c, .int .i64 d, .int .i64 e, .int .i64 f, .int .i64 g]) (.agg #[.int .i64 a, .int .i64 b, .string c, .int .i64 d, .int .i64 e, .int .i64 f, .int .i64 g])).run Tryz.prog w = .ok true w := by
  rw [show (10000 : Nat) = 9999 + 1 from rfl, run_equalIn_struct w 9999 71 _ _ under45 (by kernel_rfl)]
  have h : (Tryz.prog.fieldsOf 71).toList.map (fun f => (f.name, f.type, f.offset)) = [("Number", 3, 0), ("Cell", 3, 1), ("Path", 9, 2), ("What", 3, 3), ("From", 3, 4), ("To", 3, 5), ("Mode", 3, 6)] := by kernel_rfl
  obtain ⟨f0, l0, h0, k0, h⟩ := List.map_eq_cons_iff.1 h
  obtain ⟨f1, l1, h1, k1, h⟩ := List.map_eq_cons_iff.1 h
  obtain ⟨f2, l2, h2, k2, h⟩ := List.map_eq_cons_iff.1 h
  obtain ⟨f3, l3, h3, k3, h⟩ := List.map_eq_cons_iff.1 h
  obtain ⟨f4, l4, h4, k4, h⟩ := List.map_eq_cons_iff.1 h
  obtain ⟨f5, l5, h5, k5, h⟩ := List.map_eq_cons_iff.1 h
  obtain ⟨f6, l6, h6, k6, h⟩ := List.map_eq_cons_iff.1 h
  obtain rfl := List.map_eq_nil_iff.1 h
  rw [h0, h1, h2, h3, h4, h5, h6]
  simp only [Prod.mk.injEq] at k0 k1 k2 k3 k4 k5 k6
  have n1 : ∀ s : String, s ∈ ["Number", "Cell", "Path", "What", "From", "To", "Mode"] → s ≠ "_" := by decide
  have i3 : (Tryz.prog.info? 3).map (·.size) = some 1 := by kernel_rfl
  have i9 : (Tryz.prog.info? 9).map (·.size) = some 1 := by kernel_rfl
  cases hq : Tryz.prog.info? 3 with
  | none => simp [hq] at i3
  | some j =>
    have hs : j.size = 1 := by simpa [hq] using i3
    cases hq9 : Tryz.prog.info? 9 with
    | none => simp [hq9] at i9
    | some j9 =>
      have hs9 : j9.size = 1 := by simpa [hq9] using i9
      have p0 : ∀ w, (part 3 #[Value.int .i64 a, .int .i64 b, .string c, .int .i64 d, .int .i64 e, .int .i64 f, .int .i64 g] 0).run Tryz.prog w = .ok (.int .i64 a) w := fun w => by simp [part, isAgg, run_underlying Tryz.underlying3, sizeOf, typeInfo, hq, hs]
      have p1 : ∀ w, (part 3 #[Value.int .i64 a, .int .i64 b, .string c, .int .i64 d, .int .i64 e, .int .i64 f, .int .i64 g] 1).run Tryz.prog w = .ok (.int .i64 b) w := fun w => by simp [part, isAgg, run_underlying Tryz.underlying3, sizeOf, typeInfo, hq, hs]
      have p2 : ∀ w, (part 9 #[Value.int .i64 a, .int .i64 b, .string c, .int .i64 d, .int .i64 e, .int .i64 f, .int .i64 g] 2).run Tryz.prog w = .ok (.string c) w := fun w => by simp [part, isAgg, run_underlying Tryz.underlying9, sizeOf, typeInfo, hq9, hs9]
      have p3 : ∀ w, (part 3 #[Value.int .i64 a, .int .i64 b, .string c, .int .i64 d, .int .i64 e, .int .i64 f, .int .i64 g] 3).run Tryz.prog w = .ok (.int .i64 d) w := fun w => by simp [part, isAgg, run_underlying Tryz.underlying3, sizeOf, typeInfo, hq, hs]
      have p4 : ∀ w, (part 3 #[Value.int .i64 a, .int .i64 b, .string c, .int .i64 d, .int .i64 e, .int .i64 f, .int .i64 g] 4).run Tryz.prog w = .ok (.int .i64 e) w := fun w => by simp [part, isAgg, run_underlying Tryz.underlying3, sizeOf, typeInfo, hq, hs]
      have p5 : ∀ w, (part 3 #[Value.int .i64 a, .int .i64 b, .string c, .int .i64 d, .int .i64 e, .int .i64 f, .int .i64 g] 5).run Tryz.prog w = .ok (.int .i64 f) w := fun w => by simp [part, isAgg, run_underlying Tryz.underlying3, sizeOf, typeInfo, hq, hs]
      have p6 : ∀ w, (part 3 #[Value.int .i64 a, .int .i64 b, .string c, .int .i64 d, .int .i64 e, .int .i64 f, .int .i64 g] 6).run Tryz.prog w = .ok (.int .i64 g) w := fun w => by simp [part, isAgg, run_underlying Tryz.underlying3, sizeOf, typeInfo, hq, hs]
      rw [Op.eqFields, if_pos (by rw [k0.1]; exact n1 _ (by simp)), k0.2.1, k0.2.2]
      simp only [Sem.run_bind, p0, Result.andThen_ok, run_equalIn_int _ _ 3 .i64 .i64 _ _ Tryz.underlying3, beq_self_eq_true, Bool.not_true, Bool.false_eq_true, if_false]
      rw [Op.eqFields, if_pos (by rw [k1.1]; exact n1 _ (by simp)), k1.2.1, k1.2.2]
      simp only [Sem.run_bind, p1, Result.andThen_ok, run_equalIn_int _ _ 3 .i64 .i64 _ _ Tryz.underlying3, beq_self_eq_true, Bool.not_true, Bool.false_eq_true, if_false]
      rw [Op.eqFields, if_pos (by rw [k2.1]; exact n1 _ (by simp)), k2.2.1, k2.2.2]
      simp only [Sem.run_bind, p2, Result.andThen_ok, run_equalIn_string _ _ 9 _ _ Tryz.underlying9, beq_self_eq_true, Bool.not_true, Bool.false_eq_true, if_false]
      rw [Op.eqFields, if_pos (by rw [k3.1]; exact n1 _ (by simp)), k3.2.1, k3.2.2]
      simp only [Sem.run_bind, p3, Result.andThen_ok, run_equalIn_int _ _ 3 .i64 .i64 _ _ Tryz.underlying3, beq_self_eq_true, Bool.not_true, Bool.false_eq_true, if_false]
      rw [Op.eqFields, if_pos (by rw [k4.1]; exact n1 _ (by simp)), k4.2.1, k4.2.2]
      simp only [Sem.run_bind, p4, Result.andThen_ok, run_equalIn_int _ _ 3 .i64 .i64 _ _ Tryz.underlying3, beq_self_eq_true, Bool.not_true, Bool.false_eq_true, if_false]
      rw [Op.eqFields, if_pos (by rw [k5.1]; exact n1 _ (by simp)), k5.2.1, k5.2.2]
      simp only [Sem.run_bind, p5, Result.andThen_ok, run_equalIn_int _ _ 3 .i64 .i64 _ _ Tryz.underlying3, beq_self_eq_true, Bool.not_true, Bool.false_eq_true, if_false]
      rw [Op.eqFields, if_pos (by rw [k6.1]; exact n1 _ (by simp)), k6.2.1, k6.2.2]
      simp [p6, run_equalIn_int _ _ 3 .i64 .i64 _ _ Tryz.underlying3, Op.eqFields]
theorem eq62 (p : ByteArray) (a b c d e f g x y : Int) (w : World) : (Op.equalIn 10000 62 (.agg #[.string p, .int .i64 a, .int .i64 b, .int .i64 c, .int .i64 d, .int .i64 e, .int .i64 f, .int .i64 g, .int .i64 x, .int .i64 y]) (.agg #[.string p, .int .i64 a, .int .i64 b, .int .i64 c, .int .i64 d, .int .i64 e, .int .i64 f, .int .i64 g, .int .i64 x, .int .i64 y])).run Tryz.prog w = .ok true w := by
  rw [show (10000 : Nat) = 9999 + 1 from rfl, run_equalIn_struct w 9999 62 _ _ under43 (by kernel_rfl)]
  have h : (Tryz.prog.fieldsOf 62).toList.map (fun f => (f.name, f.type, f.offset)) = [("Path", 9, 0), ("What", 3, 1), ("Side", 3, 2), ("Mode", 3, 3), ("Keep", 3, 4), ("Take", 3, 5), ("Names", 3, 6), ("Bytes", 3, 7), ("Had", 52, 8)] := by kernel_rfl
  obtain ⟨f0, l0, h0, k0, h⟩ := List.map_eq_cons_iff.1 h
  obtain ⟨f1, l1, h1, k1, h⟩ := List.map_eq_cons_iff.1 h
  obtain ⟨f2, l2, h2, k2, h⟩ := List.map_eq_cons_iff.1 h
  obtain ⟨f3, l3, h3, k3, h⟩ := List.map_eq_cons_iff.1 h
  obtain ⟨f4, l4, h4, k4, h⟩ := List.map_eq_cons_iff.1 h
  obtain ⟨f5, l5, h5, k5, h⟩ := List.map_eq_cons_iff.1 h
  obtain ⟨f6, l6, h6, k6, h⟩ := List.map_eq_cons_iff.1 h
  obtain ⟨f7, l7, h7, k7, h⟩ := List.map_eq_cons_iff.1 h
  obtain ⟨f8, l8, h8, k8, h⟩ := List.map_eq_cons_iff.1 h
  obtain rfl := List.map_eq_nil_iff.1 h
  rw [h0, h1, h2, h3, h4, h5, h6, h7, h8]
  simp only [Prod.mk.injEq] at k0 k1 k2 k3 k4 k5 k6 k7 k8
  have n1 : ∀ s : String, s ∈ ["Path", "What", "Side", "Mode", "Keep", "Take", "Names", "Bytes", "Had"] → s ≠ "_" := by decide
  have i3 : (Tryz.prog.info? 3).map (·.size) = some 1 := by kernel_rfl
  have i9 : (Tryz.prog.info? 9).map (·.size) = some 1 := by kernel_rfl
  cases hq : Tryz.prog.info? 3 with
  | none => simp [hq] at i3
  | some j =>
    have hs : j.size = 1 := by simpa [hq] using i3
    cases hq9 : Tryz.prog.info? 9 with
    | none => simp [hq9] at i9
    | some j9 =>
      have hs9 : j9.size = 1 := by simpa [hq9] using i9
      have p0 : ∀ w, (part 9 #[Value.string p, .int .i64 a, .int .i64 b, .int .i64 c, .int .i64 d, .int .i64 e, .int .i64 f, .int .i64 g, .int .i64 x, .int .i64 y] 0).run Tryz.prog w = .ok (.string p) w := fun w => by simp [part, isAgg, run_underlying Tryz.underlying9, sizeOf, typeInfo, hq9, hs9]
      have p1 : ∀ w, (part 3 #[Value.string p, .int .i64 a, .int .i64 b, .int .i64 c, .int .i64 d, .int .i64 e, .int .i64 f, .int .i64 g, .int .i64 x, .int .i64 y] 1).run Tryz.prog w = .ok (.int .i64 a) w := fun w => by simp [part, isAgg, run_underlying Tryz.underlying3, sizeOf, typeInfo, hq, hs]
      have p2 : ∀ w, (part 3 #[Value.string p, .int .i64 a, .int .i64 b, .int .i64 c, .int .i64 d, .int .i64 e, .int .i64 f, .int .i64 g, .int .i64 x, .int .i64 y] 2).run Tryz.prog w = .ok (.int .i64 b) w := fun w => by simp [part, isAgg, run_underlying Tryz.underlying3, sizeOf, typeInfo, hq, hs]
      have p3 : ∀ w, (part 3 #[Value.string p, .int .i64 a, .int .i64 b, .int .i64 c, .int .i64 d, .int .i64 e, .int .i64 f, .int .i64 g, .int .i64 x, .int .i64 y] 3).run Tryz.prog w = .ok (.int .i64 c) w := fun w => by simp [part, isAgg, run_underlying Tryz.underlying3, sizeOf, typeInfo, hq, hs]
      have p4 : ∀ w, (part 3 #[Value.string p, .int .i64 a, .int .i64 b, .int .i64 c, .int .i64 d, .int .i64 e, .int .i64 f, .int .i64 g, .int .i64 x, .int .i64 y] 4).run Tryz.prog w = .ok (.int .i64 d) w := fun w => by simp [part, isAgg, run_underlying Tryz.underlying3, sizeOf, typeInfo, hq, hs]
      have p5 : ∀ w, (part 3 #[Value.string p, .int .i64 a, .int .i64 b, .int .i64 c, .int .i64 d, .int .i64 e, .int .i64 f, .int .i64 g, .int .i64 x, .int .i64 y] 5).run Tryz.prog w = .ok (.int .i64 e) w := fun w => by simp [part, isAgg, run_underlying Tryz.underlying3, sizeOf, typeInfo, hq, hs]
      have p6 : ∀ w, (part 3 #[Value.string p, .int .i64 a, .int .i64 b, .int .i64 c, .int .i64 d, .int .i64 e, .int .i64 f, .int .i64 g, .int .i64 x, .int .i64 y] 6).run Tryz.prog w = .ok (.int .i64 f) w := fun w => by simp [part, isAgg, run_underlying Tryz.underlying3, sizeOf, typeInfo, hq, hs]
      have p7 : ∀ w, (part 3 #[Value.string p, .int .i64 a, .int .i64 b, .int .i64 c, .int .i64 d, .int .i64 e, .int .i64 f, .int .i64 g, .int .i64 x, .int .i64 y] 7).run Tryz.prog w = .ok (.int .i64 g) w := fun w => by simp [part, isAgg, run_underlying Tryz.underlying3, sizeOf, typeInfo, hq, hs]
      have p8 : ∀ w, (part 52 #[Value.string p, .int .i64 a, .int .i64 b, .int .i64 c, .int .i64 d, .int .i64 e, .int .i64 f, .int .i64 g, .int .i64 x, .int .i64 y] 8).run Tryz.prog w = .ok (.agg #[.int .i64 x, .int .i64 y]) w := fun w => partRoom _ 8 w _ _ rfl
      rw [Op.eqFields, if_pos (by rw [k0.1]; exact n1 _ (by simp)), k0.2.1, k0.2.2]
      simp only [Sem.run_bind, p0, Result.andThen_ok, run_equalIn_string _ _ 9 _ _ Tryz.underlying9, beq_self_eq_true, Bool.not_true, Bool.false_eq_true, if_false]
      rw [Op.eqFields, if_pos (by rw [k1.1]; exact n1 _ (by simp)), k1.2.1, k1.2.2]
      simp only [Sem.run_bind, p1, Result.andThen_ok, run_equalIn_int _ _ 3 .i64 .i64 _ _ Tryz.underlying3, beq_self_eq_true, Bool.not_true, Bool.false_eq_true, if_false]
      rw [Op.eqFields, if_pos (by rw [k2.1]; exact n1 _ (by simp)), k2.2.1, k2.2.2]
      simp only [Sem.run_bind, p2, Result.andThen_ok, run_equalIn_int _ _ 3 .i64 .i64 _ _ Tryz.underlying3, beq_self_eq_true, Bool.not_true, Bool.false_eq_true, if_false]
      rw [Op.eqFields, if_pos (by rw [k3.1]; exact n1 _ (by simp)), k3.2.1, k3.2.2]
      simp only [Sem.run_bind, p3, Result.andThen_ok, run_equalIn_int _ _ 3 .i64 .i64 _ _ Tryz.underlying3, beq_self_eq_true, Bool.not_true, Bool.false_eq_true, if_false]
      rw [Op.eqFields, if_pos (by rw [k4.1]; exact n1 _ (by simp)), k4.2.1, k4.2.2]
      simp only [Sem.run_bind, p4, Result.andThen_ok, run_equalIn_int _ _ 3 .i64 .i64 _ _ Tryz.underlying3, beq_self_eq_true, Bool.not_true, Bool.false_eq_true, if_false]
      rw [Op.eqFields, if_pos (by rw [k5.1]; exact n1 _ (by simp)), k5.2.1, k5.2.2]
      simp only [Sem.run_bind, p5, Result.andThen_ok, run_equalIn_int _ _ 3 .i64 .i64 _ _ Tryz.underlying3, beq_self_eq_true, Bool.not_true, Bool.false_eq_true, if_false]
      rw [Op.eqFields, if_pos (by rw [k6.1]; exact n1 _ (by simp)), k6.2.1, k6.2.2]
      simp only [Sem.run_bind, p6, Result.andThen_ok, run_equalIn_int _ _ 3 .i64 .i64 _ _ Tryz.underlying3, beq_self_eq_true, Bool.not_true, Bool.false_eq_true, if_false]
      rw [Op.eqFields, if_pos (by rw [k7.1]; exact n1 _ (by simp)), k7.2.1, k7.2.2]
      simp only [Sem.run_bind, p7, Result.andThen_ok, run_equalIn_int _ _ 3 .i64 .i64 _ _ Tryz.underlying3, beq_self_eq_true, Bool.not_true, Bool.false_eq_true, if_false]
      rw [Op.eqFields, if_pos (by rw [k8.1]; exact n1 _ (by simp)), k8.2.1, k8.2.2]
      simp [p8, eqRoom 9997, Op.eqFields]
end Go.Proofs.YtpenaeoodfgmpaaGreatDoor
