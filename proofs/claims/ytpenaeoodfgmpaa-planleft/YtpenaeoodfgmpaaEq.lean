/-
  Rooms held against themselves.
-/
import Derived.Test.YtpenaeoodfgmpaaBase
import Derived.ChangeKeysEq
namespace Go.Proofs.Ytpenaeoodfgmpaa
open Go.RowKit

theorem under31 : Try.prog.underlying 31 = some (.struct (Try.prog.fieldsOf 31)) := by kernel_rfl
theorem under32 : Try.prog.underlying 32 = some (.array 2 31) := by kernel_rfl
theorem partRoom (c : Array Value) (i : Nat) (w : World) (x y : Value) (h : c.extract i (i + 2) = #[x, y]) : (part 31 c i).run Try.prog w = .ok (.agg #[x, y]) w := by
  have hi : (Try.prog.info? 31).map (·.size) = some 2 := by kernel_rfl
  cases hq : Try.prog.info? 31 with
  | none => simp [hq] at hi
  | some j =>
    have hs : j.size = 2 := by simpa [hq] using hi
    have hagg : (isAgg 31).run Try.prog w = .ok true w := by
      unfold isAgg
      rw [Sem.run_bind, run_underlying under31 w]
      simp
    simp [part, Sem.run_bind, hagg, sizeOf, typeInfo, hq, hs, h]
theorem eqRoom (d : Nat) (a b : Int) (w : World) : (Op.equalIn (d + 2) 31 (.agg #[.int .i64 a, .int .i64 b]) (.agg #[.int .i64 a, .int .i64 b])).run Try.prog w = .ok true w := by
  rw [show d + 2 = (d + 1) + 1 from rfl, run_equalIn_struct w (d + 1) 31 _ _ under31 (by kernel_rfl)]
  have h : (Try.prog.fieldsOf 31).toList.map (fun f => (f.name, f.type, f.offset)) = [("Names", 3, 0), ("Bytes", 3, 1)] := by kernel_rfl
  obtain ⟨fa, l1, h1, ha, h⟩ := List.map_eq_cons_iff.1 h
  obtain ⟨fb, l2, h2, hb, h⟩ := List.map_eq_cons_iff.1 h
  obtain rfl := List.map_eq_nil_iff.1 h
  rw [h1, h2]
  simp only [Prod.mk.injEq] at ha hb
  have hi : (Try.prog.info? 3).map (·.size) = some 1 := by kernel_rfl
  have n1 : ∀ s : String, s ∈ ["Names", "Bytes"] → s ≠ "_" := by decide
  cases hq : Try.prog.info? 3 with
  | none => simp [hq] at hi
  | some j =>
    have hs : j.size = 1 := by simpa [hq] using hi
    have p0 : ∀ w, (part 3 #[Value.int .i64 a, .int .i64 b] 0).run Try.prog w = .ok (.int .i64 a) w := fun w => by simp [part, isAgg, run_underlying Try.underlying3, sizeOf, typeInfo, hq, hs]
    have p1 : ∀ w, (part 3 #[Value.int .i64 a, .int .i64 b] 1).run Try.prog w = .ok (.int .i64 b) w := fun w => by simp [part, isAgg, run_underlying Try.underlying3, sizeOf, typeInfo, hq, hs]
    rw [Op.eqFields, if_pos (by rw [ha.1]; exact n1 _ (by simp)), ha.2.1, ha.2.2]
    simp only [Sem.run_bind, p0, Result.andThen_ok, run_equalIn_int _ _ 3 .i64 .i64 _ _ Try.underlying3, beq_self_eq_true, Bool.not_true, Bool.false_eq_true, if_false]
    rw [Op.eqFields, if_pos (by rw [hb.1]; exact n1 _ (by simp)), hb.2.1, hb.2.2]
    simp [p1, run_equalIn_int _ _ 3 .i64 .i64 _ _ Try.underlying3, Op.eqFields]
theorem eq32 (a b c d : Int) (w : World) : (Op.equalIn 10000 32 (.agg #[.int .i64 a, .int .i64 b, .int .i64 c, .int .i64 d]) (.agg #[.int .i64 a, .int .i64 b, .int .i64 c, .int .i64 d])).run Try.prog w = .ok true w := by
  have hi : (Try.prog.info? 31).map (·.size) = some 2 := by kernel_rfl
  have hc : Try.prog.cellsOf 31 = 2 := by kernel_rfl
  cases hq : Try.prog.info? 31 with
  | none => simp [hq] at hi
  | some j =>
    rw [show (10000 : Nat) = 9999 + 1 from rfl, run_equalIn_array w 9999 _ _ under32 hq, hc]
    have q0 : ∀ w, (part 31 #[Value.int .i64 a, .int .i64 b, .int .i64 c, .int .i64 d] (0 * 2)).run Try.prog w = .ok (.agg #[.int .i64 a, .int .i64 b]) w := fun w => partRoom _ _ w _ _ rfl
    have q1 : ∀ w, (part 31 #[Value.int .i64 a, .int .i64 b, .int .i64 c, .int .i64 d] (1 * 2)).run Try.prog w = .ok (.agg #[.int .i64 c, .int .i64 d]) w := fun w => partRoom _ _ w _ _ rfl
    show (Op.eqItems 9999 31 2 _ _ [0, 1]).run Try.prog w = _
    simp only [Op.eqItems, Sem.run_bind, q0, q1, Result.andThen_ok, eqRoom 9997, Bool.not_true, Bool.false_eq_true, if_false]
    simp
end Go.Proofs.Ytpenaeoodfgmpaa
