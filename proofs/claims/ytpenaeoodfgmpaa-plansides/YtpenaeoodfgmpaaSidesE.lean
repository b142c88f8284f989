/-
  Items held against themselves; two plans that lie in variables.
-/
import Derived.Test.YtpenaeoodfgmpaaLaw
import Derived.Test.YtpenaeoodfgmpaaSidesL
namespace Go.Proofs.Ytpenaeoodfgmpaa
open Go.RowKit

theorem two34 {w2 w3 w4 w5 w6 : World} {B : Nat} {c1 c2 : Array Value} (hB : w2.heap.size = B) (h3 : w2.alloc (.cells z34 34) = w3) (h4 : w3.alloc (.cells z34 34) = w4) (h5 : w4.setRow B c1 = w5) (h6 : w5.setRow (B + 1) c2 = w6) :
    w3.heap.size = B + 1 ∧ w4.heap[B]? = some (.cells z34 34 (0, 0)) ∧ w5.heap[B + 1]? = some (.cells z34 34 (0, 0)) ∧ w6.heap[B]? = some (.cells c1 34 (0, 0)) ∧ w6.heap[B + 1]? = some (.cells c2 34 (0, 0)) ∧ G w2 w6 := by
  have e3 : w3.heap.size = B + 1 := by rw [← h3]; simp [hB]
  have a3 : w3.heap[B]? = some (.cells z34 34 (0, 0)) := by rw [← h3, ← hB]; exact heap_alloc_new _ _
  have g23 : G w2 w3 := by rw [← h3]; exact G.al _ _
  have g34 : G w3 w4 := by rw [← h4]; exact G.al _ _
  have a4 := (g34.block B (by omega)).trans a3
  have b4 : w4.heap[B + 1]? = some (.cells z34 34 (0, 0)) := by rw [← h4, ← e3]; exact heap_alloc_new _ _
  have a5 : w5.heap[B]? = some (.cells c1 34 (0, 0)) := by rw [← h5]; exact setRow_heap w4 _ _ _ _ _ a4
  have b5 : w5.heap[B + 1]? = some (.cells z34 34 (0, 0)) := by rw [← h5]; exact (setRow_other w4 _ _ _ (by omega)).trans b4
  have g24 := g23.up g34
  refine ⟨e3, a4, b5, by rw [← h6]; exact (setRow_other w5 _ _ _ (by omega)).trans a5, by rw [← h6]; exact setRow_heap w5 _ _ _ _ _ b5, ?_⟩
  refine ⟨by rw [← h6, ← h5]; exact g24.os, by rw [← h6, ← h5]; exact g24.tape, by rw [← h6, ← h5]; exact g24.output, by rw [← h6, ← h5]; simpa [World.setRow] using g24.size, fun b hb => ?_⟩
  rw [← h6, setRow_other _ _ _ _ (by omega), ← h5, setRow_other _ _ _ _ (by omega)]
  exact g24.block b hb
theorem eq45 (a b : Int) (c : ByteArray) (d e f g : Int) (w : World) : (Op.equalIn 10000 45 (.agg #[.int .i64 a, .int .i64 b, .string c, .int .i64 d, .int .i64 e, .int .i64 f, .int .i64 g]) (.agg #[.int .i64 a, .int .i64 b, .string c, .int .i64 d, .int .i64 e, .int .i64 f, .int .i64 g])).run Try.prog w = .ok true w := by
  rw [show (10000 : Nat) = 9999 + 1 from rfl, run_equalIn_struct w 9999 45 _ _ under45 (by kernel_rfl)]
  have h : (Try.prog.fieldsOf 45).toList.map (fun f => (f.name, f.type, f.offset)) = [("Number", 3, 0), ("Cell", 3, 1), ("Path", 9, 2), ("What", 3, 3), ("From", 3, 4), ("To", 3, 5), ("Mode", 3, 6)] := by kernel_rfl
  obtain ⟨f0, l0, h0, k0, h⟩ := List.map_eq_cons_iff.1 h
  obtain ⟨f1, l1, h1, k1, h⟩ := List.map_eq_cons_iff.1 h
  obtain ⟨f2, l2, h2, k2, h⟩ := List.map_eq_cons_iff.1 h
  obtain ⟨f3, l3, h3, k3, h⟩ := List.map_eq_cons_iff.1 h
  obtain ⟨f4, l4, h4, k4, h⟩ := List.map_eq_cons_iff.1 h
  obtain ⟨f5, l5, h5, k5, h⟩ := List.map_eq_cons_iff.1 h
  obtain ⟨f6, l6, h6, k6, h⟩ := List.map_eq_cons_iff.1 h
  obtain rfl := List.map_eq_nil_iff.1 h
  rw [h0, h1, h2, h3, h4, h5, h6]
  simp only [Prod.mk.injEq] at k0 k1 k2 k3 k4 k5 k6
  have n1 : ∀ s : String, s ∈ ["Number", "Cell", "Path", "What", "From", "To", "Mode"] → s ≠ "_" := by decide
  have i3 : (Try.prog.info? 3).map (·.size) = some 1 := by kernel_rfl
  have i9 : (Try.prog.info? 9).map (·.size) = some 1 := by kernel_rfl
  cases hq : Try.prog.info? 3 with
  | none => simp [hq] at i3
  | some j =>
    have hs : j.size = 1 := by simpa [hq] using i3
    cases hq9 : Try.prog.info? 9 with
    | none => simp [hq9] at i9
    | some j9 =>
      have hs9 : j9.size = 1 := by simpa [hq9] using i9
      have p0 : ∀ w, (part 3 #[Value.int .i64 a, .int .i64 b, .string c, .int .i64 d, .int .i64 e, .int .i64 f, .int .i64 g] 0).run Try.prog w = .ok (.int .i64 a) w := fun w => by simp [part, isAgg, run_underlying Try.underlying3, sizeOf, typeInfo, hq, hs]
      have p1 : ∀ w, (part 3 #[Value.int .i64 a, .int .i64 b, .string c, .int .i64 d, .int .i64 e, .int .i64 f, .int .i64 g] 1).run Try.prog w = .ok (.int .i64 b) w := fun w => by simp [part, isAgg, run_underlying Try.underlying3, sizeOf, typeInfo, hq, hs]
      have p2 : ∀ w, (part 9 #[Value.int .i64 a, .int .i64 b, .string c, .int .i64 d, .int .i64 e, .int .i64 f, .int .i64 g] 2).run Try.prog w = .ok (.string c) w := fun w => by simp [part, isAgg, run_underlying Try.underlying9, sizeOf, typeInfo, hq9, hs9]
      have p3 : ∀ w, (part 3 #[Value.int .i64 a, .int .i64 b, .string c, .int .i64 d, .int .i64 e, .int .i64 f, .int .i64 g] 3).run Try.prog w = .ok (.int .i64 d) w := fun w => by simp [part, isAgg, run_underlying Try.underlying3, sizeOf, typeInfo, hq, hs]
      have p4 : ∀ w, (part 3 #[Value.int .i64 a, .int .i64 b, .string c, .int .i64 d, .int .i64 e, .int .i64 f, .int .i64 g] 4).run Try.prog w = .ok (.int .i64 e) w := fun w => by simp [part, isAgg, run_underlying Try.underlying3, sizeOf, typeInfo, hq, hs]
      have p5 : ∀ w, (part 3 #[Value.int .i64 a, .int .i64 b, .string c, .int .i64 d, .int .i64 e, .int .i64 f, .int .i64 g] 5).run Try.prog w = .ok (.int .i64 f) w := fun w => by simp [part, isAgg, run_underlying Try.underlying3, sizeOf, typeInfo, hq, hs]
      have p6 : ∀ w, (part 3 #[Value.int .i64 a, .int .i64 b, .string c, .int .i64 d, .int .i64 e, .int .i64 f, .int .i64 g] 6).run Try.prog w = .ok (.int .i64 g) w := fun w => by simp [part, isAgg, run_underlying Try.underlying3, sizeOf, typeInfo, hq, hs]
      rw [Op.eqFields, if_pos (by rw [k0.1]; exact n1 _ (by simp)), k0.2.1, k0.2.2]
      simp only [Sem.run_bind, p0, Result.andThen_ok, run_equalIn_int _ _ 3 .i64 .i64 _ _ Try.underlying3, beq_self_eq_true, Bool.not_true, Bool.false_eq_true, if_false]
      rw [Op.eqFields, if_pos (by rw [k1.1]; exact n1 _ (by simp)), k1.2.1, k1.2.2]
      simp only [Sem.run_bind, p1, Result.andThen_ok, run_equalIn_int _ _ 3 .i64 .i64 _ _ Try.underlying3, beq_self_eq_true, Bool.not_true, Bool.false_eq_true, if_false]
      rw [Op.eqFields, if_pos (by rw [k2.1]; exact n1 _ (by simp)), k2.2.1, k2.2.2]
      simp only [Sem.run_bind, p2, Result.andThen_ok, run_equalIn_string _ _ 9 _ _ Try.underlying9, beq_self_eq_true, Bool.not_true, Bool.false_eq_true, if_false]
      rw [Op.eqFields, if_pos (by rw [k3.1]; exact n1 _ (by simp)), k3.2.1, k3.2.2]
      simp only [Sem.run_bind, p3, Result.andThen_ok, run_equalIn_int _ _ 3 .i64 .i64 _ _ Try.underlying3, beq_self_eq_true, Bool.not_true, Bool.false_eq_true, if_false]
      rw [Op.eqFields, if_pos (by rw [k4.1]; exact n1 _ (by simp)), k4.2.1, k4.2.2]
      simp only [Sem.run_bind, p4, Result.andThen_ok, run_equalIn_int _ _ 3 .i64 .i64 _ _ Try.underlying3, beq_self_eq_true, Bool.not_true, Bool.false_eq_true, if_false]
      rw [Op.eqFields, if_pos (by rw [k5.1]; exact n1 _ (by simp)), k5.2.1, k5.2.2]
      simp only [Sem.run_bind, p5, Result.andThen_ok, run_equalIn_int _ _ 3 .i64 .i64 _ _ Try.underlying3, beq_self_eq_true, Bool.not_true, Bool.false_eq_true, if_false]
      rw [Op.eqFields, if_pos (by rw [k6.1]; exact n1 _ (by simp)), k6.2.1, k6.2.2]
      simp [p6, run_equalIn_int _ _ 3 .i64 .i64 _ _ Try.underlying3, Op.eqFields]
theorem plan_lens (L : List Cd) (most : Int) : (planF L most).items.length ≤ L.length ∧ (planF L most).left.length ≤ L.length := by
  unfold planF
  simp only
  have h1 := its_len (L.map cnt) (leave (L.map cnt) (cap most)) (L.map cnt).length
  have h2 := pls_len (leave (L.map cnt) (cap most)) (leave (L.map cnt) (cap most)).length
  have h3 := leave_len (L.map cnt) (cap most)
  simp only [List.length_map] at h1 h2 h3 ⊢
  exact ⟨h1, by omega⟩
/-- two plans, the second with the sides exchanged, lie in variables -/
def PP (w wr : World) (B : Nat) (vi vl vi2 vl2 : Value) (p : Pl) : Prop :=
  wr.heap[B]? = some (.cells #[vi, vl, .int .i64 p.na, .int .i64 p.ba, .int .i64 p.nb, .int .i64 p.bb] 34 (0, 0)) ∧ wr.heap[B + 1]? = some (.cells #[vi2, vl2, .int .i64 p.nb, .int .i64 p.bb, .int .i64 p.na, .int .i64 p.ba] 34 (0, 0)) ∧ HasI wr vi p.items ∧ HasI wr vi2 (p.items.map swI) ∧ HasN wr vl p.left ∧ HasN wr vl2 p.left ∧ G w wr
theorem PP.up {w wr w' : World} {B : Nat} {vi vl vi2 vl2 : Value} {p : Pl} (h : PP w wr B vi vl vi2 vl2 p) (hb : G wr w') : PP w w' B vi vl vi2 vl2 p := by
  obtain ⟨a, b, c, d, e, f, g⟩ := h
  exact ⟨(hb.block B (Array.getElem?_eq_some_iff.1 a).1).trans a, (hb.block (B + 1) (Array.getElem?_eq_some_iff.1 b).1).trans b, c.up hb, d.up hb, e.up hb, f.up hb, g.up hb⟩
theorem eq31 (a b : Int) (w : World) : (Op.equalIn 10000 31 (.agg #[.int .i64 a, .int .i64 b]) (.agg #[.int .i64 a, .int .i64 b])).run Try.prog w = .ok true w := eqRoom 9998 a b w
end Go.Proofs.Ytpenaeoodfgmpaa
