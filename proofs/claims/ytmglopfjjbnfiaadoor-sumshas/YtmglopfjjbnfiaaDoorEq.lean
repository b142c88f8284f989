/-
  Two arrays of 32 bytes that are one are equal.
-/
import Derived.Test.YtmglopfjjbnfiaaDoorBase
namespace Go.Proofs.YtmglopfjjbnfiaaDoor
open Go.RowKit
theorem size5 (w : World) : (sizeOf 5).run Tryd.prog w = .ok 1 w := by
  have h1 : (Tryd.prog.info? 5).map (·.size) = some 1 := by kernel_rfl
  cases hq : Tryd.prog.info? 5 with
  | none => simp [hq] at h1
  | some i =>
    have hs : i.size = 1 := by simpa [hq] using h1
    simp [sizeOf, typeInfo, hq, hs]
theorem part5 (c : Array Value) (i : Nat) (x : Nat) (h : c[i]? = some (vb x)) (w : World) : (part 5 c (i * 1)).run Tryd.prog w = .ok (vb x) w := by
  have h1 : (Tryd.prog.info? 5).map (·.size) = some 1 := by kernel_rfl
  cases hq : Tryd.prog.info? 5 with
  | none => simp [hq] at h1
  | some j =>
    have hs : j.size = 1 := by simpa [hq] using h1
    simp [part, isAgg, run_underlying Tryd.underlying5, sizeOf, typeInfo, hq, hs, h]

theorem eq41_list (d : Nat) (c : Array Value) (w : World) : ∀ is : List Nat, (∀ i ∈ is, ∃ x, c[i]? = some (vb x)) →
    (forIn is ((none : Option Bool), ()) fun i _ => (do
      let a ← part 5 c (i * 1)
      let b ← part 5 c (i * 1)
      let r ← Op.equalIn (d + 1) 5 a b
      if (!r) = true then pure (ForInStep.done (some false, ())) else pure (ForInStep.yield (none, ())) : Sem (ForInStep (Option Bool × Unit)))).run Tryd.prog w = .ok (none, ()) w
  | [], _ => by simp
  | i :: is, h => by
    obtain ⟨x, hx⟩ := h i (by simp)
    have ih := eq41_list d c w is (fun j hj => h j (by simp [hj]))
    simp only [List.forIn_cons, Sem.run_bind, part5 c i x hx, Result.andThen_ok]
    simp only [vb, run_equalIn_int w d 5 .u8 .u8 x x Tryd.underlying5, Result.andThen_ok, beq_self_eq_true, Bool.not_true, Bool.false_eq_true, if_false, Sem.run_pure]
    exact ih

set_option maxRecDepth 100000 in
theorem eq41 (d : Nat) (l : List Nat) (hl : l.length = 32) (w : World) : (Op.equalIn (d + 2) 41 (.agg (l.map vb).toArray) (.agg (l.map vb).toArray)).run Tryd.prog w = .ok true w := by
  rw [show d + 2 = (d + 1) + 1 from rfl]
  unfold Op.equalIn
  simp only [Sem.run_bind, run_underlying Tryd.underlying41, Result.andThen_ok, size5]
  rw [Std.Legacy.Range.forIn_eq_forIn_range']
  rw [eq41_list d (l.map vb).toArray w _ ?_]
  · simp
  · intro i hi
    have : i < l.length := by simp at hi; omega
    exact ⟨l[i], by simp [this]⟩

theorem yields_eql41 {ops : Array Oper} {o : Oper} {a : Act} (x y : Operand) (l : List Nat) (hl : l.length = 32) (ho : o.op = .binOp .eql 41 x y 41) (hw : Region.wanted o (yielded ops a.tmps) = true)
    (hx : a.eval x = .agg (l.map vb).toArray) (hy : a.eval y = .agg (l.map vb).toArray) : Yields Tryd.prog ops o (.bool true) a := by
  refine Or.inl ⟨hw, fun w => ?_⟩
  have h := eq41 9998 l hl w
  unfold execOp
  have h' : (Op.equal 41 (.agg (l.map vb).toArray) (.agg (l.map vb).toArray)).run Tryd.prog w = .ok true w := h
  have hg : Tryd.prog.eqGuardType Tryd.prog.depth 41 = false := by kernel_rfl
  simp only [ho, hx, hy, eqGuard, binOp, Sem.run_bind]
  simp [Result.andThen, hg, h']
end Go.Proofs.YtmglopfjjbnfiaaDoor
