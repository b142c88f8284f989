/-
  append of rules as a step of a region that draws.
-/
import Derived.Test.YthioflehpifflaaGreatDoorDue
import Derived.Test.YthioflehpifflaaGreatDoorKept
import Derived.Deep.RegionHeld3
import Derived.Deep.AppendLies
namespace Go.Proofs.YthioflehpifflaaGreatDoor
open Go.RowKit

theorem Tryz.info22 : (Tryz.prog.info? 22).map (fun i => (i.zero, i.size, i.bytes)) = some (some (.slice none 0 0), 1, 24) := by kernel_rfl
theorem Tryz.info3 : (Tryz.prog.info? 3).map (fun i => (i.zero, i.size, i.bytes)) = some (some (.int .i64 0), 1, 8) := by kernel_rfl

theorem step_append_rules {w : World} {ops : Array Oper} {o : Oper} {a : Act} {K : Act → World → Prop} {Q : Exit → Act → World → Prop} {E : Prop} (hgd : o.guard = none) (s x : Operand)
    (ho : o.op = .call { callee := .builtin .append, args := #[s, x], argTypes := #[22, 22] })
    (lo : Nat) (v vx : Value) (m l : List Ru) (hs : a.eval s = v) (hx : a.eval x = vx) (hown : OwnsR w lo v m) (hhas : HasQ w vx l)
    (hlen : m.length + l.length ≤ 1048576) (hbase : lo ≤ w.heap.size)
    (h : ∀ v' w', OwnsR w' lo v' (m ++ l) → Below lo w w' → K (a.put o.dst v') w') :
    if Region.wanted o (yielded ops a.tmps) = true then Oper.wp Tryz.prog o a w K Q else E := by
  have hw : Region.wanted o (yielded ops a.tmps) = true := by simp [Region.wanted, hgd]
  rw [if_pos hw]
  obtain ⟨i0, hi, hz0, hz1, hz2⟩ := info_parts info55
  rcases hhas with ⟨rfl, hl⟩ | ⟨g, cap, rfl, hc, hcell⟩
  · obtain rfl := List.length_eq_zero_iff.1 hl
    have hr := run_append_owned_none (P := Tryz.prog) w lo 22 o.type 55 i0 71 Tryz.underlying22 hi v m.length (rcs m) hown
    unfold Oper.wp execOp
    simp only [ho, resolve, invoke, builtin, Sem.run_bind, Sem.run_pure, Result.andThen_ok, List.map_toArray, List.map_cons, List.map_nil, hs, hx, hr]
    exact h v w (by simpa using hown) (Below.refl _ _)
  · refine wp_append_own w s x 22 ho lo 55 i0 (.agg z55) 71 128 Tryz.underlying22 hi hz0 hz1 hz2 z55_size (by decide) v m.length (rcs m) hs hown ⟨g, 0, none⟩ l.length cap (rcs l) hx (rcs_len l) ?_ (rcs_one l) ?_ ?_ hbase ?_
    · intro j u hj
      rw [Bk.add0]
      exact hcell j u hj
    · unfold maxLen; omega
    · omega
    · intro v' w' h1 h2 _
      refine h v' w' ?_ ((Below.refl lo w).grown h2 hbase fun k hk => (World.ownsRow.lt hown k hk).1)
      unfold OwnsR
      rw [rcs_app, List.length_append]
      exact h1
end Go.Proofs.YthioflehpifflaaGreatDoor
