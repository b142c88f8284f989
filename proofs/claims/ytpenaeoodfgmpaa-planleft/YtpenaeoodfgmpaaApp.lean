/-
  Lists of numbers put together: slices of them, append of them.
-/
import Derived.Test.YtpenaeoodfgmpaaGrow
namespace Go.Proofs.Ytpenaeoodfgmpaa
open Go.RowKit

/-- numbers that can be appended -/
def SrcN (w : World) (v : Value) (R : List Int) : Prop :=
  (v = .slice none 0 0 ∧ R = []) ∨ ∃ ad c, v = .slice (some ad) R.length c ∧ ∀ (j : Nat) (x : Int), R[j]? = some x → w.cell? (ad.add j) = some (.int .i64 x)
theorem flat_nc : ∀ R : List Int, flat nc R = R.map fun x => Value.int .i64 x
  | [] => rfl
  | x :: R => by
    have ih := flat_nc R
    unfold flat at ih ⊢
    rw [List.map_cons, List.map_cons, List.flatten_cons, ih]
    rfl
theorem app_run {w : World} {lo : Nat} {v src : Value} {R news : List Int} (ty : TypeId) (h : OwnsN w lo v R) (hs : SrcN w src news) (hb : lo ≤ w.heap.size) (hl : R.length + news.length ≤ 1000) :
    ∃ v' w', (Builtin.append_ #[29, 29] ty #[v, src]).run Try.prog w = .ok v' w' ∧ OwnsN w' lo v' (R ++ news) ∧ w.grownBy w' v.ownBlock := by
  obtain ⟨i0, hi, hz0, hz1, hz2⟩ := info_parts Try.info3
  rcases hs with ⟨rfl, rfl⟩ | ⟨ad, c, rfl, hc⟩
  · refine ⟨v, w, run_append_owned_none (P := Try.prog) (w := w) lo 29 ty 3 i0 1 Try.underlying29 hi v _ _ h, by simpa using h, ⟨rfl, rfl, rfl, Nat.le_refl _, fun _ _ _ => rfl⟩⟩
  · obtain ⟨v', w', h1, h2, h3, _, _⟩ := run_append_own_at (P := Try.prog) w lo 29 ty 3 i0 _ 1 8 Try.underlying29 hi hz0 hz1 hz2 rfl (by omega) v R.length (flat nc R) h ad news.length c (flat nc news) (by rw [flat_nc]; simp) (fun j u hj => by
      rw [flat_nc, List.getElem?_map] at hj
      obtain ⟨x, hx, rfl⟩ := Option.map_eq_some_iff.1 hj
      exact hc j x hx) (fun u hu => by
      rw [flat_nc] at hu
      obtain ⟨x, _, rfl⟩ := List.mem_map.1 hu
      rfl) (by unfold maxLen; omega) (by omega) hb
    refine ⟨v', w', h1, ?_, h3⟩
    unfold OwnsN
    rw [List.length_append, flat_nc, List.map_append, ← flat_nc, ← flat_nc]
    exact h2
theorem exec_app {o : Oper} {a : Act} {s x : Operand} (ho : o.op = .call { callee := .builtin .append, args := #[s, x], argTypes := #[29, 29] }) {v src v' : Value} {w w' : World} (hs : a.eval s = v) (hx : a.eval x = src)
    (hr : (Builtin.append_ #[29, 29] o.type #[v, src]).run Try.prog w = .ok v' w') : (execOp a.eval o).run Try.prog w = .ok (.value v') w' := by
  unfold execOp
  simp only [ho, resolve, invoke, builtin, Sem.run_bind, Sem.run_pure, Result.andThen_ok, List.map_toArray, List.map_cons, List.map_nil, hs, hx, hr]
/-- a part, from d on -/
theorem slice_run {w : World} {lo : Nat} {aa : Option Addr} {n ca : Nat} {R : List Int} (h : OwnsN w lo (.slice aa n ca) R) (hn : R.length = n) {d : Nat} (hd : d ≤ n) :
    ∃ src, SrcN w src (R.drop d) ∧ ∀ W : World, (Instr.sliceAt 29 (.slice aa n ca) (some (.int .i64 (d : Int))) none none).run Try.prog W = .ok src W := by
  have hh := h.has
  obtain ⟨h1, ⟨e, h2⟩ | ⟨g, cap, cur, e, h2, h3, h4, h5, h6, h7⟩⟩ := h
  · injection e with e1 e2 e3
    subst e1 e2 e3
    obtain rfl : R = [] := List.length_eq_zero_iff.1 h2
    obtain rfl : d = 0 := by omega
    refine ⟨.slice none 0 0, .inl ⟨rfl, rfl⟩, fun W => ?_⟩
    simp [go_sem, Try.underlying29]
  · injection e with e1 e2 e3
    subst e1 e3
    unfold maxLen at h5
    by_cases hc : ca = d
    · refine ⟨.slice (some ⟨g, 0, none⟩) (R.drop d).length (ca - d), .inr ⟨_, _, rfl, fun j x hj => ?_⟩, fun W => ?_⟩
      · have := (List.getElem?_eq_some_iff.1 hj).1
        simp at this
        omega
      · rw [List.length_drop, hn]
        simp [go_sem, Try.underlying29, hd, hc]
    · refine ⟨.slice (some ⟨g, d, none⟩) (R.drop d).length (ca - d), .inr ⟨_, _, rfl, fun j x hj => ?_⟩, fun W => ?_⟩
      · rw [List.getElem?_drop] at hj
        obtain ⟨ao, cp, e, hq⟩ := hh
        injection e with e1 _ _
        obtain ⟨g', o', e2, h⟩ := hq _ _ hj
        rw [← e1] at e2
        injection e2 with e2
        injection e2 with e3 e4
        subst e3 e4
        rw [addr_add]
        simpa using h
      · rw [List.length_drop, hn]
        simp [go_sem, Try.underlying29, hd, hc]
theorem exec_slice {o : Oper} {a : Act} {x l : Operand} (ho : o.op = .slice 29 x (some l) none none) {v src : Value} {d : Int} {w : World} (hx : a.eval x = v) (hl : a.eval l = .int .i64 d)
    (hr : ∀ W : World, (Instr.sliceAt 29 v (some (.int .i64 d)) none none).run Try.prog W = .ok src W) : (execOp a.eval o).run Try.prog w = .ok (.value src) w := by
  unfold execOp
  simp only [ho, Option.map_some, Option.map_none, hx, hl, Sem.run_bind, hr, Sem.run_pure, Result.andThen_ok]
theorem SrcN.up {w w' : World} {v : Value} {R : List Int} (h : SrcN w v R) (hc : ∀ a u, w.cell? a = some u → w'.cell? a = some u) : SrcN w' v R := by
  rcases h with h | ⟨ad, c, h1, h2⟩
  · exact .inl h
  · exact .inr ⟨ad, c, h1, fun j x hj => hc _ _ (h2 j x hj)⟩
theorem OwnsN.src {w : World} {lo : Nat} {v : Value} {R : List Int} (h : OwnsN w lo v R) : SrcN w v R := by
  have hh := h.has
  obtain ⟨h1, ⟨e, h2⟩ | ⟨g, cap, cur, e, h2, h3, h4, h5, h6, h7⟩⟩ := h
  · exact .inl ⟨e, List.length_eq_zero_iff.1 h2⟩
  · refine .inr ⟨_, _, e, fun j x hj => ?_⟩
    obtain ⟨ao, cp, e1, hq⟩ := hh
    rw [e] at e1
    injection e1 with e1 _ _
    obtain ⟨g', o', e2, h⟩ := hq _ _ hj
    rw [← e1] at e2
    injection e2 with e2
    injection e2 with e3 e4
    subst e3 e4
    rw [addr_add]
    exact h
theorem SrcN.upG {w w' : World} {v : Value} {R : List Int} (h : SrcN w v R) (hb : G w w') : SrcN w' v R :=
  h.up fun a u hu => by rw [hb.cell (World.block_lt_of_cell? w _ hu)]; exact hu
theorem wp_exec {o : Oper} {a : Act} {w w' : World} {K : Act → World → Prop} {Q : Exit → Act → World → Prop} {v : Value} (he : (execOp a.eval o).run Try.prog w = .ok (.value v) w') (h : K (a.put o.dst v) w') : Oper.wp Try.prog o a w K Q := by
  unfold Oper.wp
  rw [he, Oper.upon_value]
  exact h
end Go.Proofs.Ytpenaeoodfgmpaa
