/-
  The statement of known that draws its order: three plans.
-/
import Derived.Test.YtpenaeoodfgmpaaMany
namespace Go.Proofs.Ytpenaeoodfgmpaa
open Go.RowKit

section
variable {ops : Array Oper} {Q : Exit → Act → World → Prop} {t0 t : Array Value} {done : Nat → Bool} {V : Nat → Value} {KM : (Nat → Bool) → (Nat → Value) → World → Prop}
/-- the word for a region whose values hang on the order -/
def IM (ops : Array Oper) (t0 : Array Value) (KM : (Nat → Bool) → (Nat → Value) → World → Prop) (done : Nat → Bool) (a : Act) (w : World) : Prop := ∃ t V, a = ⟨t, []⟩ ∧ Slots ops V t0 t done ∧ KM done V w
theorem Slots.new {i d : Nat} {o : Oper} (h : Slots ops V t0 t done) (hB : dstB ops t0.size = true) (ho : ops[i]? = some o) (hd : o.dst = some d) (hi : done i = false) (v : Value) : Slots ops (upV V i v) t0 (t.setIfInBounds d v) (upd done i) := by
  have := (h.more i v hi).put hB ho hd
  rwa [upV_eq] at this
theorem im_val {i d : Nat} {o : Oper} {w w' : World} {v : Value} (hB : dstB ops t0.size = true) (ho : ops[i]? = some o) (hg : o.guard = none) (hd : o.dst = some d) (hi : done i = false) (hs : Slots ops V t0 t done) (hM : KM (upd done i) (upV V i v) w') (hrun : (execOp (Act.mk t []).eval o).run Try.prog w = .ok (.value v) w') : wpOp Try.prog ops Q i (IM ops t0 KM (upd done i)) ⟨t, []⟩ w := by
  unfold wpOp
  rw [ho]
  simp only
  rw [if_pos (by simp [Region.wanted, hg])]
  left
  unfold Oper.wp
  rw [hrun, Oper.upon_value, hd]
  exact ⟨_, _, rfl, hs.new hB ho hd hi v, hM⟩
theorem im_call {i d : Nat} {o : Oper} {w : World} (f : FuncId) (args : Array Value) (hB : dstB ops t0.size = true) (ho : ops[i]? = some o) (hg : o.guard = none) (hd : o.dst = some d) (hi : done i = false) (hs : Slots ops V t0 t done) (hrun : (execOp (Act.mk t []).eval o).run Try.prog w = .ok (.enter f args) w) (hC : Calls Try.prog f args w fun e w' => ∃ v, e = .returned v ∧ KM (upd done i) (upV V i v) w') : wpOp Try.prog ops Q i (IM ops t0 KM (upd done i)) ⟨t, []⟩ w := by
  unfold wpOp
  rw [ho]
  simp only
  rw [if_pos (by simp [Region.wanted, hg])]
  left
  unfold Oper.wp
  rw [hrun]
  refine Calls.mono hC ?_
  rintro e w' ⟨v, rfl, hM⟩
  rw [hd]
  exact ⟨_, _, rfl, hs.new hB ho hd hi v, hM⟩
theorem im_store {i : Nat} {o : Oper} {w w' : World} (v : Value) (ho : ops[i]? = some o) (hg : o.guard = none) (hd : o.dst = none) (hi : done i = false) (hs : Slots ops V t0 t done) (hM : KM (upd done i) (upV V i v) w') (hrun : (execOp (Act.mk t []).eval o).run Try.prog w = .ok .skip w') : wpOp Try.prog ops Q i (IM ops t0 KM (upd done i)) ⟨t, []⟩ w := by
  unfold wpOp
  rw [ho]
  simp only
  rw [if_pos (by simp [Region.wanted, hg])]
  left
  unfold Oper.wp
  rw [hrun, Oper.upon_skip, hd]
  exact ⟨_, _, rfl, (hs.more i v hi).skip ho hd, hM⟩
end
theorem under24 : Try.prog.underlying 24 = some (.struct (Try.prog.fieldsOf 24)) := by kernel_rfl
theorem size24 : (Try.prog.info? 24).map (·.size) = some 1 := by kernel_rfl
theorem pCells_one (p : Pl) {vi vl : Value} (h1 : vi.oneCell' = true) (h2 : vl.oneCell' = true) : (pCells p vi vl).all (·.oneCell') = true := by
  rw [Array.all_eq_true_iff_forall_mem]
  intro x hx
  simp only [pCells, List.mem_toArray, List.mem_cons, List.not_mem_nil, or_false] at hx
  rcases hx with rfl | rfl | rfl | rfl | rfl | rfl <;> first | exact h1 | exact h2 | rfl
theorem owns_one {w : World} {lo s n : Nat} {T : TypeId} {v : Value} {xs : List Value} (h : w.ownsRow lo T s v n xs) : v.oneCell' = true := by
  obtain ⟨a, c, rfl⟩ := owns_form h
  rfl
theorem back8 : backB (opsAt Try.f8 2) = true := by kernel_rfl
theorem dst8 : dstB (opsAt Try.f8 2) 71 = true := by kernel_rfl
theorem size8 : (opsAt Try.f8 2).size = 12 := by kernel_rfl
theorem free8 : freeB (opsAt Try.f8 2) 1 = true := by kernel_rfl
/-- the three plans -/
def pl8 (p : Int → Pl) (j : Nat) : Pl := p (if j = 1 then 12 else if j = 3 then 11 else 3)
/-- what is known while the region runs -/
def K8 (MV : Value) (p : Int → Pl) (lo : Nat) (W0 : World) (done : Nat → Bool) (V : Nat → Value) (w : World) : Prop :=
  (done 0 = true → V 0 = MV) ∧ (done 2 = true → V 2 = MV) ∧ (done 4 = true → V 4 = MV) ∧ ST [6, 7, 8] [1, 3, 5] (fun k => k + 3) (fun k => 2 * k - 11) (pl8 p) lo W0 done V w
theorem loads8 {MV : Value} {done : Nat → Bool} {V : Nat → Value} {i : Nat} {v : Value} (hi : i ≠ 0 ∧ i ≠ 2 ∧ i ≠ 4) (h : (done 0 = true → V 0 = MV) ∧ (done 2 = true → V 2 = MV) ∧ (done 4 = true → V 4 = MV)) : (upd done i 0 = true → upV V i v 0 = MV) ∧ (upd done i 2 = true → upV V i v 2 = MV) ∧ (upd done i 4 = true → upV V i v 4 = MV) := by
  rw [upd_ne _ (Ne.symm hi.1), upd_ne _ (Ne.symm hi.2.1), upd_ne _ (Ne.symm hi.2.2), upV_ne _ _ (Ne.symm hi.1), upV_ne _ _ (Ne.symm hi.2.1), upV_ne _ _ (Ne.symm hi.2.2)]
  exact h
theorem loaded8 {MV : Value} {done : Nat → Bool} {V : Nat → Value} {i : Nat} (h : (done 0 = true → V 0 = MV) ∧ (done 2 = true → V 2 = MV) ∧ (done 4 = true → V 4 = MV)) : (upd done i 0 = true → upV V i MV 0 = MV) ∧ (upd done i 2 = true → upV V i MV 2 = MV) ∧ (upd done i 4 = true → upV V i MV 4 = MV) := by
  unfold upd upV
  refine ⟨fun h1 => ?_, fun h1 => ?_, fun h1 => ?_⟩ <;> split at h1 <;> rename_i q <;> simp only [q, if_true, if_false]
  · exact h.1 h1
  · exact h.2.1 h1
  · exact h.2.2 h1

theorem s8_0 : say (opsAt Try.f8 2) 0 = some (some 14, .load 24 (.tmp 1), none) := by kernel_rfl
theorem d8_0 : slotB (opsAt Try.f8 2) 0 = some 14 := by kernel_rfl
theorem s8_1 : say (opsAt Try.f8 2) 1 = some (some 15, .call { callee := .value (.func 10), args := #[.tmp 14, .const (.int .i64 12)], argTypes := #[24, 3] }, none) := by kernel_rfl
theorem d8_1 : slotB (opsAt Try.f8 2) 1 = some 15 := by kernel_rfl
theorem s8_2 : say (opsAt Try.f8 2) 2 = some (some 16, .load 24 (.tmp 1), none) := by kernel_rfl
theorem d8_2 : slotB (opsAt Try.f8 2) 2 = some 16 := by kernel_rfl
theorem s8_3 : say (opsAt Try.f8 2) 3 = some (some 17, .call { callee := .value (.func 10), args := #[.tmp 16, .const (.int .i64 11)], argTypes := #[24, 3] }, none) := by kernel_rfl
theorem d8_3 : slotB (opsAt Try.f8 2) 3 = some 17 := by kernel_rfl
theorem s8_4 : say (opsAt Try.f8 2) 4 = some (some 18, .load 24 (.tmp 1), none) := by kernel_rfl
theorem d8_4 : slotB (opsAt Try.f8 2) 4 = some 18 := by kernel_rfl
theorem s8_5 : say (opsAt Try.f8 2) 5 = some (some 19, .call { callee := .value (.func 10), args := #[.tmp 18, .const (.int .i64 3)], argTypes := #[24, 3] }, none) := by kernel_rfl
theorem d8_5 : slotB (opsAt Try.f8 2) 5 = some 19 := by kernel_rfl
theorem s8_6 : say (opsAt Try.f8 2) 6 = some (some 2, .alloc 34, none) := by kernel_rfl
theorem d8_6 : slotB (opsAt Try.f8 2) 6 = some 2 := by kernel_rfl
theorem s8_7 : say (opsAt Try.f8 2) 7 = some (some 3, .alloc 34, none) := by kernel_rfl
theorem d8_7 : slotB (opsAt Try.f8 2) 7 = some 3 := by kernel_rfl
theorem s8_8 : say (opsAt Try.f8 2) 8 = some (some 4, .alloc 34, none) := by kernel_rfl
theorem d8_8 : slotB (opsAt Try.f8 2) 8 = some 4 := by kernel_rfl
theorem s8_9 : say (opsAt Try.f8 2) 9 = some (none, .store 34 (.tmp 2) (.tmp 15), none) := by kernel_rfl
theorem s8_10 : say (opsAt Try.f8 2) 10 = some (none, .store 34 (.tmp 3) (.tmp 17), none) := by kernel_rfl
theorem s8_11 : say (opsAt Try.f8 2) 11 = some (none, .store 34 (.tmp 4) (.tmp 19), none) := by kernel_rfl
set_option maxHeartbeats 4000000 in
set_option maxRecDepth 100000 in
theorem known_reg (v : Value) (Mb : Nat) (p : Int → Pl) (t0 : Array Value) (W : World) {Q : Exit → Act → World → Prop} (ht : t0.size = 71) (h1 : t0.getD 1 undef = ptr Mb) (hrow : W.heap[Mb]? = some (.cells #[v] 24 (0, 0)))
    (C : ∀ most W', G W W' → Calls Try.prog 10 #[.agg #[v], .int .i64 most] W' fun e w' => PlanAt W' w' e (p most))
    (hQ : ∀ done V w, (∀ i, i < 12 → done i = true) → K8 (.agg #[v]) p W.heap.size W done V w → Q .normal ⟨fold (opsAt Try.f8 2) V t0 12, []⟩ w) : (Code.region 2 (opsAt Try.f8 2) true).wp Try.prog Q ⟨t0, []⟩ W := by
  have hB : dstB (opsAt Try.f8 2) t0.size = true := by rw [ht]; exact dst8
  have hMb : Mb < W.heap.size := (Array.getElem?_eq_some_iff.1 hrow).1
  refine inv_region Try.mixed (IM (opsAt Try.f8 2) t0 (K8 (.agg #[v]) p W.heap.size W)) back8 ⟨t0, fun _ => undef, rfl, ⟨rfl, fun _ _ => rfl, fun _ _ _ _ _ h => by cases h⟩, ⟨(fun h => by cases h), (fun h => by cases h), (fun h => by cases h), ⟨⟨rfl, rfl, rfl, Nat.le_refl _, fun _ _ => rfl⟩, Nat.le_refl _, fun _ _ h => (by cases h), fun _ _ h => (by cases h), fun _ _ _ _ _ h => (by cases h)⟩⟩⟩ ?_ ?_
  rotate_left 1
  · rintro done a w ⟨t, V, rfl, hS, hM⟩ hall
    rw [hS.end hB hall, size8]
    exact hQ done V w (fun i hi => hall i (by rw [size8]; exact hi)) hM
  · rintro i o done a w ho ⟨t, V, rfl, hS, hL0, hL2, hL4, hM⟩ hnd hdep hcl
    have hL := And.intro hL0 (And.intro hL2 hL4)
    have e1 : t[1]?.getD undef = ptr Mb := (hS.old free8).trans h1
    have hlt : i < 12 := by rw [← size8]; exact (Array.getElem?_eq_some_iff.1 ho).1
    match i, hlt, ho, hnd, hdep with
    | 0, _, ho, hnd, hdep =>
      obtain ⟨hd, hop, hg⟩ := say_of s8_0 ho
      have hc : w.cell? ⟨Mb, 0, none⟩ = some v := cell_of_row w Mb 0 _ _ _ ((hM.1.block Mb hMb).trans hrow)
      refine im_val (v := .agg #[v]) hB ho hg hd hnd hS ⟨(loaded8 hL).1, (loaded8 hL).2.1, (loaded8 hL).2.2, hM.other 0 _ (by decide) (by decide) (by decide) (by decide)⟩ ?_
      unfold ptr at e1
      unfold execOp
      simp only [hop]
      simp [e1, hc, go_sem]
    | 1, _, ho, hnd, hdep =>
      obtain ⟨hd, hop, hg⟩ := say_of s8_1 ho
      have hx : t[14]?.getD undef = _ := hS.at d8_0 (waits (j := 0) (by kernel_rfl) ho hdep)
      rw [hL0 (waits (j := 0) (by kernel_rfl) ho hdep)] at hx
      have hst : done 9 = false := not_yet (k := 1) (by kernel_rfl) hcl hnd
      refine im_call 10 #[.agg #[v], .int .i64 12] hB ho hg hd hnd hS ?_ ((C 12 w ⟨hM.1.os, hM.1.tape, hM.1.output, hM.1.size, hM.1.block⟩).mono ?_)
      · unfold execOp
        simp only [hop]
        simp [hx, go_sem]
      · rintro e w' ⟨vi, vl, rfl, o1, o2, _, hg'⟩
        refine ⟨_, rfl, (loads8 (by decide) hL).1, (loads8 (by decide) hL).2.1, (loads8 (by decide) hL).2.2, ?_⟩
        exact hM.call 1 (by decide) (by decide) (fun q hq hc => by
          have : q = 6 ∨ q = 7 ∨ q = 8 := by simpa using hq
          rcases this with rfl | rfl | rfl <;> first | exact hst | (exact absurd hc (by decide))) o1 o2 hg'
    | 2, _, ho, hnd, hdep =>
      obtain ⟨hd, hop, hg⟩ := say_of s8_2 ho
      have hc : w.cell? ⟨Mb, 0, none⟩ = some v := cell_of_row w Mb 0 _ _ _ ((hM.1.block Mb hMb).trans hrow)
      refine im_val (v := .agg #[v]) hB ho hg hd hnd hS ⟨(loaded8 hL).1, (loaded8 hL).2.1, (loaded8 hL).2.2, hM.other 2 _ (by decide) (by decide) (by decide) (by decide)⟩ ?_
      unfold ptr at e1
      unfold execOp
      simp only [hop]
      simp [e1, hc, go_sem]
    | 3, _, ho, hnd, hdep =>
      obtain ⟨hd, hop, hg⟩ := say_of s8_3 ho
      have hx : t[16]?.getD undef = _ := hS.at d8_2 (waits (j := 2) (by kernel_rfl) ho hdep)
      rw [hL2 (waits (j := 2) (by kernel_rfl) ho hdep)] at hx
      have hst : done 10 = false := not_yet (k := 3) (by kernel_rfl) hcl hnd
      refine im_call 10 #[.agg #[v], .int .i64 11] hB ho hg hd hnd hS ?_ ((C 11 w ⟨hM.1.os, hM.1.tape, hM.1.output, hM.1.size, hM.1.block⟩).mono ?_)
      · unfold execOp
        simp only [hop]
        simp [hx, go_sem]
      · rintro e w' ⟨vi, vl, rfl, o1, o2, _, hg'⟩
        refine ⟨_, rfl, (loads8 (by decide) hL).1, (loads8 (by decide) hL).2.1, (loads8 (by decide) hL).2.2, ?_⟩
        exact hM.call 3 (by decide) (by decide) (fun q hq hc => by
          have : q = 6 ∨ q = 7 ∨ q = 8 := by simpa using hq
          rcases this with rfl | rfl | rfl <;> first | exact hst | (exact absurd hc (by decide))) o1 o2 hg'
    | 4, _, ho, hnd, hdep =>
      obtain ⟨hd, hop, hg⟩ := say_of s8_4 ho
      have hc : w.cell? ⟨Mb, 0, none⟩ = some v := cell_of_row w Mb 0 _ _ _ ((hM.1.block Mb hMb).trans hrow)
      refine im_val (v := .agg #[v]) hB ho hg hd hnd hS ⟨(loaded8 hL).1, (loaded8 hL).2.1, (loaded8 hL).2.2, hM.other 4 _ (by decide) (by decide) (by decide) (by decide)⟩ ?_
      unfold ptr at e1
      unfold execOp
      simp only [hop]
      simp [e1, hc, go_sem]
    | 5, _, ho, hnd, hdep =>
      obtain ⟨hd, hop, hg⟩ := say_of s8_5 ho
      have hx : t[18]?.getD undef = _ := hS.at d8_4 (waits (j := 4) (by kernel_rfl) ho hdep)
      rw [hL4 (waits (j := 4) (by kernel_rfl) ho hdep)] at hx
      have hst : done 11 = false := not_yet (k := 5) (by kernel_rfl) hcl hnd
      refine im_call 10 #[.agg #[v], .int .i64 3] hB ho hg hd hnd hS ?_ ((C 3 w ⟨hM.1.os, hM.1.tape, hM.1.output, hM.1.size, hM.1.block⟩).mono ?_)
      · unfold execOp
        simp only [hop]
        simp [hx, go_sem]
      · rintro e w' ⟨vi, vl, rfl, o1, o2, _, hg'⟩
        refine ⟨_, rfl, (loads8 (by decide) hL).1, (loads8 (by decide) hL).2.1, (loads8 (by decide) hL).2.2, ?_⟩
        exact hM.call 5 (by decide) (by decide) (fun q hq hc => by
          have : q = 6 ∨ q = 7 ∨ q = 8 := by simpa using hq
          rcases this with rfl | rfl | rfl <;> first | exact hst | (exact absurd hc (by decide))) o1 o2 hg'
    | 6, _, ho, hnd, hdep =>
      obtain ⟨hd, hop, hg⟩ := say_of s8_6 ho
      have hst : done 9 = false := not_yet (k := 6) (by kernel_rfl) hcl hnd
      refine im_val (v := ptr w.heap.size) (w' := w.alloc (.cells z34 34)) hB ho hg hd hnd hS ⟨(loads8 (by decide) hL).1, (loads8 (by decide) hL).2.1, (loads8 (by decide) hL).2.2, hM.alloc 6 (by decide) (by decide) (by decide) hst⟩ ?_
      exact exec_allocT (a := ⟨t, []⟩) 34 z34 hop zero34 w _ rfl
    | 7, _, ho, hnd, hdep =>
      obtain ⟨hd, hop, hg⟩ := say_of s8_7 ho
      have hst : done 10 = false := not_yet (k := 7) (by kernel_rfl) hcl hnd
      refine im_val (v := ptr w.heap.size) (w' := w.alloc (.cells z34 34)) hB ho hg hd hnd hS ⟨(loads8 (by decide) hL).1, (loads8 (by decide) hL).2.1, (loads8 (by decide) hL).2.2, hM.alloc 7 (by decide) (by decide) (by decide) hst⟩ ?_
      exact exec_allocT (a := ⟨t, []⟩) 34 z34 hop zero34 w _ rfl
    | 8, _, ho, hnd, hdep =>
      obtain ⟨hd, hop, hg⟩ := say_of s8_8 ho
      have hst : done 11 = false := not_yet (k := 8) (by kernel_rfl) hcl hnd
      refine im_val (v := ptr w.heap.size) (w' := w.alloc (.cells z34 34)) hB ho hg hd hnd hS ⟨(loads8 (by decide) hL).1, (loads8 (by decide) hL).2.1, (loads8 (by decide) hL).2.2, hM.alloc 8 (by decide) (by decide) (by decide) hst⟩ ?_
      exact exec_allocT (a := ⟨t, []⟩) 34 z34 hop zero34 w _ rfl
    | 9, _, ho, hnd, hdep =>
      obtain ⟨hd, hop, hg⟩ := say_of s8_9 ho
      have wa : done 6 = true := waits (j := 6) (by kernel_rfl) ho hdep
      have wc : done 1 = true := waits (j := 1) (by kernel_rfl) ho hdep
      have hx : t[2]?.getD undef = _ := hS.at d8_6 wa
      have hy : t[15]?.getD undef = _ := hS.at d8_1 wc
      obtain ⟨b, c, q1, q2, q3, q4, _⟩ := hM.2.2.2.1 6 (by decide) wa
      obtain ⟨vi, vl, r1, r2, r3, _⟩ := hM.2.2.1 1 (by decide) wc
      rw [q1] at hx
      rw [r1] at hy
      refine im_store (w' := w.setRow b (pCells (pl8 p 1) vi vl)) undef ho hg hd hnd hS ⟨(loads8 (by decide) hL).1, (loads8 (by decide) hL).2.1, (loads8 (by decide) hL).2.2, hM.store 6 (by decide) wa q1 r1 rfl undef (by decide) (by decide) (by decide) (by decide)⟩ ?_
      have hx' : t.getD 2 undef = ptr b := by rw [Array.getD_eq_getD_getElem?]; exact hx
      have hy' : t.getD 15 undef = .agg (pCells (pl8 p 1) vi vl) := by rw [Array.getD_eq_getD_getElem?]; exact hy
      exact exec_storeT (a := ⟨t, []⟩) 34 _ _ hop b _ c hx' hy' w q3 size34 q4 (pCells_one _ (owns_one r2) (owns_one r3))
    | 10, _, ho, hnd, hdep =>
      obtain ⟨hd, hop, hg⟩ := say_of s8_10 ho
      have wa : done 7 = true := waits (j := 7) (by kernel_rfl) ho hdep
      have wc : done 3 = true := waits (j := 3) (by kernel_rfl) ho hdep
      have hx : t[3]?.getD undef = _ := hS.at d8_7 wa
      have hy : t[17]?.getD undef = _ := hS.at d8_3 wc
      obtain ⟨b, c, q1, q2, q3, q4, _⟩ := hM.2.2.2.1 7 (by decide) wa
      obtain ⟨vi, vl, r1, r2, r3, _⟩ := hM.2.2.1 3 (by decide) wc
      rw [q1] at hx
      rw [r1] at hy
      refine im_store (w' := w.setRow b (pCells (pl8 p 3) vi vl)) undef ho hg hd hnd hS ⟨(loads8 (by decide) hL).1, (loads8 (by decide) hL).2.1, (loads8 (by decide) hL).2.2, hM.store 7 (by decide) wa q1 r1 rfl undef (by decide) (by decide) (by decide) (by decide)⟩ ?_
      have hx' : t.getD 3 undef = ptr b := by rw [Array.getD_eq_getD_getElem?]; exact hx
      have hy' : t.getD 17 undef = .agg (pCells (pl8 p 3) vi vl) := by rw [Array.getD_eq_getD_getElem?]; exact hy
      exact exec_storeT (a := ⟨t, []⟩) 34 _ _ hop b _ c hx' hy' w q3 size34 q4 (pCells_one _ (owns_one r2) (owns_one r3))
    | 11, _, ho, hnd, hdep =>
      obtain ⟨hd, hop, hg⟩ := say_of s8_11 ho
      have wa : done 8 = true := waits (j := 8) (by kernel_rfl) ho hdep
      have wc : done 5 = true := waits (j := 5) (by kernel_rfl) ho hdep
      have hx : t[4]?.getD undef = _ := hS.at d8_8 wa
      have hy : t[19]?.getD undef = _ := hS.at d8_5 wc
      obtain ⟨b, c, q1, q2, q3, q4, _⟩ := hM.2.2.2.1 8 (by decide) wa
      obtain ⟨vi, vl, r1, r2, r3, _⟩ := hM.2.2.1 5 (by decide) wc
      rw [q1] at hx
      rw [r1] at hy
      refine im_store (w' := w.setRow b (pCells (pl8 p 5) vi vl)) undef ho hg hd hnd hS ⟨(loads8 (by decide) hL).1, (loads8 (by decide) hL).2.1, (loads8 (by decide) hL).2.2, hM.store 8 (by decide) wa q1 r1 rfl undef (by decide) (by decide) (by decide) (by decide)⟩ ?_
      have hx' : t.getD 4 undef = ptr b := by rw [Array.getD_eq_getD_getElem?]; exact hx
      have hy' : t.getD 19 undef = .agg (pCells (pl8 p 5) vi vl) := by rw [Array.getD_eq_getD_getElem?]; exact hy
      exact exec_storeT (a := ⟨t, []⟩) 34 _ _ hop b _ c hx' hy' w q3 size34 q4 (pCells_one _ (owns_one r2) (owns_one r3))
theorem fold8 (V : Nat → Value) (t0 : Array Value) : fold (opsAt Try.f8 2) V t0 12 = (((((((((t0.setIfInBounds 14 (V 0)).setIfInBounds 15 (V 1)).setIfInBounds 16 (V 2)).setIfInBounds 17 (V 3)).setIfInBounds 18 (V 4)).setIfInBounds 19 (V 5)).setIfInBounds 2 (V 6)).setIfInBounds 3 (V 7)).setIfInBounds 4 (V 8)) := by kernel_rfl
end Go.Proofs.Ytpenaeoodfgmpaa
