/-
  THE DOOR: note, and the closure that recovers: its region draws its order.
-/
import Derived.Test.YthpelabmfpogbaaGreatDoorRead
namespace Go.Proofs.YthpelabmfpogbaaGreatDoor
open Go.RowKit Wire

/-- A region that draws its order, in the calculus for 'recover'. -/
theorem wpS_region_draw {P : Program} {id : Nat} {ops : Array Oper} {Q : Exit → Act → List Frame → World → Prop} {a : Act} {cs : List Frame} {w : World}
    (h : ∀ t, wpOpsS P ops Q (Region.schedule (P.follows .mixedOrders) ops t) a cs { w with drawn := w.drawn + 1 }) : (Code.region id ops true).wpS P Q a cs w :=
  fun b k hb hr => let ⟨e, a', cs', w', q, r⟩ := wp_opsS _ a cs _ (h _) b k hb hr; ⟨e, a', cs', w', q, .of_steps (.one step_region_draw) r⟩

theorem heap_setCell_at {w : World} {R o : Nat} {c : Array Value} {T : TypeId} {f : Nat × Nat} (v : Value) (h : w.heap[R]? = some (.cells c T f)) : (w.setCell ⟨R, o, none⟩ v).heap[R]? = some (.cells (c.setIfInBounds o v) T f) := by
  simp [World.setCell, Array.getElem?_modify, h]

theorem grown_setCell (w : World) (R o : Nat) (v : Value) : w.grownBy (w.setCell ⟨R, o, none⟩ v) (some R) :=
  ⟨rfl, rfl, rfl, by simp [World.setCell], fun k _ hk => Below.heap_setCell w ⟨R, o, none⟩ v k (fun e => hk (by rw [e]))⟩

theorem grown_trans {w w1 w2 : World} {R : Option Nat} (h : w.grownBy w1 R) (k : w1.grownBy w2 R) : w.grownBy w2 R :=
  ⟨k.os.trans h.os, k.tape.trans h.tape, k.output.trans h.output, Nat.le_trans h.size k.size, fun i hi hne => (k.block i (Nat.lt_of_lt_of_le hi h.size) hne).trans (h.block i hi hne)⟩

theorem grown_drew {w w1 : World} {R : Option Nat} (h : w.grownBy w1 R) : w.grownBy w1.drew R := ⟨h.os, h.tape, h.output, h.size, h.block⟩

theorem grown_below {w w1 : World} (R : Option Nat) (h : Below w.heap.size w w1) : w.grownBy w1 R := ⟨h.os, h.tape, h.output, h.size, fun i hi _ => h.block i hi⟩

theorem assert50 (x : Value) (w : World) : (Instr.typeAssert (.iface 75 x) 20 75 true).run Tryz.prog w = .ok (.tuple #[x, .bool true]) w := by kernel_rfl

set_option maxHeartbeats 400000 in
theorem note_nil (R : Nat) (w : World) :
    Calls Tryz.prog 92 #[.pointer (some ⟨R, 0, none⟩), .nilIface] w fun x w' => x = .returned (.tuple #[]) ∧ w' = w := by
  go_enter Tryz.func92, Tryz.ntmps92
  go_wp2
  go_end0
  exact ⟨rfl, rfl⟩

set_option maxHeartbeats 400000 in
set_option maxRecDepth 100000 in
theorem note_flt (R : Nat) (p e : Int) (w : World) (c0 c1 c2 c3 c4 : Value) (h : w.heap[R]? = some (.cells #[c0, c1, c2, c3, c4] 77 (0, 0))) :
    Calls Tryz.prog 92 #[.pointer (some ⟨R, 0, none⟩), flt p e] w fun x w' => x = .returned (.tuple #[]) ∧ w'.heap[R]? = some (.cells #[c0, c1, .int .i64 p, .string ⟨#[]⟩, .int .i64 e] 77 (0, 0)) ∧ w.grownBy w' (some R) := by
  obtain ⟨h0, h1, h2, h3, h4, hf⟩ := cells_of h
  have hlt : R < w.heap.size := (Array.getElem?_eq_some_iff.1 h).1
  have H : Hid (w.heap[R]? = some (.cells #[c0, c1, c2, c3, c4] 77 (0, 0))) := h
  clear h
  unfold flt
  have hta := assert50
  go_enter Tryz.func92, Tryz.ntmps92
  go_wp2
  go_end0
  refine ⟨rfl, ?_, ?_⟩
  · rw [Below.heap_alloc _ _ _ (by simpa [World.setCell] using hlt)]
    have e1 := heap_setCell_at (o := 2) (.int .i64 p) H.out
    have e2 := heap_setCell_at (o := 3) (.string ⟨#[]⟩) e1
    have e3 := heap_setCell_at (o := 4) (.int .i64 e) e2
    rw [e3]
    rfl
  · exact grown_trans (grown_trans (grown_trans (grown_setCell _ _ _ _) (grown_setCell _ _ _ _)) (grown_setCell _ _ _ _)) (World.grownBy_alloc _ _ _)

/-- The closure's operations: 'r.note(recover())'. -/
def catchOps (pos : String) : Array Oper :=
  #[{ dst := some 1, op := Op.load 58 (Operand.tmp 0), type := 58, pos := pos, after := #[], guard := none },
    { dst := some 2, op := Op.call { callee := Callee.builtin Builtin.recover, args := #[], argTypes := #[] }, type := 20, pos := pos, after := #[], guard := none },
    { dst := some 3, op := Op.call { callee := Callee.value (Operand.func 92), args := #[Operand.tmp 1, Operand.tmp 2], argTypes := #[58, 20] }, type := 0, pos := pos,
      after := #[{ on := 0, ground := Ground.data }, { on := 1, ground := Ground.data }, { on := 1, ground := Ground.chain }], guard := none }]

theorem go_step (md : Region.Mode) (ops : Array Oper) (fuel t : Nat) (listed : Array Bool) (acc : List Nat) :
    Region.linearise.go md ops (fuel + 1) t listed acc = (match (Region.ready md ops listed)[t % (Region.ready md ops listed).length]? with
      | some i => Region.linearise.go md ops fuel (t / (Region.ready md ops listed).length) (listed.setIfInBounds i true) (i :: acc)
      | none => acc.reverse) := rfl

theorem sched_catch (pos : String) (t : Nat) : Region.schedule true (catchOps pos) t = [0, 1, 2] ∨ Region.schedule true (catchOps pos) t = [1, 0, 2] := by
  have r0 : Region.ready .any (catchOps pos) #[false, false, false] = [0, 1] := by simp [Region.ready, catchOps, List.range, List.range.loop, Region.binds]
  have r1 : Region.ready .any (catchOps pos) #[true, false, false] = [1] := by simp [Region.ready, catchOps, List.range, List.range.loop, Region.binds]
  have r2 : Region.ready .any (catchOps pos) #[false, true, false] = [0] := by simp [Region.ready, catchOps, List.range, List.range.loop, Region.binds]
  have r3 : Region.ready .any (catchOps pos) #[true, true, false] = [2] := by simp [Region.ready, catchOps, List.range, List.range.loop, Region.binds]
  have e : Region.schedule true (catchOps pos) t = Region.linearise.go .any (catchOps pos) 3 t #[false, false, false] [] := by rfl
  rw [e, go_step, r0]
  rcases Nat.mod_two_eq_zero_or_one t with h | h
  · left
    simp only [List.length_cons, List.length_nil, Nat.zero_add, Nat.reduceAdd, h, List.getElem?_cons_zero]
    rw [show (#[false, false, false] : Array Bool).setIfInBounds 0 true = #[true, false, false] from rfl, go_step, r1]
    simp only [List.length_cons, List.length_nil, Nat.zero_add, Nat.mod_one, List.getElem?_cons_zero]
    rw [show (#[true, false, false] : Array Bool).setIfInBounds 1 true = #[true, true, false] from rfl, go_step, r3]
    simp only [List.length_cons, List.length_nil, Nat.zero_add, Nat.mod_one, List.getElem?_cons_zero]
    rfl
  · right
    simp only [List.length_cons, List.length_nil, Nat.zero_add, Nat.reduceAdd, h, List.getElem?_cons_succ, List.getElem?_cons_zero]
    rw [show (#[false, false, false] : Array Bool).setIfInBounds 1 true = #[false, true, false] from rfl, go_step, r2]
    simp only [List.length_cons, List.length_nil, Nat.zero_add, Nat.mod_one, List.getElem?_cons_zero]
    rw [show (#[false, true, false] : Array Bool).setIfInBounds 0 true = #[true, true, false] from rfl, go_step, r3]
    simp only [List.length_cons, List.length_nil, Nat.zero_add, Nat.mod_one, List.getElem?_cons_zero]
    rfl

set_option maxHeartbeats 400000 in
set_option maxRecDepth 100000 in
theorem catch25_idle (P R : Nat) (w : World) (hc : w.cell? ⟨P, 0, none⟩ = some (.pointer (some ⟨R, 0, none⟩))) :
    CallsD Tryz.prog 94 #[.pointer (some ⟨P, 0, none⟩)] .returning w fun e u' w' => e = .returned (.tuple #[]) ∧ u' = .returning ∧ w' = w.drew := by
  refine callsD_of_wpS Tryz.func94 rfl fun c₀ cs hu => ?_
  refine wpS_region_draw (ops := catchOps "reader.go:39") fun t => ?_
  rw [Tryz.mixed]
  rcases sched_catch "reader.go:39" t with h | h
  all_goals
    rw [h]
    simp [catchOps, wpOpsS, go_sem, recoverD, hu, Tryz.ntmps94, hc]
    refine (note_nil R _).mono ?_
    rintro e w1 ⟨rfl, rfl⟩
    exact ⟨rfl, _, by cases c₀; simp_all, _, by simp [results, Tryz.f94, go_sem], rfl, rfl, rfl⟩

set_option maxHeartbeats 400000 in
set_option maxRecDepth 100000 in
theorem catch25_flt (P R : Nat) (w : World) (p x : Int) (older : List PanicEntry) (c0 c1 c2 c3 c4 : Value) (hc : w.cell? ⟨P, 0, none⟩ = some (.pointer (some ⟨R, 0, none⟩))) (hr : w.heap[R]? = some (.cells #[c0, c1, c2, c3, c4] 77 (0, 0))) :
    CallsD Tryz.prog 94 #[.pointer (some ⟨P, 0, none⟩)] (.panicking ({ v := flt p x, recovered := false } :: older)) w fun e u' w' =>
      e = .returned (.tuple #[]) ∧ u' = .panicking ({ v := flt p x, recovered := true } :: older) ∧ w'.heap[R]? = some (.cells #[c0, c1, .int .i64 p, .string ⟨#[]⟩, .int .i64 x] 77 (0, 0)) ∧ w.grownBy w' (some R) := by
  refine callsD_of_wpS Tryz.func94 rfl fun c₀ cs hu => ?_
  refine wpS_region_draw (ops := catchOps "reader.go:39") fun t => ?_
  rw [Tryz.mixed]
  rcases sched_catch "reader.go:39" t with h | h
  all_goals
    rw [h]
    simp [catchOps, wpOpsS, go_sem, recoverD, hu, Tryz.ntmps94, hc]
    refine (note_flt R p x w.drew c0 c1 c2 c3 c4 hr).mono ?_
    rintro e w1 ⟨rfl, hr1, hg1⟩
    exact ⟨rfl, _, by cases c₀; simp_all, _, by simp [results, Tryz.f94, go_sem], rfl, rfl, hr1, ⟨hg1.os, hg1.tape, hg1.output, hg1.size, hg1.block⟩⟩

set_option maxHeartbeats 400000 in
set_option maxRecDepth 100000 in
theorem catch30_idle (P R : Nat) (w : World) (hc : w.cell? ⟨P, 0, none⟩ = some (.pointer (some ⟨R, 0, none⟩))) :
    CallsD Tryz.prog 99 #[.pointer (some ⟨P, 0, none⟩)] .returning w fun e u' w' => e = .returned (.tuple #[]) ∧ u' = .returning ∧ w' = w.drew := by
  refine callsD_of_wpS Tryz.func99 rfl fun c₀ cs hu => ?_
  refine wpS_region_draw (ops := catchOps "reader.go:53") fun t => ?_
  rw [Tryz.mixed]
  rcases sched_catch "reader.go:53" t with h | h
  all_goals
    rw [h]
    simp [catchOps, wpOpsS, go_sem, recoverD, hu, Tryz.ntmps99, hc]
    refine (note_nil R _).mono ?_
    rintro e w1 ⟨rfl, rfl⟩
    exact ⟨rfl, _, by cases c₀; simp_all, _, by simp [results, Tryz.f99, go_sem], rfl, rfl, rfl⟩

set_option maxHeartbeats 400000 in
set_option maxRecDepth 100000 in
theorem catch30_flt (P R : Nat) (w : World) (p x : Int) (older : List PanicEntry) (c0 c1 c2 c3 c4 : Value) (hc : w.cell? ⟨P, 0, none⟩ = some (.pointer (some ⟨R, 0, none⟩))) (hr : w.heap[R]? = some (.cells #[c0, c1, c2, c3, c4] 77 (0, 0))) :
    CallsD Tryz.prog 99 #[.pointer (some ⟨P, 0, none⟩)] (.panicking ({ v := flt p x, recovered := false } :: older)) w fun e u' w' =>
      e = .returned (.tuple #[]) ∧ u' = .panicking ({ v := flt p x, recovered := true } :: older) ∧ w'.heap[R]? = some (.cells #[c0, c1, .int .i64 p, .string ⟨#[]⟩, .int .i64 x] 77 (0, 0)) ∧ w.grownBy w' (some R) := by
  refine callsD_of_wpS Tryz.func99 rfl fun c₀ cs hu => ?_
  refine wpS_region_draw (ops := catchOps "reader.go:53") fun t => ?_
  rw [Tryz.mixed]
  rcases sched_catch "reader.go:53" t with h | h
  all_goals
    rw [h]
    simp [catchOps, wpOpsS, go_sem, recoverD, hu, Tryz.ntmps99, hc]
    refine (note_flt R p x w.drew c0 c1 c2 c3 c4 hr).mono ?_
    rintro e w1 ⟨rfl, hr1, hg1⟩
    exact ⟨rfl, _, by cases c₀; simp_all, _, by simp [results, Tryz.f99, go_sem], rfl, rfl, hr1, ⟨hg1.os, hg1.tape, hg1.output, hg1.size, hg1.block⟩⟩

set_option maxHeartbeats 400000 in
set_option maxRecDepth 100000 in
theorem catch33_idle (P R : Nat) (w : World) (hc : w.cell? ⟨P, 0, none⟩ = some (.pointer (some ⟨R, 0, none⟩))) :
    CallsD Tryz.prog 91 #[.pointer (some ⟨P, 0, none⟩)] .returning w fun e u' w' => e = .returned (.tuple #[]) ∧ u' = .returning ∧ w' = w.drew := by
  refine callsD_of_wpS Tryz.func91 rfl fun c₀ cs hu => ?_
  refine wpS_region_draw (ops := catchOps "reader.go:28") fun t => ?_
  rw [Tryz.mixed]
  rcases sched_catch "reader.go:28" t with h | h
  all_goals
    rw [h]
    simp [catchOps, wpOpsS, go_sem, recoverD, hu, Tryz.ntmps91, hc]
    refine (note_nil R _).mono ?_
    rintro e w1 ⟨rfl, rfl⟩
    exact ⟨rfl, _, by cases c₀; simp_all, _, by simp [results, Tryz.f91, go_sem], rfl, rfl, rfl⟩

set_option maxHeartbeats 400000 in
set_option maxRecDepth 100000 in
theorem catch33_flt (P R : Nat) (w : World) (p x : Int) (older : List PanicEntry) (c0 c1 c2 c3 c4 : Value) (hc : w.cell? ⟨P, 0, none⟩ = some (.pointer (some ⟨R, 0, none⟩))) (hr : w.heap[R]? = some (.cells #[c0, c1, c2, c3, c4] 77 (0, 0))) :
    CallsD Tryz.prog 91 #[.pointer (some ⟨P, 0, none⟩)] (.panicking ({ v := flt p x, recovered := false } :: older)) w fun e u' w' =>
      e = .returned (.tuple #[]) ∧ u' = .panicking ({ v := flt p x, recovered := true } :: older) ∧ w'.heap[R]? = some (.cells #[c0, c1, .int .i64 p, .string ⟨#[]⟩, .int .i64 x] 77 (0, 0)) ∧ w.grownBy w' (some R) := by
  refine callsD_of_wpS Tryz.func91 rfl fun c₀ cs hu => ?_
  refine wpS_region_draw (ops := catchOps "reader.go:28") fun t => ?_
  rw [Tryz.mixed]
  rcases sched_catch "reader.go:28" t with h | h
  all_goals
    rw [h]
    simp [catchOps, wpOpsS, go_sem, recoverD, hu, Tryz.ntmps91, hc]
    refine (note_flt R p x w.drew c0 c1 c2 c3 c4 hr).mono ?_
    rintro e w1 ⟨rfl, hr1, hg1⟩
    exact ⟨rfl, _, by cases c₀; simp_all, _, by simp [results, Tryz.f91, go_sem], rfl, rfl, hr1, ⟨hg1.os, hg1.tape, hg1.output, hg1.size, hg1.block⟩⟩

set_option maxHeartbeats 400000 in
set_option maxRecDepth 100000 in
theorem catch41_idle (P R : Nat) (w : World) (hc : w.cell? ⟨P, 0, none⟩ = some (.pointer (some ⟨R, 0, none⟩))) :
    CallsD Tryz.prog 102 #[.pointer (some ⟨P, 0, none⟩)] .returning w fun e u' w' => e = .returned (.tuple #[]) ∧ u' = .returning ∧ w' = w.drew := by
  refine callsD_of_wpS Tryz.func102 rfl fun c₀ cs hu => ?_
  refine wpS_region_draw (ops := catchOps "reader.go:79") fun t => ?_
  rw [Tryz.mixed]
  rcases sched_catch "reader.go:79" t with h | h
  all_goals
    rw [h]
    simp [catchOps, wpOpsS, go_sem, recoverD, hu, Tryz.ntmps102, hc]
    refine (note_nil R _).mono ?_
    rintro e w1 ⟨rfl, rfl⟩
    exact ⟨rfl, _, by cases c₀; simp_all, _, by simp [results, Tryz.f102, go_sem], rfl, rfl, rfl⟩

set_option maxHeartbeats 400000 in
set_option maxRecDepth 100000 in
theorem catch41_flt (P R : Nat) (w : World) (p x : Int) (older : List PanicEntry) (c0 c1 c2 c3 c4 : Value) (hc : w.cell? ⟨P, 0, none⟩ = some (.pointer (some ⟨R, 0, none⟩))) (hr : w.heap[R]? = some (.cells #[c0, c1, c2, c3, c4] 77 (0, 0))) :
    CallsD Tryz.prog 102 #[.pointer (some ⟨P, 0, none⟩)] (.panicking ({ v := flt p x, recovered := false } :: older)) w fun e u' w' =>
      e = .returned (.tuple #[]) ∧ u' = .panicking ({ v := flt p x, recovered := true } :: older) ∧ w'.heap[R]? = some (.cells #[c0, c1, .int .i64 p, .string ⟨#[]⟩, .int .i64 x] 77 (0, 0)) ∧ w.grownBy w' (some R) := by
  refine callsD_of_wpS Tryz.func102 rfl fun c₀ cs hu => ?_
  refine wpS_region_draw (ops := catchOps "reader.go:79") fun t => ?_
  rw [Tryz.mixed]
  rcases sched_catch "reader.go:79" t with h | h
  all_goals
    rw [h]
    simp [catchOps, wpOpsS, go_sem, recoverD, hu, Tryz.ntmps102, hc]
    refine (note_flt R p x w.drew c0 c1 c2 c3 c4 hr).mono ?_
    rintro e w1 ⟨rfl, hr1, hg1⟩
    exact ⟨rfl, _, by cases c₀; simp_all, _, by simp [results, Tryz.f102, go_sem], rfl, rfl, hr1, ⟨hg1.os, hg1.tape, hg1.output, hg1.size, hg1.block⟩⟩

set_option maxHeartbeats 400000 in
set_option maxRecDepth 100000 in
theorem catch43_idle (P R : Nat) (w : World) (hc : w.cell? ⟨P, 0, none⟩ = some (.pointer (some ⟨R, 0, none⟩))) :
    CallsD Tryz.prog 101 #[.pointer (some ⟨P, 0, none⟩)] .returning w fun e u' w' => e = .returned (.tuple #[]) ∧ u' = .returning ∧ w' = w.drew := by
  refine callsD_of_wpS Tryz.func101 rfl fun c₀ cs hu => ?_
  refine wpS_region_draw (ops := catchOps "reader.go:68") fun t => ?_
  rw [Tryz.mixed]
  rcases sched_catch "reader.go:68" t with h | h
  all_goals
    rw [h]
    simp [catchOps, wpOpsS, go_sem, recoverD, hu, Tryz.ntmps101, hc]
    refine (note_nil R _).mono ?_
    rintro e w1 ⟨rfl, rfl⟩
    exact ⟨rfl, _, by cases c₀; simp_all, _, by simp [results, Tryz.f101, go_sem], rfl, rfl, rfl⟩

set_option maxHeartbeats 400000 in
set_option maxRecDepth 100000 in
theorem catch43_flt (P R : Nat) (w : World) (p x : Int) (older : List PanicEntry) (c0 c1 c2 c3 c4 : Value) (hc : w.cell? ⟨P, 0, none⟩ = some (.pointer (some ⟨R, 0, none⟩))) (hr : w.heap[R]? = some (.cells #[c0, c1, c2, c3, c4] 77 (0, 0))) :
    CallsD Tryz.prog 101 #[.pointer (some ⟨P, 0, none⟩)] (.panicking ({ v := flt p x, recovered := false } :: older)) w fun e u' w' =>
      e = .returned (.tuple #[]) ∧ u' = .panicking ({ v := flt p x, recovered := true } :: older) ∧ w'.heap[R]? = some (.cells #[c0, c1, .int .i64 p, .string ⟨#[]⟩, .int .i64 x] 77 (0, 0)) ∧ w.grownBy w' (some R) := by
  refine callsD_of_wpS Tryz.func101 rfl fun c₀ cs hu => ?_
  refine wpS_region_draw (ops := catchOps "reader.go:68") fun t => ?_
  rw [Tryz.mixed]
  rcases sched_catch "reader.go:68" t with h | h
  all_goals
    rw [h]
    simp [catchOps, wpOpsS, go_sem, recoverD, hu, Tryz.ntmps101, hc]
    refine (note_flt R p x w.drew c0 c1 c2 c3 c4 hr).mono ?_
    rintro e w1 ⟨rfl, hr1, hg1⟩
    exact ⟨rfl, _, by cases c₀; simp_all, _, by simp [results, Tryz.f101, go_sem], rfl, rfl, hr1, ⟨hg1.os, hg1.tape, hg1.output, hg1.size, hg1.block⟩⟩
end Go.Proofs.YthpelabmfpogbaaGreatDoor
