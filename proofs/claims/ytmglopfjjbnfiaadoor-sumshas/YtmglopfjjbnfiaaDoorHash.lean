/-
  sum.New, NewPieces; what a hash's block holds.
-/
import Derived.Test.YtmglopfjjbnfiaaDoorMix
import Derived.Test.YtmglopfjjbnfiaaDoorBytesOf
namespace Go.Proofs.YtmglopfjjbnfiaaDoor
open Go.RowKit

/-- A hash's cells. -/
def hcells (v : Sha.V) (rest : List Nat) (n : Nat) : Array Value := ((vlist v).map vw ++ (rest.map vb ++ [Value.int .i64 (n : Int)])).toArray

/-- Block K holds a hash to which l was added. -/
def HashAt (w : World) (K : Nat) (T : TypeId) (l : List Nat) : Prop :=
  ∃ v rest, w.heap[K]? = some (.cells (hcells v rest l.length) T (0, 0)) ∧ Sha.Inv Sha.mix l rest v ∧ vok v ∧ Bytes rest

theorem HashAt.block {w w' : World} {K : Nat} {T : TypeId} {l : List Nat} (h : HashAt w K T l) (hb : w'.heap[K]? = w.heap[K]?) : HashAt w' K T l := by
  obtain ⟨v, rest, hg, r⟩ := h
  exact ⟨v, rest, hb.trans hg, r⟩
theorem HashAt.lt {w : World} {K : Nat} {T : TypeId} {l : List Nat} (h : HashAt w K T l) : K < w.heap.size := by
  obtain ⟨v, rest, hg, r⟩ := h
  exact (Array.getElem?_eq_some_iff.1 hg).1
theorem HashAt.below {w w' : World} {K B : Nat} {T : TypeId} {l : List Nat} (h : HashAt w K T l) (hb : Below B w w') (hK : K < B) : HashAt w' K T l := h.block (hb.block K hK)

def hnew : Array Value := hcells Sha.first (List.replicate 64 0) 0
theorem hnew_size : hnew.size = 73 := by decide +kernel
set_option maxRecDepth 100000 in
theorem hash_new (w : World) (T : TypeId) : HashAt (w.alloc (.cells hnew T)) w.heap.size T [] :=
  ⟨Sha.first, List.replicate 64 0, heap_alloc_new _ _, Sha.inv_nil _ (List.length_replicate), by unfold vok Sha.first; decide, fun x hx => by rw [(List.mem_replicate.1 hx).2]; decide⟩

theorem built98 : Tryd.prog.built 98 [(0, .agg #[vw 1779033703, vw 3144134277, vw 1013904242, vw 2773480762, vw 1359893119, vw 2600822924, vw 528734635, vw 1541459225])] = some hnew := by kernel_rfl
theorem built100 : Tryd.prog.built 100 [(0, .agg hnew)] = some hnew := by kernel_rfl

theorem addr_add (g off j : Nat) : (⟨g, off, none⟩ : Addr).add j = ⟨g, off + j, none⟩ := by unfold Addr.add; split <;> simp_all

/-- A part of a row, loaded as a value. -/
theorem wpList_load_seg {ops : Array Oper} {rest : List Oper} {o : Oper} {a : Act} {w : World} {Q : Exit → Act → World → Prop} (hgd : o.guard = none) (ty : TypeId) (x : Operand) (ho : o.op = .load ty x)
    (g off : Nat) (hx : a.eval x = .pointer (some ⟨g, off, none⟩)) (cs : List Value) (d : TypeDesc) (hc : ∀ j v, cs[j]? = some v → w.cell? ⟨g, off + j, none⟩ = some v)
    (hu : Tryd.prog.underlying ty = some d) (hd : (match d with | .struct _ | .array _ _ => true | _ => false) = true) (hi : (Tryd.prog.info? ty).map (·.size) = some cs.length)
    (h : wpList Tryd.prog ops Q rest (a.put o.dst (.agg cs.toArray)) w) : wpList Tryd.prog ops Q (o :: rest) a w := by
  refine wpList_plain hgd fun K hK => ?_
  have hl := run_loadCells_list (P := Tryd.prog) w ⟨g, off, none⟩ cs (fun j v hv => by
    rw [addr_add]; exact hc j v hv)
  have hrun : (loadVar ty ⟨g, off, none⟩).run Tryd.prog w = .ok (.agg cs.toArray) w := by
    cases hq : Tryd.prog.info? ty with
    | none => simp [hq] at hi
    | some i =>
      have hs : i.size = cs.length := by simpa [hq] using hi
      have hagg : (isAgg ty).run Tryd.prog w = .ok true w := by
        unfold isAgg
        rw [Sem.run_bind, run_underlying hu w]
        cases d <;> simp_all
      simp [loadVar, Sem.run_bind, hagg, sizeOf, typeInfo, hq, hs, hl]
  unfold Oper.wp execOp
  simp only [ho, hx, Instr.loadAt, Instr.sureAddr, Sem.run_bind, Sem.run_pure, Result.andThen_ok, hrun]
  exact hK _ _ h

theorem wpList_build1 {ops : Array Oper} {rest : List Oper} {o : Oper} {a : Act} {w : World} {Q : Exit → Act → World → Prop} (hg : o.guard = none) (t : TypeId) (x : Operand) (ho : o.op = .build t #[(0, x)])
    (v : Value) (cells : Array Value) (hx : a.eval x = v) (hb : Tryd.prog.built t [(0, v)] = some cells)
    (h : wpList Tryd.prog ops Q rest (a.put o.dst (.agg cells)) w) : wpList Tryd.prog ops Q (o :: rest) a w := by
  have hb' : Tryd.prog.built t ((#[(0, x)] : Array (Nat × Operand)).map fun (i, x) => (i, a.eval x)).toList = some cells := by
    have e : ((#[(0, x)] : Array (Nat × Operand)).map fun (i, x) => (i, a.eval x)).toList = [(0, v)] := by simp [hx]
    rw [e]; exact hb
  refine wpList_build hg t #[(0, x)] ho (by rw [hb']; rfl) ?_
  rw [hb']; exact h

set_option maxHeartbeats 1000000 in
set_option maxRecDepth 100000 in
theorem new_any (w : World) (hT : Tabs w) :
    Calls Tryd.prog 26 #[] w fun e w' => e = .returned (.pointer (some ⟨w.heap.size, 0, none⟩)) ∧ w' = w.alloc (.cells hnew 98) := by
  obtain ⟨cs, hcs⟩ : ∃ cs : List Value, cs = [vw 1779033703, vw 3144134277, vw 1013904242, vw 2773480762, vw 1359893119, vw 2600822924, vw 528734635, vw 1541459225] := ⟨_, rfl⟩
  have HC : Hid (∀ j v, cs[j]? = some v → w.cell? ⟨1, 0 + j, none⟩ = some v) := by
    rw [hcs]
    intro j v hv
    have hj : j < 8 := by have := (List.getElem?_eq_some_iff.1 hv).1; simpa using this
    rw [Nat.zero_add, hT.first j hj, ← hv]
    have h : ∀ j, j < 8 → ([vw 1779033703, vw 3144134277, vw 1013904242, vw 2773480762, vw 1359893119, vw 2600822924, vw 528734635, vw 1541459225][j]? : Option Value) = some (vw ([1779033703, 3144134277, 1013904242, 2773480762, 1359893119, 2600822924, 528734635, 1541459225].getD j 0)) := by
      intro j hj
      match j, hj with
      | 0, _ | 1, _ | 2, _ | 3, _ | 4, _ | 5, _ | 6, _ | 7, _ => rfl
    exact (h j hj).symm
  have HL : Hid ((Tryd.prog.info? 94).map (·.size) = some cs.length) := by show _ = _; rw [hcs]; kernel_rfl
  have HB : Hid (Tryd.prog.built 98 [(0, .agg cs.toArray)] = some hnew) := by show _ = _; rw [hcs]; exact built98
  clear hT hcs
  go_enter Tryd.func26, Tryd.ntmps26
  go_wp2_with (first | refine wpList_load_seg rfl 94 (.global 1) rfl 1 0 rfl cs (.array 8 49) HC.out Tryd.underlying94 rfl HL.out ?_ | refine wpList_build1 rfl 98 (.tmp 1) rfl (.agg cs.toArray) hnew rfl HB.out ?_)
  go_ret
  exact ⟨rfl, rfl⟩

set_option maxHeartbeats 1000000 in
set_option maxRecDepth 100000 in
theorem newPieces_any (w : World) (hT : Tabs w) :
    Calls Tryd.prog 27 #[] w fun e w' => e = .returned (.pointer (some ⟨w.heap.size + 1, 0, none⟩)) ∧ w' = (w.alloc (.cells hnew 98)).alloc (.cells hnew 100) := by
  have C := new_any w hT
  have HL : Hid ((Tryd.prog.info? 98).map (·.size) = some hnew.size) := by show _ = _; rw [hnew_size]; kernel_rfl
  obtain ⟨c, hc⟩ : ∃ c, c = hnew := ⟨_, rfl⟩
  have HB : Hid (Tryd.prog.built 100 [(0, .agg c)] = some c) := by show _ = _; rw [hc]; exact built100
  rw [← hc] at C HL
  rw [← hc]
  clear hT hc
  go_enter Tryd.func27, Tryd.ntmps27
  go_wp2_with (first | (go_at_call 26; refine C.mono ?_; rintro e w1 ⟨rfl, rfl⟩) | refine wpList_load_row rfl 98 (.tmp 2) rfl w.heap.size rfl 98 c (0, 0) (.struct (Tryd.prog.fieldsOf 98)) (heap_alloc_new _ _) (by kernel_rfl) rfl HL.out ?_ | refine wpList_build1 rfl 100 (.tmp 3) rfl (.agg c) c rfl HB.out ?_)
  go_ret
  exact ⟨rfl, rfl⟩
end Go.Proofs.YtmglopfjjbnfiaaDoor
