/-
  THE BOOK: a new one.
-/
import Derived.Test.YtnhnggnldhmepaaGreatDoorBkOpen
namespace Go.Proofs.YtnhnggnldhmepaaGreatDoor
open Go.RowKit Bk

def bookObj : Obj := .cells #[Value.bool false, Value.bool false, Value.int .i64 0, Value.int .i64 0, Value.slice none 0 0, Value.slice none 0 0, Value.slice none 0 0, Value.slice none 0 0, Value.slice none 0 0, Value.slice none 0 0, Value.slice none 0 0, Value.slice none 0 0, Value.int .i64 0, Value.slice none 0 0, Value.slice none 0 0, Value.slice none 0 0, Value.slice none 0 0, Value.slice none 0 0, Value.slice none 0 0, Value.slice none 0 0, Value.slice none 0 0, Value.int .i64 0, Value.slice none 0 0, Value.slice none 0 0, Value.slice none 0 0, Value.slice none 0 0, Value.slice none 0 0, Value.slice none 0 0, Value.slice none 0 0, Value.slice none 0 0, Value.int .i64 0, Value.slice none 0 0, Value.slice none 0 0, Value.slice none 0 0, Value.slice none 0 0, Value.slice none 0 0, Value.slice none 0 0, Value.slice none 0 0, Value.slice none 0 0, Value.int .i64 0, Value.slice none 0 0, Value.slice none 0 0, Value.slice none 0 0, Value.slice none 0 0, Value.slice none 0 0, Value.slice none 0 0, Value.slice none 0 0, Value.slice none 0 0, Value.int .i64 0, Value.slice none 0 0, Value.slice none 0 0, Value.slice none 0 0, Value.slice none 0 0, Value.slice none 0 0, Value.slice none 0 0, Value.slice none 0 0, Value.slice none 0 0, Value.int .i64 0, Value.slice none 0 0, Value.slice none 0 0, Value.slice none 0 0, Value.slice none 0 0, Value.slice none 0 0, Value.slice none 0 0, Value.slice none 0 0, Value.slice none 0 0, Value.int .i64 0, Value.slice none 0 0, Value.slice none 0 0, Value.slice none 0 0, Value.slice none 0 0, Value.slice none 0 0, Value.slice none 0 0, Value.slice none 0 0, Value.slice none 0 0, Value.int .i64 0, Value.slice none 0 0, Value.slice none 0 0, Value.slice none 0 0, Value.slice none 0 0, Value.slice none 0 0, Value.slice none 0 0, Value.slice none 0 0, Value.slice none 0 0, Value.int .i64 0, Value.slice none 0 0, Value.slice none 0 0, Value.slice none 0 0, Value.slice none 0 0, Value.slice none 0 0, Value.slice none 0 0, Value.slice none 0 0, Value.slice none 0 0, Value.int .i64 0, Value.slice none 0 0, Value.slice none 0 0, Value.slice none 0 0, Value.slice none 0 0, Value.slice none 0 0, Value.slice none 0 0, Value.slice none 0 0, Value.slice none 0 0, Value.int .i64 0, Value.slice none 0 0, Value.slice none 0 0, Value.slice none 0 0, Value.slice none 0 0, Value.slice none 0 0, Value.slice none 0 0, Value.slice none 0 0, Value.slice none 0 0, Value.int .i64 0, Value.slice none 0 0, Value.slice none 0 0, Value.slice none 0 0, Value.slice none 0 0, Value.slice none 0 0, Value.slice none 0 0, Value.slice none 0 0, Value.slice none 0 0, Value.int .i64 0, Value.slice none 0 0, Value.slice none 0 0, Value.slice none 0 0, Value.slice none 0 0, Value.slice none 0 0, Value.slice none 0 0, Value.slice none 0 0, Value.slice none 0 0, Value.int .i64 0, Value.slice none 0 0, Value.slice none 0 0, Value.slice none 0 0, Value.slice none 0 0, Value.slice none 0 0, Value.slice none 0 0, Value.slice none 0 0, Value.slice none 0 0, Value.int .i64 0, Value.slice none 0 0, Value.slice none 0 0, Value.slice none 0 0, Value.slice none 0 0, Value.slice none 0 0, Value.slice none 0 0, Value.slice none 0 0, Value.slice none 0 0, Value.int .i64 0] 41

def bookCell (i : Nat) : Value := if 22 ≤ i ∧ i < 30 then .slice none 0 0 else zB 0 0 0 i
theorem bookObj_eq : bookObj = .cells ((List.range 148).map bookCell).toArray 41 := by kernel_rfl

theorem book_new (w : World) (lo : Nat) (hlo : lo ≤ w.heap.size) : BookOk (w.alloc bookObj) lo w.heap.size 0 (fun b => b = w.heap.size) := by
  have h : (w.alloc bookObj).heap[w.heap.size]? = some bookObj := heap_alloc_new w bookObj
  have hc : ∀ i, i < 148 → (w.alloc bookObj).cell? ⟨w.heap.size, i, none⟩ = some (bookCell i) := fun i hi => by
    rw [bookObj_eq] at h ⊢
    simp only [World.cell?, h]
    show ((List.range 148).map bookCell).toArray[i]? = _
    rw [List.getElem?_toArray, List.getElem?_map, List.getElem?_range hi]
    rfl
  have hz : ∀ j, j < 8 → [nil0, nil0, nil0, nil0, nil0, nil0, nil0, nil0].getD j nil0 = nil0 := fun j hj => by
    match j, hj with
    | 0, _ | 1, _ | 2, _ | 3, _ | 4, _ | 5, _ | 6, _ | 7, _ => rfl
  have hx : ∀ j, (XB [] [] []).getD j [] = [] := fun j => by
    match j with
    | 0 | 1 | 2 | 3 | 4 | 5 | 6 | 7 => rfl
    | n + 8 => rfl
  refine ⟨fun b => if b = w.heap.size then 1 else 0, [nil0, nil0, nil0, nil0, nil0, nil0, nil0, nil0], [], [], ⟨⟨hlo, by simp, fun b hb => by rw [if_neg (by omega)], by simp, fun o => ?_, rfl, rfl, fun j hj => ?_, fun j hj => ?_, fun j hj b he => ?_, fun o h1 h2 => ?_⟩, ⟨by simp, by simp, by simp, by simp, by simp, by simp, by simp, by simp⟩, by simp, by simp, by simp, by simp⟩, fun b => ?_, fun b hb => ?_⟩
  · simp only [World.frozen?, h]
    simp [bookObj]
  · rw [hz j hj, hc (22 + j) (by omega), bookCell, if_pos (by omega)]
  · rw [hz j hj, hx j]
    exact World.ownsRow_nil _ _ _ _
  · rw [hz j hj] at he
    simp [Value.ownBlock] at he
  · rw [hc o h1, bookCell, if_neg (by omega)]
  · by_cases e : b = w.heap.size <;> simp [e]
  · simp at hb
    show (if b = w.heap.size then 1 else 0) = 0
    rw [if_neg (by omega)]

/-- The Book's cells when it is new. -/
def bookCells : Array Value := ((List.range 148).map bookCell).toArray

theorem built41 : Tryz.prog.built 41 [] = some bookCells := by kernel_rfl

/-- '&twinekept.Book{}'. -/
theorem wpList_book {ops : Array Oper} {rest : List Oper} {o1 o2 : Oper} {a : Act} {w : World} {Q : Exit → Act → World → Prop} (h1 : o1.guard = none) (h2 : o2.guard = none) (ho1 : o1.op = .build 41 #[]) (x : Operand) (ho2 : o2.op = .box 41 x)
    (hx : (a.put o1.dst (.agg bookCells)).eval x = .agg bookCells)
    (h : wpList Tryz.prog ops Q rest ((a.put o1.dst (.agg bookCells)).put o2.dst (.pointer (some ⟨w.heap.size, 0, none⟩))) (w.alloc bookObj)) : wpList Tryz.prog ops Q (o1 :: o2 :: rest) a w := by
  have em : (Array.map (fun (p : Nat × Operand) => (p.1, a.eval p.2)) #[]).toList = [] := by simp
  refine wpList_build h1 41 #[] ho1 (by rw [em, built41]; simp only [Option.isSome_some]) ?_
  rw [em, built41, Option.getD_some]
  refine wpList_plain h2 fun K hK => ?_
  unfold Oper.wp execOp
  have ec : (Value.agg bookCells).cells = bookCells := rfl
  simp only [ho2, hx, Instr.box, newVar, Sem.run_bind, Sem.run_pure, ec]
  rw [bookObj_eq] at h
  have hr : (newRow 41 bookCells).run Tryz.prog w = .ok ⟨w.heap.size, 0, none⟩ (w.alloc (.cells bookCells 41)) := by simp [newRow]
  rw [hr]
  exact hK _ _ h

end Go.Proofs.YtnhnggnldhmepaaGreatDoor
