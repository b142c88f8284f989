/-
  WirePuts: the new Room, the new Book; the Room beside the Book.
-/
import Derived.Test.YthpelabmfpogbaaGreatDoorBkOpen
namespace Go.Proofs.YthpelabmfpogbaaGreatDoor
open Go.RowKit Wire Bk

def roomObj : Obj := .cells #[Value.slice none 0 0, Value.slice none 0 0, Value.slice none 0 0, Value.slice none 0 0, Value.slice none 0 0, Value.slice none 0 0, Value.slice none 0 0, Value.slice none 0 0, Value.slice none 0 0, Value.slice none 0 0, Value.slice none 0 0, Value.slice none 0 0, Value.slice none 0 0, Value.slice none 0 0, Value.slice none 0 0, Value.slice none 0 0, Value.slice none 0 0, Value.slice none 0 0, Value.slice none 0 0, Value.slice none 0 0, Value.slice none 0 0, Value.slice none 0 0, Value.slice none 0 0, Value.slice none 0 0, Value.slice none 0 0, Value.slice none 0 0] 40
def bookObj : Obj := .cells #[Value.bool false, Value.bool false, Value.int .i64 0, Value.int .i64 0, Value.slice none 0 0, Value.slice none 0 0, Value.slice none 0 0, Value.slice none 0 0, Value.slice none 0 0, Value.slice none 0 0, Value.slice none 0 0, Value.slice none 0 0, Value.int .i64 0, Value.slice none 0 0, Value.slice none 0 0, Value.slice none 0 0, Value.slice none 0 0, Value.slice none 0 0, Value.slice none 0 0, Value.slice none 0 0, Value.slice none 0 0, Value.int .i64 0, Value.slice none 0 0, Value.slice none 0 0, Value.slice none 0 0, Value.slice none 0 0, Value.slice none 0 0, Value.slice none 0 0, Value.slice none 0 0, Value.slice none 0 0, Value.int .i64 0, Value.slice none 0 0, Value.slice none 0 0, Value.slice none 0 0, Value.slice none 0 0, Value.slice none 0 0, Value.slice none 0 0, Value.slice none 0 0, Value.slice none 0 0, Value.int .i64 0, Value.slice none 0 0, Value.slice none 0 0, Value.slice none 0 0, Value.slice none 0 0, Value.slice none 0 0, Value.slice none 0 0, Value.slice none 0 0, Value.slice none 0 0, Value.int .i64 0, Value.slice none 0 0, Value.slice none 0 0, Value.slice none 0 0, Value.slice none 0 0, Value.slice none 0 0, Value.slice none 0 0, Value.slice none 0 0, Value.slice none 0 0, Value.int .i64 0, Value.slice none 0 0, Value.slice none 0 0, Value.slice none 0 0, Value.slice none 0 0, Value.slice none 0 0, Value.slice none 0 0, Value.slice none 0 0, Value.slice none 0 0, Value.int .i64 0, Value.slice none 0 0, Value.slice none 0 0, Value.slice none 0 0, Value.slice none 0 0, Value.slice none 0 0, Value.slice none 0 0, Value.slice none 0 0, Value.slice none 0 0, Value.int .i64 0, Value.slice none 0 0, Value.slice none 0 0, Value.slice none 0 0, Value.slice none 0 0, Value.slice none 0 0, Value.slice none 0 0, Value.slice none 0 0, Value.slice none 0 0, Value.int .i64 0, Value.slice none 0 0, Value.slice none 0 0, Value.slice none 0 0, Value.slice none 0 0, Value.slice none 0 0, Value.slice none 0 0, Value.slice none 0 0, Value.slice none 0 0, Value.int .i64 0, Value.slice none 0 0, Value.slice none 0 0, Value.slice none 0 0, Value.slice none 0 0, Value.slice none 0 0, Value.slice none 0 0, Value.slice none 0 0, Value.slice none 0 0, Value.int .i64 0, Value.slice none 0 0, Value.slice none 0 0, Value.slice none 0 0, Value.slice none 0 0, Value.slice none 0 0, Value.slice none 0 0, Value.slice none 0 0, Value.slice none 0 0, Value.int .i64 0, Value.slice none 0 0, Value.slice none 0 0, Value.slice none 0 0, Value.slice none 0 0, Value.slice none 0 0, Value.slice none 0 0, Value.slice none 0 0, Value.slice none 0 0, Value.int .i64 0, Value.slice none 0 0, Value.slice none 0 0, Value.slice none 0 0, Value.slice none 0 0, Value.slice none 0 0, Value.slice none 0 0, Value.slice none 0 0, Value.slice none 0 0, Value.int .i64 0, Value.slice none 0 0, Value.slice none 0 0, Value.slice none 0 0, Value.slice none 0 0, Value.slice none 0 0, Value.slice none 0 0, Value.slice none 0 0, Value.slice none 0 0, Value.int .i64 0, Value.slice none 0 0, Value.slice none 0 0, Value.slice none 0 0, Value.slice none 0 0, Value.slice none 0 0, Value.slice none 0 0, Value.slice none 0 0, Value.slice none 0 0, Value.int .i64 0] 46

def bookCell (i : Nat) : Value := if 4 ≤ i ∧ i < 12 then .slice none 0 0 else zB 0 0 0 i
theorem bookObj_eq : bookObj = .cells ((List.range 148).map bookCell).toArray 46 := by kernel_rfl

theorem room_new (w : World) (lo : Nat) (hlo : lo ≤ w.heap.size) : RoomAt (w.alloc roomObj) lo w.heap.size [] (.slice none 0 0) (.slice none 0 0) := by
  have h : (w.alloc roomObj).heap[w.heap.size]? = some roomObj := heap_alloc_new w roomObj
  have e : roomObj = .cells (List.replicate 26 (Value.slice none 0 0)).toArray 40 := rfl
  have hc : ∀ i, i < 26 → (w.alloc roomObj).cell? ⟨w.heap.size, i, none⟩ = some (.slice none 0 0) := fun i hi => by
    rw [e] at h ⊢
    simp only [World.cell?, h]
    show (List.replicate 26 (Value.slice none 0 0)).toArray[i]? = _
    rw [List.getElem?_toArray, List.getElem?_replicate, if_pos hi]
  refine ⟨hlo, by simp, fun o => ?_, fun i _ h26 => hc i h26, hc 0 (by decide), hc 1 (by decide), World.ownsRow_nil _ _ _ _, World.ownsRow_nil _ _ _ _, by simp [Value.ownBlock], by simp [Value.ownBlock], by simp [Value.ownBlock], by simp⟩
  simp only [World.frozen?, h]
  simp [roomObj]

theorem book_new (w : World) (lo : Nat) (hlo : lo ≤ w.heap.size) : BookOk (w.alloc bookObj) lo w.heap.size 0 (fun b => b = w.heap.size) := by
  have h : (w.alloc bookObj).heap[w.heap.size]? = some bookObj := heap_alloc_new w bookObj
  have hc : ∀ i, i < 148 → (w.alloc bookObj).cell? ⟨w.heap.size, i, none⟩ = some (bookCell i) := fun i hi => by
    rw [bookObj_eq] at h ⊢
    simp only [World.cell?, h]
    show ((List.range 148).map bookCell).toArray[i]? = _
    rw [List.getElem?_toArray, List.getElem?_map, List.getElem?_range hi]
    rfl
  have hz : ∀ j, j < 8 → [nil0, nil0, nil0, nil0, nil0, nil0, nil0, nil0].getD j nil0 = nil0 := fun j hj => by
    match j, hj with
    | 0, _ | 1, _ | 2, _ | 3, _ | 4, _ | 5, _ | 6, _ | 7, _ => rfl
  have hx : ∀ j, (XB [] [] []).getD j [] = [] := fun j => by
    match j with
    | 0 | 1 | 2 | 3 | 4 | 5 | 6 | 7 => rfl
    | n + 8 => rfl
  refine ⟨fun b => if b = w.heap.size then 1 else 0, [nil0, nil0, nil0, nil0, nil0, nil0, nil0, nil0], [], [], ⟨⟨hlo, by simp, fun b hb => by rw [if_neg (by omega)], by simp, fun o => ?_, rfl, rfl, fun j hj => ?_, fun j hj => ?_, fun j hj b he => ?_, fun o h1 h2 => ?_⟩, ⟨by simp, by simp, by simp, by simp, by simp, by simp, by simp, by simp⟩, by simp, by simp, by simp, by simp⟩, fun b => ?_, fun b hb => ?_⟩
  · simp only [World.frozen?, h]
    simp [bookObj]
  · rw [hz j hj, hc (4 + j) (by omega), bookCell, if_pos (by omega)]
  · rw [hz j hj, hx j]
    exact World.ownsRow_nil _ _ _ _
  · rw [hz j hj] at he
    simp [Value.ownBlock] at he
  · rw [hc o h1, bookCell, if_neg (by omega)]
  · by_cases e : b = w.heap.size <;> simp [e]
  · simp at hb
    show (if b = w.heap.size then 1 else 0) = 0
    rw [if_neg (by omega)]

/-- The Book's cells when it is new. -/
def bookCells : Array Value := ((List.range 148).map bookCell).toArray

theorem built46 : Tryz.prog.built 46 [] = some bookCells := by kernel_rfl

/-- '&twinekept.Book{}'. -/
theorem wpList_book {ops : Array Oper} {rest : List Oper} {o1 o2 : Oper} {a : Act} {w : World} {Q : Exit → Act → World → Prop} (h1 : o1.guard = none) (h2 : o2.guard = none) (ho1 : o1.op = .build 46 #[]) (x : Operand) (ho2 : o2.op = .box 46 x)
    (hx : (a.put o1.dst (.agg bookCells)).eval x = .agg bookCells)
    (h : wpList Tryz.prog ops Q rest ((a.put o1.dst (.agg bookCells)).put o2.dst (.pointer (some ⟨w.heap.size, 0, none⟩))) (w.alloc bookObj)) : wpList Tryz.prog ops Q (o1 :: o2 :: rest) a w := by
  have em : (Array.map (fun (p : Nat × Operand) => (p.1, a.eval p.2)) #[]).toList = [] := by simp
  refine wpList_build h1 46 #[] ho1 (by rw [em, built46]; simp only [Option.isSome_some]) ?_
  rw [em, built46, Option.getD_some]
  refine wpList_plain h2 fun K hK => ?_
  unfold Oper.wp execOp
  have ec : (Value.agg bookCells).cells = bookCells := rfl
  simp only [ho2, hx, Instr.box, newVar, Sem.run_bind, Sem.run_pure, ec]
  rw [bookObj_eq] at h
  have hr : (newRow 46 bookCells).run Tryz.prog w = .ok ⟨w.heap.size, 0, none⟩ (w.alloc (.cells bookCells 46)) := by simp [newRow]
  rw [hr]
  exact hK _ _ h

/-- The Room with one list, which holds l. -/
def RS (w : World) (lo R : Nat) (x : Rl) (hB hA : Value) (l : List Int) : Prop := RoomAt w lo R [x] hB hA ∧ Owns w lo x.row (l ++ lots 600) ∧ x.n = l.length
/-- Its blocks. -/
def RSb (R : Nat) (x : Rl) (hB hA : Value) (b : Nat) : Prop := b = R ∨ b = x.g ∨ hB.ownBlock = some b ∨ hA.ownBlock = some b

theorem RS.lt {w : World} {lo R : Nat} {x : Rl} {hB hA : Value} {l : List Int} (h : RS w lo R x hB hA l) : ∀ b, RSb R x hB hA b → lo ≤ b ∧ b < w.heap.size := by
  rintro b (rfl | rfl | e | e)
  · exact ⟨h.1.loR, h.1.lt⟩
  · exact ⟨(h.1.each x (by simp)).1, (h.1.each x (by simp)).2.1⟩
  · exact h.1.rows.lt b e
  · exact h.1.ats.lt b e

theorem RS.keep {w w' : World} {lo R : Nat} {x : Rl} {hB hA : Value} {l : List Int} (h : RS w lo R x hB hA l) (hs : w.heap.size ≤ w'.heap.size) (hb : ∀ b, RSb R x hB hA b → w'.heap[b]? = w.heap[b]?) : RS w' lo R x hB hA l := by
  obtain ⟨r, o, n⟩ := h
  have hR := hb R (.inl rfl)
  refine ⟨⟨r.loR, Nat.lt_of_lt_of_le r.lt hs, frozenB hR r.fz, fun i h1 h2 => cellB hR (r.idle i h1 h2), cellB hR r.c0, cellB hR r.c1, rowB r.rows fun k hk => hb k (.inr (.inr (.inl hk))), rowB r.ats fun k hk => hb k (.inr (.inr (.inr hk))), r.nB, r.nA, r.nAB, fun y hy => ?_⟩, o.block fun k hk => ?_, n⟩
  · obtain rfl := List.mem_singleton.1 hy
    obtain ⟨y1, y2, y3, y4, y5, y6, y7, y8⟩ := r.each y (by simp)
    exact ⟨y1, by omega, y3, y4, y5, y6, y7, fun i hi => cellB (hb y.g (.inr (.inl rfl))) (y8 i hi)⟩
  · have e : x.g = k := by simpa [Rl.row, Value.ownBlock] using hk
    exact hb k (.inr (.inl e.symm))

theorem RS.has {w : World} {lo R : Nat} {x : Rl} {hB hA : Value} {l : List Int} (h : RS w lo R x hB hA l) : Has w (.slice (some ⟨x.g, 0, none⟩) l.length (l.length + 600)) l := by
  refine .inr ⟨⟨x.g, 0, none⟩, _, rfl, by omega, fun i hi => ?_⟩
  have := World.ownsRow.cells h.2.1 (g := x.g) rfl i (.int .u8 (l.getD i 0)) (by
    rw [List.getElem?_map, List.getElem?_append_left hi, List.getD, List.getElem?_eq_getElem hi]; rfl)
  exact this

/-- A byte of the list is written. -/
theorem RS.set {w : World} {lo R : Nat} {x : Rl} {hB hA : Value} {l : List Int} (h : RS w lo R x hB hA l) {i : Nat} (hi : i < l.length) (b : Int) : RS (w.setCell ⟨x.g, i, none⟩ (.int .u8 b)) lo R x hB hA (l.set i b) := by
  obtain ⟨r, o, n⟩ := h
  obtain ⟨y1, y2, y3, y4, y5, y6, y7, y8⟩ := r.each x (by simp)
  have hR : (w.setCell ⟨x.g, i, none⟩ (.int .u8 b)).heap[R]? = w.heap[R]? := setB (Ne.symm y3)
  refine ⟨⟨r.loR, by rw [sizeS]; exact r.lt, frozenB hR r.fz, fun i h1 h2 => cellB hR (r.idle i h1 h2), cellB hR r.c0, cellB hR r.c1, rowB r.rows fun k hk => setB fun e => y4 (by rw [hk, e]), rowB r.ats fun k hk => setB fun e => y5 (by rw [hk, e]), r.nB, r.nA, r.nAB, fun y hy => ?_⟩, ?_, by simpa using n⟩
  · obtain rfl := List.mem_singleton.1 hy
    exact ⟨y1, by rw [sizeS]; exact y2, y3, y4, y5, y6, y7, fun j hj => (World.cell?_setCell_other _ _ _ _ (by simp <;> omega)).trans (y8 j hj)⟩
  · obtain ⟨h1, h2 | ⟨g, cap, cur, hv, hg, hh, hn, hm, hs', htk⟩⟩ := o
    · cases h2.1
    · have hv' := hv
      simp only [Rl.row, Value.slice.injEq, Option.some.injEq, Addr.mk.injEq, and_true] at hv'
      obtain ⟨e1, e2, e3⟩ := hv'
      subst e1
      have hl : (l.set i b ++ lots 600).length = (l ++ lots 600).length := by simp
      have es : l.set i b ++ lots 600 = (l ++ lots 600).set i b := by rw [List.set_append_left _ _ hi]
      unfold Owns
      rw [hl]
      refine ⟨by simp, .inr ⟨x.g, cap, cur.setIfInBounds i (.int .u8 b), hv, hg, ?_, hn, hm, by simpa using hs', ?_⟩⟩
      · simp only [World.setCell, Array.getElem?_modify, if_true, hh]
        simp
      · simp only [Nat.mul_one] at htk ⊢
        rw [es, List.map_set, ← htk, Array.toList_setIfInBounds, List.take_set]

theorem RS.cell {w : World} {lo R : Nat} {x : Rl} {hB hA : Value} {l : List Int} (h : RS w lo R x hB hA l) {i : Nat} (hi : i < l.length) : w.cell? ⟨x.g, i, none⟩ = some (.int .u8 (l.getD i 0)) ∧ w.frozen? ⟨x.g, i, none⟩ = false := by
  refine ⟨?_, ?_⟩
  · have := World.ownsRow.cells h.2.1 (g := x.g) rfl i (.int .u8 (l.getD i 0)) (by
      rw [List.getElem?_map, List.getElem?_append_left hi, List.getD, List.getElem?_eq_getElem hi]; rfl)
    rw [add0] at this
    exact this
  · obtain ⟨h1, h2 | ⟨g, cap, cur, hv, hg, hh, _⟩⟩ := h.2.1
    · cases h2.1
    · simp only [Rl.row, Value.slice.injEq, Option.some.injEq, Addr.mk.injEq, and_true] at hv
      obtain ⟨e1, e2, e3⟩ := hv
      subst e1
      simp [World.frozen?, hh]
end Go.Proofs.YthpelabmfpogbaaGreatDoor
