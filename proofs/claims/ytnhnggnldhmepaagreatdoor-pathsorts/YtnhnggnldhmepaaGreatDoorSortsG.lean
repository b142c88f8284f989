/-
  PathSorts: the Room with one list of texts beside the Book.
-/
import Derived.Test.YtnhnggnldhmepaaGreatDoorBkNew
import Derived.Test.YtnhnggnldhmepaaGreatDoorRoomHold
import Derived.Test.YtnhnggnldhmepaaGreatDoorRoomLay
namespace Go.Proofs.YtnhnggnldhmepaaGreatDoor
open Go.RowKit Bk

theorem cellG {w : World} {g n c : Nat} {M : List ByteArray} (h : HasT w (.slice (some ⟨g, 0, none⟩) n c) M) {k : Nat} {x : ByteArray} (hk : M[k]? = some x) : w.cell? ⟨g, k, none⟩ = some (.string x) := by
  obtain ⟨a, cap, hv, hc⟩ := h.at hk
  simp at hv
  obtain ⟨rfl, _, _⟩ := hv
  rw [add0] at hc
  exact hc
theorem setG {w : World} {g n c k : Nat} {M : List ByteArray} {x y : ByteArray} (h : HasT w (.slice (some ⟨g, 0, none⟩) n c) M) (hk : M[k]? = some x) : HasT (w.setCell ⟨g, k, none⟩ (.string y)) (.slice (some ⟨g, 0, none⟩) n c) (M.set k y) := by
  have hck := cellG h hk
  rcases h with ⟨q, _⟩ | ⟨a, cap, hv, hc, hcell⟩
  · simp at q
  · simp at hv
    obtain ⟨rfl, rfl, rfl⟩ := hv
    refine .inr ⟨⟨g, 0, none⟩, c, by simp, by simpa using hc, fun i s hi => ?_⟩
    rw [add0]
    by_cases e : i = k
    · subst e
      rw [List.getElem?_set_self (List.getElem?_eq_some_iff.1 hk).1] at hi
      cases hi
      exact World.cell?_setCell_same _ _ _ hck
    · rw [List.getElem?_set_ne (fun q => e q.symm)] at hi
      have := hcell i s hi
      rw [add0] at this
      exact (World.cell?_setCell_other _ _ _ _ (by simp <;> omega)).trans this

/-- The block of a new Room. -/
def roomObj : Obj := .cells (List.replicate 26 (Value.slice none 0 0)).toArray 56
theorem room_new (w : World) : (∀ i, i < 26 → (w.alloc roomObj).cell? ⟨w.heap.size, i, none⟩ = some (.slice none 0 0)) ∧ ∀ o, (w.alloc roomObj).frozen? ⟨w.heap.size, o, none⟩ = false := by
  have h : (w.alloc roomObj).heap[w.heap.size]? = some roomObj := heap_alloc_new w roomObj
  constructor
  · intro i hi
    unfold roomObj at h ⊢
    simp only [World.cell?, h]
    show (List.replicate 26 (Value.slice none 0 0)).toArray[i]? = _
    rw [List.getElem?_toArray, List.getElem?_replicate, if_pos hi]
  · intro o
    simp only [World.frozen?, h]
    simp [roomObj]

/-- The Book at K with n lists; the Room at R with its list at block g, which holds M now. -/
structure SX (w0 : World) (K R g N : Nat) (M : List ByteArray) (n : Nat) (w : World) : Prop where
  bk : ∃ B, BookOk w w0.heap.size K n B ∧ ¬ B R ∧ ¬ B g ∧ ∃ b1 c1 b2 c2 cap, w.cell? ⟨R, 4, none⟩ = some (.slice (some ⟨b1, 0, none⟩) 1 c1) ∧ w.cell? ⟨R, 5, none⟩ = some (.slice (some ⟨b2, 0, none⟩) 1 c2) ∧
    w.cell? ⟨b1, 0, none⟩ = some (.slice (some ⟨g, 0, none⟩) (N + 40) cap) ∧ w.cell? ⟨b2, 0, none⟩ = some (.int .i64 N) ∧ b1 ≠ g ∧ b2 ≠ g ∧ ¬ B b1 ∧ ¬ B b2
  room : RoomT w R g N
  lent : HasT w (.slice (some ⟨g, 0, none⟩) N (N + 40)) M
  bel : Below w0.heap.size w0 w
  ge : w0.heap.size ≤ g

section
variable {w0 w w' : World} {K R g N : Nat} {M : List ByteArray} {n : Nat}

theorem room_same (h : RoomT w R g N) {b1 c1 b2 c2 cap : Nat} (q1 : w.cell? ⟨R, 4, none⟩ = some (.slice (some ⟨b1, 0, none⟩) 1 c1)) (q2 : w.cell? ⟨R, 5, none⟩ = some (.slice (some ⟨b2, 0, none⟩) 1 c2))
    (q3 : w.cell? ⟨b1, 0, none⟩ = some (.slice (some ⟨g, 0, none⟩) (N + 40) cap)) (q4 : w.cell? ⟨b2, 0, none⟩ = some (.int .i64 N)) (q5 : b1 ≠ g) (q6 : b2 ≠ g)
    (e1 : w'.heap[R]? = w.heap[R]?) (e2 : w'.heap[g]? = w.heap[g]?) (e3 : w'.heap[b1]? = w.heap[b1]?) (e4 : w'.heap[b2]? = w.heap[b2]?) : RoomT w' R g N :=
  ⟨fun i a b c => cell_block e1 (h.idle i a b c), ⟨b1, c1, b2, c2, cap, cell_block e1 q1, cell_block e1 q2, cell_block e3 q3, cell_block e4 q4, q5, q6⟩, h.ne, fun i hi => frozen_block e2 (h.fz i hi), fun i hi => cell_block e2 (h.marks i hi)⟩

theorem lent_same (h : HasT w (.slice (some ⟨g, 0, none⟩) N (N + 40)) M) (e : w'.heap[g]? = w.heap[g]?) : HasT w' (.slice (some ⟨g, 0, none⟩) N (N + 40)) M := by
  rcases h with ⟨q, _⟩ | ⟨a, cap, hv, hc, hcell⟩
  · simp at q
  · simp at hv
    obtain ⟨rfl, rfl, rfl⟩ := hv
    refine .inr ⟨⟨g, 0, none⟩, _, rfl, hc, fun i s hi => ?_⟩
    have := hcell i s hi
    rw [add0] at this ⊢
    exact cell_block e this

theorem SX.up (h : SX w0 K R g N M n w) (hb : Below w.heap.size w w') : SX w0 K R g N M n w' := by
  obtain ⟨⟨B, k1, k2, k3, b1, c1, b2, c2, cap, q1, q2, q3, q4, q5, q6, q7, q8⟩, hr, hl, hbl, hg⟩ := h
  have hc : ∀ (a : Addr) (x : Value), w.cell? a = some x → w'.cell? a = some x := fun a x hx => by rw [hb.cell (World.block_lt_of_cell? w _ hx)]; exact hx
  exact ⟨⟨B, k1.keep hb.size (fun b hB => hb.block b (k1.lt b hB)) hb.os hb.tape hb.output, k2, k3, b1, c1, b2, c2, cap, hc _ _ q1, hc _ _ q2, hc _ _ q3, hc _ _ q4, q5, q6, q7, q8⟩, hr.below hb, hl.below hb, hbl.trans (hb.mono hbl.size), hg⟩

theorem SX.hold (h : SX w0 K R g N M n w) (hn : n ≤ 200000) : Calls Tryz.prog 10 #[.pointer (some ⟨K, 0, none⟩)] w fun e w' => e = .returned (.bool true) ∧ Below w0.heap.size w0 w' := by
  obtain ⟨⟨B, k1, _⟩, _, _, h4, _⟩ := h
  refine (bookHoldOk w _ K n B k1 hn).mono ?_
  rintro e w' ⟨rfl, k, rfl⟩
  exact ⟨rfl, h4.os, h4.tape, h4.output, h4.size, h4.block⟩

/-- A text of the list that was lent is written. -/
theorem SX.set (h : SX w0 K R g N M n w) {k : Nat} {x : ByteArray} (hk : M[k]? = some x) (hN : k < N) (y : ByteArray) : SX w0 K R g N (M.set k y) n (w.setCell ⟨g, k, none⟩ (.string y)) := by
  obtain ⟨⟨B, k1, k2, k3, b1, c1, b2, c2, cap, q1, q2, q3, q4, q5, q6, q7, q8⟩, hr, hl, hbl, hg⟩ := h
  have o : ∀ b, b ≠ g → (w.setCell ⟨g, k, none⟩ (.string y)).heap[b]? = w.heap[b]? := fun b hb => setB hb
  refine ⟨⟨B, k1.keep (by rw [sizeS]; exact Nat.le_refl _) (fun b hB => o b (fun e => k3 (e ▸ hB))) rfl rfl rfl, k2, k3, b1, c1, b2, c2, cap, cell_block (o R hr.ne) q1, cell_block (o R hr.ne) q2, cell_block (o b1 q5) q3, cell_block (o b2 q6) q4, q5, q6, q7, q8⟩, hr.set hN _, setG hl hk, ?_, hg⟩
  exact ⟨hbl.os, hbl.tape, hbl.output, by rw [sizeS]; exact hbl.size, fun b hb => (o b (by omega)).trans (hbl.block b hb)⟩

/-- A list v of new memory is handed to the Book. -/
theorem SX.texts (h : SX w0 K R g N M n w) (htb : Tb w0.heap.size w0) (hb : Below w.heap.size w w') {v : Value} {L : List ByteArray} (hv : OwnsT w' w.heap.size v L) (hl : L.length ≤ 1000000) (mark : Nat) (hm : mark ≤ 100000000) (hn : n ≤ 200000) :
    Calls Tryz.prog 9 #[.pointer (some ⟨K, 0, none⟩), v, .int .i64 mark] w' fun e w2 => e = .returned (.tuple #[]) ∧ SX w0 K R g N M (n + 1) w2 := by
  have hu := h.up hb
  obtain ⟨⟨B, k1, k2, k3, b1, c1, b2, c2, cap, q1, q2, q3, q4, q5, q6, q7, q8⟩, hr, hlt, hbl, hg⟩ := h
  have hs := hbl.size
  have lw : ∀ (a : Addr) (x : Value), w.cell? a = some x → a.block < w.heap.size := fun a x hx => World.block_lt_of_cell? w _ hx
  have vlt : ∀ b, v.ownBlock = some b → w.heap.size ≤ b := fun b hb' => (World.ownsRow.lt hv b hb').1
  have j1 : BookOk w' w0.heap.size K n B := k1.keep hb.size (fun b hB => hb.block b (k1.lt b hB)) hb.os hb.tape hb.output
  refine (bookTextsOk w' _ K n B v L mark j1 (hv.mono hs) (fun b hb' hB => by have := vlt b hb'; have := k1.lt b hB; omega) hl hm hn (htb.on hu.bel)).mono ?_
  rintro e w2 ⟨rfl, B', p1, p2, p3⟩
  have o : ∀ b, b < w.heap.size → ¬ B b → w2.heap[b]? = w.heap[b]? ∧ ¬ B' b := fun b hb' hB => by
    have hz := hb.size
    obtain ⟨x1, x2⟩ := p3 b (by omega) hB (fun e => by have := vlt b e; omega)
    exact ⟨x1.trans (hb.block b hb'), x2⟩
  have lR : R < w.heap.size := lw _ _ q1
  have lg : g < w.heap.size := lw ⟨g, N + 0, none⟩ _ (hr.marks 0 (by omega))
  have l1 : b1 < w.heap.size := lw _ _ q3
  have l2 : b2 < w.heap.size := lw _ _ q4
  have oR := o R lR k2
  have og := o g lg k3
  have o1 := o b1 l1 q7
  have o2 := o b2 l2 q8
  exact ⟨rfl, ⟨B', p1, oR.2, og.2, b1, c1, b2, c2, cap, cell_block oR.1 q1, cell_block oR.1 q2, cell_block o1.1 q3, cell_block o2.1 q4, q5, q6, o1.2, o2.2⟩, room_same hr q1 q2 q3 q4 q5 q6 oR.1 og.1 o1.1 o2.1, lent_same hlt og.1, hu.bel.trans p2, hg⟩
end
end Go.Proofs.YtnhnggnldhmepaaGreatDoor
