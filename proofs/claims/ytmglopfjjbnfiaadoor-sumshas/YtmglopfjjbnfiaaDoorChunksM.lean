/-
  THE ROOM'S Chunks: a copy of a list of lists, four places behind each part and forty behind the list.
-/
import Derived.Test.YtmglopfjjbnfiaaDoorRoomM
namespace Go.Proofs.YtmglopfjjbnfiaaDoor
open Go.RowKit

def Rl.ans (x : Rl) : Value := .slice (some ⟨x.g, 0, none⟩) x.n (x.n + 4)
def markV (m : Nat) : Value := .slice (some ⟨m, 0, none⟩) 1 1

theorem RoomM.keep {w w' : World} {lo R : Nat} {z : Nat → Value} {ls : List Rl} {hB hA : Value} (h : RoomM w lo R z ls hB hA) (P : Nat → Prop) (hs : w.heap.size ≤ w'.heap.size)
    (hk : ∀ b, b < w.heap.size → P b → w'.heap[b]? = w.heap[b]?) (hR : P R) (hPB : ∀ b, hB.ownBlock = some b → P b) (hPA : ∀ b, hA.ownBlock = some b → P b) (hx : ∀ x ∈ ls, P x.g) : RoomM w' lo R z ls hB hA := by
  have hRb := hk R h.lt hR
  refine ⟨h.loR, Nat.lt_of_lt_of_le h.lt hs, frozen_blockA hRb h.fz, fun i h2 h3 => cell_block hRb (h.idle i h2 h3), cell_block hRb h.c0, cell_block hRb h.c1,
    row_block h.rows fun k hk' => hk k (h.rows.lt k hk').2 (hPB k hk'), row_block h.ats fun k hk' => hk k (h.ats.lt k hk').2 (hPA k hk'), h.nB, h.nA, h.nAB, fun x hxm => ?_⟩
  obtain ⟨e1, e2, e3, e4, e5, e6, e7, e8⟩ := h.each x hxm
  exact ⟨e1, Nat.lt_of_lt_of_le e2 hs, e3, e4, e5, e6, e7, fun i hi => cell_block (hk x.g e2 (hx x hxm)) (e8 i hi)⟩

/-- The list 'full' as it grows: ps parts laid, and the marks ms. -/
structure FullM (w : World) (lo R : Nat) (z : Nat → Value) (ls : List Rl) (hB hA v : Value) (ps : List (List Nat)) (ms : List Nat) : Prop where
  room : RoomM w lo R z ls hB hA
  row : w.ownsRow lo 43 1 v (ls.length + ms.length) (ls.map Rl.ans ++ ms.map markV)
  len : ls.length = ps.length
  nR : v.ownBlock ≠ some R
  nBA : ∀ b, v.ownBlock = some b → hB.ownBlock ≠ some b ∧ hA.ownBlock ≠ some b
  nv : ∀ x ∈ ls, v.ownBlock ≠ some x.g
  part : ∀ i (hi : i < ls.length), (ls[i]).n = (ps.getD i []).length ∧ Owns w lo (ls[i]).row (ps.getD i [] ++ lotsL 4)
  inj : ls.Pairwise fun x y => x.g ≠ y.g
  marks : ∀ i (hi : i < ms.length), ms[i] < w.heap.size ∧ ms[i] ≠ R ∧ hB.ownBlock ≠ some ms[i] ∧ hA.ownBlock ≠ some ms[i] ∧ v.ownBlock ≠ some ms[i] ∧ (∀ x ∈ ls, x.g ≠ ms[i]) ∧ w.cell? ⟨ms[i], 0, none⟩ = some (vb (lotB i))

/-- One part more: what layBytes and the append leave. -/
theorem FullM.put {wr w2 w3 w4 : World} {lo R : Nat} {z : Nat → Value} {ls : List Rl} {hB hA v hB' hA' v' : Value} {ps : List (List Nat)} {p : List Nat} {x : Rl} (h : FullM wr lo R z ls hB hA v ps [])
    (hx : x.n = p.length) (hg : wr.heap.size ≤ x.g) (hr : RoomM w2 lo R z (ls ++ [x]) hB' hA') (ho : Owns w2 wr.heap.size x.row (p ++ lotsL 4))
    (hf : ∀ b, b < wr.heap.size → b ≠ R → hB.ownBlock ≠ some b → hA.ownBlock ≠ some b → w2.heap[b]? = wr.heap[b]?)
    (hBB : ∀ b, hB'.ownBlock = some b → hB.ownBlock = some b ∨ wr.heap.size ≤ b) (hAA : ∀ b, hA'.ownBlock = some b → hA.ownBlock = some b ∨ wr.heap.size ≤ b) (hlo : lo ≤ wr.heap.size) (_hs2 : wr.heap.size ≤ w2.heap.size)
    (h3 : ∀ b, b < w2.heap.size → w3.heap[b]? = w2.heap[b]?) (hs3 : w2.heap.size < w3.heap.size)
    (h4 : w4.ownsRow lo 43 1 v' (ls.length + 1) (ls.map Rl.ans ++ [x.ans])) (h5 : w3.grownBy w4 v.ownBlock) (h6 : v'.ownBlock = v.ownBlock ∨ v'.ownBlock = some w3.heap.size) :
    FullM w4 lo R z (ls ++ [x]) hB' hA' v' (ps ++ [p]) [] := by
  have hvl : ∀ b, v.ownBlock = some b → b < wr.heap.size := fun b hb => (World.ownsRow.lt h.row b hb).2
  have hs4 : w3.heap.size ≤ w4.heap.size := h5.size
  have k4 : ∀ b, b < w2.heap.size → v.ownBlock ≠ some b → w4.heap[b]? = w2.heap[b]? := fun b hb hne => (h5.block b (by omega) (fun e => hne e.symm)).trans (h3 b hb)
  have hxe := hr.each x (by simp)
  have nvR : v.ownBlock ≠ some R := h.nR
  have nB' : ∀ b, v.ownBlock = some b → hB'.ownBlock ≠ some b := fun b hb e => by
    rcases hBB b e with q | q
    · exact (h.nBA b hb).1 q
    · have := hvl b hb; omega
  have nA' : ∀ b, v.ownBlock = some b → hA'.ownBlock ≠ some b := fun b hb e => by
    rcases hAA b e with q | q
    · exact (h.nBA b hb).2 q
    · have := hvl b hb; omega
  have nxv : ∀ y ∈ ls ++ [x], v.ownBlock ≠ some y.g := fun y hy e => by
    rcases List.mem_append.1 hy with q | q
    · exact h.nv y q e
    · rw [List.mem_singleton.1 q] at e; have := hvl _ e; omega
  have hroom : RoomM w4 lo R z (ls ++ [x]) hB' hA' := hr.keep (fun b => v.ownBlock ≠ some b) (by omega) k4 nvR (fun b hb e => nB' b e hb) (fun b hb e => nA' b e hb) nxv
  refine ⟨hroom, by simpa using h4, by simp [h.len], ?_, ?_, ?_, ?_, ?_, fun i hi => by simp at hi⟩
  · rcases h6 with q | q
    · rw [q]; exact nvR
    · rw [q]; intro e; have := hr.lt; simp at e; omega
  · intro b hb
    rcases h6 with q | q
    · rw [q] at hb; exact ⟨nB' b hb, nA' b hb⟩
    · rw [q] at hb
      simp at hb
      refine ⟨fun e => ?_, fun e => ?_⟩
      · have := (hr.rows.lt b e).2; omega
      · have := (hr.ats.lt b e).2; omega
  · intro y hy
    rcases h6 with q | q
    · rw [q]; exact nxv y hy
    · rw [q]; intro e; have := (hr.each y hy).2.1; simp at e; omega
  · intro i hi
    by_cases hlt : i < ls.length
    · have e1 : (ls ++ [x])[i] = ls[i] := by rw [List.getElem_append_left hlt]
      have e2 : (ps ++ [p]).getD i [] = ps.getD i [] := by simp [List.getD, List.getElem?_append_left (show i < ps.length by rw [← h.len]; exact hlt)]
      rw [e1, e2]
      have hm : ls[i] ∈ ls := List.getElem_mem hlt
      obtain ⟨q1, q2⟩ := h.part i hlt
      have q3 := h.room.each _ hm
      refine ⟨q1, q2.block fun k hk => ?_⟩
      have hkg : k = ls[i].g := by simp only [Rl.row, Value.ownBlock] at hk; simpa using hk.symm
      subst hkg
      exact (k4 _ (by have := q3.2.1; omega) (nxv _ (by simp [hm]))).trans (hf _ q3.2.1 q3.2.2.1 q3.2.2.2.1 q3.2.2.2.2.1)
    · obtain rfl : i = ls.length := by simp at hi; omega
      have e1 : (ls ++ [x])[ls.length] = x := by simp
      have e2 : (ps ++ [p]).getD ls.length [] = p := by rw [h.len]; simp [List.getD]
      rw [e1, e2]
      refine ⟨hx, (ho.mono hlo).block fun k hk => ?_⟩
      have hkg : k = x.g := by simp only [Rl.row, Value.ownBlock] at hk; simpa using hk.symm
      subst hkg
      exact k4 _ hxe.2.1 (nxv _ (by simp))
  · refine List.pairwise_append.2 ⟨h.inj, by simp, fun a ha b hb => ?_⟩
    rw [List.mem_singleton.1 hb]
    have := (h.room.each a ha).2.1
    omega

/-- One mark more. -/
theorem FullM.mark {wr w3 w4 : World} {lo R : Nat} {z : Nat → Value} {ls : List Rl} {hB hA v v' : Value} {ps : List (List Nat)} {ms : List Nat} (h : FullM wr lo R z ls hB hA v ps ms)
    (h3 : ∀ b, b < wr.heap.size → w3.heap[b]? = wr.heap[b]?) (hs3 : wr.heap.size < w3.heap.size) (hc : w3.cell? ⟨wr.heap.size, 0, none⟩ = some (vb (lotB ms.length)))
    (h4 : w4.ownsRow lo 43 1 v' (ls.length + ms.length + 1) (ls.map Rl.ans ++ ms.map markV ++ [markV wr.heap.size])) (h5 : w3.grownBy w4 v.ownBlock) (h6 : v'.ownBlock = v.ownBlock ∨ v'.ownBlock = some w3.heap.size) :
    FullM w4 lo R z ls hB hA v' ps (ms ++ [wr.heap.size]) := by
  have hvl : ∀ b, v.ownBlock = some b → b < wr.heap.size := fun b hb => (World.ownsRow.lt h.row b hb).2
  have hs4 : w3.heap.size ≤ w4.heap.size := h5.size
  have k4 : ∀ b, b < wr.heap.size → v.ownBlock ≠ some b → w4.heap[b]? = wr.heap[b]? := fun b hb hne => (h5.block b (by omega) (fun e => hne e.symm)).trans (h3 b hb)
  have hroom : RoomM w4 lo R z ls hB hA := h.room.keep (fun b => v.ownBlock ≠ some b) (by omega) k4 h.nR (fun b hb e => (h.nBA b e).1 hb) (fun b hb e => (h.nBA b e).2 hb) h.nv
  have nv' : ∀ b, b < w3.heap.size → v.ownBlock ≠ some b → v'.ownBlock ≠ some b := fun b hb hne e => by
    rcases h6 with q | q
    · rw [q] at e; exact hne e
    · rw [q] at e; simp at e; omega
  refine ⟨hroom, by simpa [Nat.add_assoc] using h4, h.len, nv' R (by have := h.room.lt; omega) h.nR, ?_, fun x hx => nv' _ (by have := (h.room.each x hx).2.1; omega) (h.nv x hx), ?_, h.inj, ?_⟩
  · intro b hb
    rcases h6 with q | q
    · rw [q] at hb; exact h.nBA b hb
    · rw [q] at hb
      simp at hb
      refine ⟨fun e => ?_, fun e => ?_⟩
      · have := (h.room.rows.lt b e).2; omega
      · have := (h.room.ats.lt b e).2; omega
  · intro i hi
    obtain ⟨q1, q2⟩ := h.part i hi
    have hm : ls[i] ∈ ls := List.getElem_mem hi
    refine ⟨q1, q2.block fun k hk => ?_⟩
    have hkg : k = ls[i].g := by simp only [Rl.row, Value.ownBlock] at hk; simpa using hk.symm
    subst hkg
    exact k4 _ (h.room.each _ hm).2.1 (h.nv _ hm)
  · intro i hi
    by_cases hlt : i < ms.length
    · have e1 : (ms ++ [wr.heap.size])[i] = ms[i] := by rw [List.getElem_append_left hlt]
      rw [e1]
      obtain ⟨q1, q2, q3, q4, q5, q6, q7⟩ := h.marks i hlt
      exact ⟨by omega, q2, q3, q4, nv' _ (by omega) q5, q6, cell_block (k4 _ q1 q5) q7⟩
    · obtain rfl : i = ms.length := by simp at hi; omega
      have e1 : (ms ++ [wr.heap.size])[ms.length] = wr.heap.size := by simp
      rw [e1]
      refine ⟨by omega, by have := h.room.lt; omega, fun e => ?_, fun e => ?_, nv' _ hs3 (fun e => by have := hvl _ e; omega), fun x hx e => by have := (h.room.each x hx).2.1; omega, ?_⟩
      · have := (h.room.rows.lt _ e).2; omega
      · have := (h.room.ats.lt _ e).2; omega
      · exact cell_block (h5.block _ hs3 (fun e => by have := hvl _ e.symm; omega)) hc
end Go.Proofs.YtmglopfjjbnfiaaDoor
