/-
  (*sum.Hash).Sum by contract: the ground of what stands behind the two copies.
-/
import Derived.Test.YtmglopfjjbnfiaaDoorSum
namespace Go.Proofs.YtmglopfjjbnfiaaDoor
open Go.RowKit

theorem set_map (L : List Nat) (i x : Nat) : ((L.map vb).toArray).setIfInBounds i (vb x) = ((L.set i x).map vb).toArray := by
  apply Array.ext'; simp [List.map_set]
theorem set_at (A : List Nat) (b x : Nat) (B : List Nat) (n : Nat) (h : n = A.length) : (A ++ b :: B).set n x = A ++ x :: B := by subst h; simp
theorem put4_list (L : List Nat) (o x : Nat) (h : o + 4 ≤ L.length) : put4 (L.map vb).toArray o x = ((Sha.splice L o (Sha.four x)).map vb).toArray := by
  unfold put4
  rw [set_map, set_map, set_map, set_map]
  congr 2
  obtain ⟨A, D, rfl, hA⟩ : ∃ A D, L = A ++ D ∧ A.length = o := ⟨L.take o, L.drop o, by simp, by simp; omega⟩
  obtain ⟨b0, b1, b2, b3, B, rfl⟩ : ∃ b0 b1 b2 b3 B, D = b0 :: b1 :: b2 :: b3 :: B := by
    match D, h with
    | b0 :: b1 :: b2 :: b3 :: B, _ => exact ⟨b0, b1, b2, b3, B, rfl⟩
    | [], h => simp at h; omega
    | [_], h => simp at h; omega
    | [_, _], h => simp at h; omega
    | [_, _, _], h => simp at h; omega
  rw [set_at A b0 _ _ o hA.symm, List.append_cons, set_at _ b1 _ _ _ (by simp [hA]), List.append_cons, set_at _ b2 _ _ _ (by simp [hA]), List.append_cons, set_at _ b3 _ _ _ (by simp [hA])]
  unfold Sha.splice Sha.four
  subst hA
  simp

theorem put8_list (L : List Nat) (x y : Nat) (h : L.length = 64) : put4 (put4 (L.map vb).toArray 56 x) 60 y = ((L.take 56 ++ (Sha.four x ++ Sha.four y)).map vb).toArray := by
  have h1 : (Sha.splice L 56 (Sha.four x)).length = 64 := by rw [Sha.length_splice (by rw [h]; exact Nat.le_of_ble_eq_true rfl)]; exact h
  rw [put4_list L 56 x (by omega), put4_list _ 60 y (by omega)]
  congr 2
  have e : Sha.splice L 56 (Sha.four x) = L.take 56 ++ (Sha.four x ++ L.drop 60) := rfl
  have l1 : (L.take 56).length = 56 := by simp; omega
  have l2 : (L.take 56 ++ Sha.four x).length = 60 := by simp [l1, Sha.four]
  unfold Sha.splice at h1 ⊢
  rw [show (L.take 56 ++ (Sha.four x ++ L.drop (56 + (Sha.four x).length))) = (L.take 56 ++ Sha.four x) ++ L.drop 60 by rw [List.append_assoc]; rfl]
  rw [List.take_append_of_le_length (by omega), List.take_of_length_le (by omega), List.drop_append, List.drop_of_length_le (by rw [l2]; simp [Sha.four]), l2]
  simp [Sha.four, List.drop_of_length_le (show L.length ≤ 64 by omega)]

set_option maxRecDepth 100000 in
theorem slice96_end (g o : Nat) (wz : World) : (Instr.sliceAt 96 (.pointer (some ⟨g, o, none⟩)) (some (.int .i64 64)) none none).run Tryd.prog wz = .ok (.slice (some ⟨g, o, none⟩) 0 0) wz := by
  rw [run_sliceAt_array_l wz 96 ⟨g, o, none⟩ Tryd.underlying96 .i64 64 (by omega) (by rw [show Tryd.prog.arrayLen 96 = 64 by kernel_rfl]; omega)]
  have h1 : (Tryd.prog.info? (Tryd.prog.elem 96)).map (·.size) = some 1 := by kernel_rfl
  cases hq : Tryd.prog.info? (Tryd.prog.elem 96) with
  | none => simp [hq] at h1
  | some i =>
    have hs : i.size = 1 := by simpa [hq] using h1
    rw [show Tryd.prog.arrayLen 96 = 64 by kernel_rfl]
    simp [sizeOf, typeInfo, hq, slicedAt, Result.andThen]

theorem wpList_clear {ops : Array Oper} {rest : List Oper} {o : Oper} {a : Act} {w : World} {Q : Exit → Act → World → Prop} (hgd : o.guard = none) (x : Operand)
    (ho : o.op = .call { callee := .builtin .clear, args := #[x], argTypes := #[43] })
    (g off m cap : Nat) (hx : a.eval x = .slice (some ⟨g, off, none⟩) m cap) (cur fin : Array Value) (t : TypeId) (hg : w.heap[g]? = some (.cells cur t (0, 0)))
    (hfit : 0 < m → off + m ≤ cur.size) (h0 : m = 0 → cur = fin) (h1 : 0 < m → (cur.toList.take off ++ List.replicate m (vb 0) ++ cur.toList.drop (off + m)).toArray = fin)
    (h : wpList Tryd.prog ops Q rest (a.put o.dst (.tuple #[])) (w.setRow g fin)) : wpList Tryd.prog ops Q (o :: rest) a w := by
  refine wpList_plain hgd fun K hK => ?_
  have hrun : (Builtin.clear_ #[43] o.type #[.slice (some ⟨g, off, none⟩) m cap]).run Tryd.prog w = .ok (.tuple #[]) (w.setRow g fin) := by
    by_cases hm : m = 0
    · subst hm
      rw [← h0 rfl, setRow_self w g cur t (0, 0) hg]
      simp [Builtin.clear_, run_underlying Tryd.underlying43]
    · have hzc : (Builtin.zeroCells (Value.cells (.int .u8 0)) m).toList = List.replicate m (vb 0) := by
        simp [Builtin.zeroCells, Value.cells]
        apply List.ext_getElem
        · simp
        · intro i h1 h2
          simp [Nat.mod_one, vb]
      have hst := run_storeCells_at Tryd.prog g off t (List.replicate m (vb 0)) 0 cur w hg (by simpa using hfit (by omega)) (fun v hv => by rw [List.eq_of_mem_replicate hv]; rfl)
      simp only [Nat.add_zero, List.length_replicate] at hst
      rw [h1 (by omega)] at hst
      have hz0 : ∀ w, (zeroValue 5).run Tryd.prog w = .ok (.int .u8 0) w := fun w => by
        obtain ⟨i0, hi, hz0, _, _⟩ := info_parts Tryd.info5
        simp [zeroValue, typeInfo, hi, hz0]
      obtain ⟨k, rfl⟩ : ∃ k, m = k + 1 := ⟨m - 1, by omega⟩
      simp [Builtin.clear_, run_underlying Tryd.underlying43, hz0, hzc, hst]
  unfold Oper.wp
  simp [execOp, ho, resolve, invoke, builtin, hx, hrun, Result.andThen]
  exact hK _ _ h

theorem built96 : Tryd.prog.built 96 [] = some (bfill 64 []) := by kernel_rfl
set_option maxRecDepth 100000 in
theorem wpList_build0 {ops : Array Oper} {rest : List Oper} {o : Oper} {a : Act} {w : World} {Q : Exit → Act → World → Prop} (hg : o.guard = none) (t : TypeId) (ho : o.op = .build t #[])
    (cells : Array Value) (hb : Tryd.prog.built t [] = some cells) (h : wpList Tryd.prog ops Q rest (a.put o.dst (.agg cells)) w) : wpList Tryd.prog ops Q (o :: rest) a w := by
  have hb' : Tryd.prog.built t ((#[] : Array (Nat × Operand)).map fun (i, x) => (i, a.eval x)).toList = some cells := by simpa using hb
  refine wpList_build hg t #[] ho (by rw [hb']; rfl) ?_
  rw [hb']; exact h

/-- What lies there between the two copies and the answer. -/
structure SW (w wt : World) (K : Nat) (n g3 g4 : Nat) (M : Sha.V) (L : List Nat) : Prop where
  count : wt.cell? ⟨K, 72, none⟩ = some (.int .i64 (n : Int))
  r3 : wt.heap[g3]? = some (.cells (vagg M) 94 (0, 0))
  r4 : wt.heap[g4]? = some (.cells (L.map vb).toArray 96 (0, 0))
  out : wt.heap[w.heap.size]? = some (.cells (bfill 32 []) 41 (0, 0))
  below : Below w.heap.size w wt
  lt3 : w.heap.size < g3
  lt4 : w.heap.size < g4
  ne : g3 ≠ g4
  ltK : K < w.heap.size

variable {w wt : World} {K n g3 g4 : Nat} {M : Sha.V} {L : List Nat}
theorem SW.up (h : SW w wt K n g3 g4 M L) {w' : World} (hb : Below wt.heap.size wt w') : SW w w' K n g3 g4 M L :=
  ⟨by rw [hb.cell (block_lt_of_cell h.count)]; exact h.count, (hb.block _ (Array.getElem?_eq_some_iff.1 h.r3).1).trans h.r3, (hb.block _ (Array.getElem?_eq_some_iff.1 h.r4).1).trans h.r4, (hb.block _ (Array.getElem?_eq_some_iff.1 h.out).1).trans h.out, Below.up h.below hb, h.lt3, h.lt4, h.ne, h.ltK⟩
theorem SW.set4 (h : SW w wt K n g3 g4 M L) (L' : List Nat) : SW w (wt.setRow g4 (L'.map vb).toArray) K n g3 g4 M L' := by
  have := h.lt4; have := h.ltK
  exact ⟨by rw [cell_setRow_other _ _ _ _ (by show K ≠ g4; omega)]; exact h.count, by rw [setRow_other _ _ _ _ h.ne]; exact h.r3, setRow_heap _ _ _ _ _ _ h.r4, by rw [setRow_other _ _ _ _ (by omega)]; exact h.out, below_setRow h.below (by omega) _, h.lt3, h.lt4, h.ne, h.ltK⟩
theorem SW.set3 (h : SW w wt K n g3 g4 M L) (M' : Sha.V) : SW w (wt.setRow g3 (vagg M')) K n g3 g4 M' L := by
  have := h.lt3; have := h.ltK
  exact ⟨by rw [cell_setRow_other _ _ _ _ (by show K ≠ g3; omega)]; exact h.count, setRow_heap _ _ _ _ _ _ h.r3, by rw [setRow_other _ _ _ _ (Ne.symm h.ne)]; exact h.r4, by rw [setRow_other _ _ _ _ (by omega)]; exact h.out, below_setRow h.below (by omega) _, h.lt3, h.lt4, h.ne, h.ltK⟩
theorem out_fours (v : Sha.V) : fours [v.a, v.b, v.c, v.d, v.e, v.f, v.g, v.h] = Sha.out v := by simp [fours, Sha.out]
theorem vagg_lit (v : Sha.V) : vagg v = #[vw v.a, vw v.b, vw v.c, vw v.d, vw v.e, vw v.f, vw v.g, vw v.h] := rfl
theorem bytesOf_v (v : Sha.V) (w : World) (h : vok v) : Calls Tryd.prog 62 #[.agg (vagg v)] w fun x w' => x = .returned (.agg ((Sha.out v).map vb).toArray) ∧ Below w.heap.size w w' := by
  obtain ⟨h1, h2, h3, h4, h5, h6, h7, h8⟩ := h
  rw [vagg_lit, ← out_fours]
  exact bytesOf_any _ _ _ _ _ _ _ _ w h1 h2 h3 h4 h5 h6 h7 h8
theorem out_len (v : Sha.V) : (Sha.out v).length = 32 := rfl
theorem sha_len (l : List Nat) : (Sha.sha l).length = 32 := by unfold Sha.sha Sha.shaF; exact out_len _
end Go.Proofs.YtmglopfjjbnfiaaDoor
