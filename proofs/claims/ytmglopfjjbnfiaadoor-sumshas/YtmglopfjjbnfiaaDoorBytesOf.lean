/-
  sum.bytesOf by contract: the words' bytes.
-/
import Derived.Test.YtmglopfjjbnfiaaDoorSmall
namespace Go.Proofs.YtmglopfjjbnfiaaDoor
open Go.RowKit

def bfill (n : Nat) (l : List Nat) : Array Value := ((l ++ List.replicate (n - l.length) 0).map vb).toArray
theorem bfill_size {n : Nat} {l : List Nat} (h : l.length ≤ n) : (bfill n l).size = n := by simp [bfill]; omega
theorem bfill_full {n : Nat} {l : List Nat} (h : l.length = n) : bfill n l = (l.map vb).toArray := by simp [bfill, h]
theorem bfill_set {n : Nat} {l : List Nat} (x : Nat) (h : l.length < n) : (bfill n l).setIfInBounds l.length (vb x) = bfill n (l ++ [x]) := by
  unfold bfill
  obtain ⟨m, hm⟩ : ∃ m, n - l.length = m + 1 := ⟨n - l.length - 1, by omega⟩
  rw [hm, List.replicate_succ]
  have : n - (l ++ [x]).length = m := by simp; omega
  rw [this]
  apply Array.ext'
  simp
theorem bfill_put4 {n : Nat} {l : List Nat} (x : Nat) (h : l.length + 4 ≤ n) : put4 (bfill n l) l.length x = bfill n (l ++ Sha.four x) := by
  unfold put4
  rw [bfill_set _ (by omega)]
  have e1 : l.length + 1 = (l ++ [x / 16777216 % 256]).length := by simp
  rw [e1, bfill_set _ (by simp; omega)]
  have e2 : l.length + 2 = (l ++ [x / 16777216 % 256] ++ [x / 65536 % 256]).length := by simp
  rw [e2, bfill_set _ (by simp; omega)]
  have e3 : l.length + 3 = (l ++ [x / 16777216 % 256] ++ [x / 65536 % 256] ++ [x / 256 % 256]).length := by simp
  rw [e3, bfill_set _ (by simp; omega)]
  simp [Sha.four]

set_option maxRecDepth 100000 in
theorem slice41 (g o l : Nat) (h : l < 32) (wz : World) : (Instr.sliceAt 41 (.pointer (some ⟨g, o, none⟩)) (some (.int .i64 (l : Int))) none none).run Tryd.prog wz = .ok (.slice (some ⟨g, o + l, none⟩) (32 - l) (32 - l)) wz := by
  rw [run_sliceAt_array_l wz 41 ⟨g, o, none⟩ Tryd.underlying41 .i64 l (by omega) (by rw [show Tryd.prog.arrayLen 41 = 32 by kernel_rfl]; omega)]
  have h1 : (Tryd.prog.info? (Tryd.prog.elem 41)).map (·.size) = some 1 := by kernel_rfl
  cases hq : Tryd.prog.info? (Tryd.prog.elem 41) with
  | none => simp [hq] at h1
  | some i =>
    have hs : i.size = 1 := by simpa [hq] using h1
    rw [show Tryd.prog.arrayLen 41 = 32 by kernel_rfl]
    simp [sizeOf, typeInfo, hq, hs, slicedAt, Addr.add, show ¬ (32 = l) by omega, Result.andThen]

theorem index94 {va : Array Value} {k x : Nat} (hk : k < 8) (hv : va[k]? = some (.int .u32 (x : Int))) (wz : World) : (Instr.index 94 (.agg va) (.int .i64 (k : Int))).run Tryd.prog wz = .ok (.int .u32 (x : Int)) wz := by
  have h1 : (Tryd.prog.info? 49).map (·.size) = some 1 := by kernel_rfl
  cases hq : Tryd.prog.info? 49 with
  | none => simp [hq] at h1
  | some i =>
    have hs : i.size = 1 := by simpa [hq] using h1
    simp [Instr.index, asIntOf, run_underlying Tryd.underlying94, sizeOf, typeInfo, hq, hs, part, isAgg, run_underlying Tryd.underlying49, hv]
    intro h; omega

def fours : List Nat → List Nat
  | [] => []
  | x :: l => Sha.four x ++ fours l
theorem fours_app (l : List Nat) (x : Nat) : fours (l ++ [x]) = fours l ++ Sha.four x := by
  induction l with
  | nil => simp [fours]
  | cons y l ih => simp [fours, ih]
theorem fours_len (l : List Nat) : (fours l).length = 4 * l.length := by
  induction l with
  | nil => rfl
  | cons y l ih => simp [fours, ih, Sha.four]; omega

structure BoW (w wr : World) (l : List Nat) : Prop where
  out : wr.heap[w.heap.size + 1]? = some (.cells (bfill 32 []) 41 (0, 0))
  row : wr.heap[w.heap.size + 2]? = some (.cells (bfill 32 l) 41 (0, 0))
  below : Below w.heap.size w wr

theorem BoW.start (w : World) (o : Obj) : BoW w (((w.alloc o).alloc (Obj.cells (bfill 32 []) 41)).alloc (Obj.cells (bfill 32 []) 41)) [] := by
  refine ⟨?_, ?_, ?_⟩
  · rw [heap_alloc_old _ _ (by simp), show w.heap.size + 1 = (w.alloc o).heap.size by simp, heap_alloc_new]
  · rw [show w.heap.size + 2 = ((w.alloc o).alloc (Obj.cells (bfill 32 []) 41)).heap.size by simp, heap_alloc_new]
  · exact (((Below.refl _ w).alloc (Nat.le_refl _) _).alloc (by simp) _).alloc (by simp; omega) _

theorem BoW.put {w wr : World} {l : List Nat} (h : BoW w wr l) (x : Nat) (hl : l.length + 4 ≤ 32) : BoW w (wr.setRow (w.heap.size + 2) (put4 (bfill 32 l) l.length x)) (l ++ Sha.four x) := by
  refine ⟨?_, ?_, ?_⟩
  · rw [setRow_other _ _ _ _ (by omega)]; exact h.out
  · rw [setRow_heap _ _ _ _ _ _ h.row, bfill_put4 _ hl]
  · exact below_setRow h.below (by omega) _

set_option maxHeartbeats 1000000 in
set_option maxRecDepth 100000 in
theorem bytesOf_any (a b c d e f g h : Nat) (w : World) (ha : a < 4294967296) (hb : b < 4294967296) (hc : c < 4294967296) (hd : d < 4294967296) (he : e < 4294967296) (hf : f < 4294967296) (hg : g < 4294967296) (hh : h < 4294967296) :
    Calls Tryd.prog 62 #[.agg #[vw a, vw b, vw c, vw d, vw e, vw f, vw g, vw h]] w fun x w' => x = .returned (.agg ((fours [a, b, c, d, e, f, g, h]).map vb).toArray) ∧ Below w.heap.size w w' := by
  obtain ⟨ls, hls⟩ : ∃ ls, ls = [a, b, c, d, e, f, g, h] := ⟨_, rfl⟩
  have hl8 : ls.length = 8 := by rw [hls]; rfl
  have HLT : Hid (∀ x ∈ ls, x < 4294967296) := by rw [hls]; intro x hx; simp at hx; rcases hx with rfl | rfl | rfl | rfl | rfl | rfl | rfl | rfl <;> assumption
  rw [show (#[vw a, vw b, vw c, vw d, vw e, vw f, vw g, vw h] : Array Value) = (ls.map vw).toArray by rw [hls]; rfl, ← hls]
  clear ha hb hc hd he hf hg hh hls
  obtain ⟨va, hva⟩ : ∃ va, va = (ls.map vw).toArray := ⟨_, rfl⟩
  have HVA : Hid (∀ i, i < 8 → va[i]? = some (.int .u32 ((ls.getD i 0 : Nat) : Int))) := fun i hi => by
    rw [hva]; simp [List.getD, hl8, hi]; rfl
  have hvs : Hid ((Tryd.prog.info? 94).map (·.size) = some va.size) := by show _ = _; rw [hva, show ((ls.map vw).toArray).size = 8 by simp [hl8]]; kernel_rfl
  rw [← hva]
  clear hva
  go_enter Tryd.func62, Tryd.ntmps62
  go_wp2_with (refine wpList_load_row rfl 94 (.tmp 1) rfl w.heap.size rfl 94 va (0, 0) (.array 8 49) (by rw [heap_alloc_old _ _ (by simp; omega), heap_alloc_old _ _ (by simp), heap_alloc_new]) Tryd.underlying94 rfl hvs.out ?_)
  go_loopw [7] (fun i wr => ∃ (k : Nat), k ≤ 8 ∧ i = .int .i64 k ∧ BoW w wr (fours (ls.take k))) (fun i _ => 8 - (intOf i).toNat)
  case atStart => exact ⟨0, by omega, rfl, BoW.start w _⟩
  case round =>
    obtain ⟨k, hk, rfl, HS⟩ := hrel
    by_cases hlt : k < 8
    · have hkI : (k : Int) < 8 := by omega
      obtain ⟨x, hx, hxv⟩ : ∃ x, x = ls.getD k 0 ∧ va[k]? = some (.int .u32 (x : Int)) := ⟨_, rfl, HVA.out k hlt⟩
      have hxl : x < 4294967296 := by rw [hx]; exact HLT.out _ (by simp [List.getD, List.getElem?_eq_getElem (show k < ls.length by omega)])
      have hix := index94 hlt hxv
      have hsl := slice41 (w.heap.size + 2) 0 (4 * k) (by omega)
      rw [show ((4 * k : Nat) : Int) = 4 * (k : Int) by omega] at hsl
      have hfl : (fours (ls.take k)).length = 4 * k := by rw [fours_len]; simp; omega
      have C : Hid (Calls Tryd.prog 61 #[.slice (some ⟨w.heap.size + 2, 4 * k, none⟩) (32 - 4 * k) (32 - 4 * k), .int .u32 (x : Int)] wr fun e w' => e = .returned (.tuple #[]) ∧ w' = wr.setRow (w.heap.size + 2) (put4 (bfill 32 (fours (ls.take k))) (4 * k) x)) :=
        putWord_any _ _ _ _ x _ 41 wr hxl (by omega) HS.row (by rw [bfill_size (by omega)]; omega)
      have HN : Hid (BoW w (wr.setRow (w.heap.size + 2) (put4 (bfill 32 (fours (ls.take k))) (4 * k) x)) (fours (ls.take (k + 1)))) := by
        have h := HS.put x (by omega)
        rw [hfl] at h
        rw [List.take_succ_eq_append_getElem (show k < ls.length by omega), fours_app, show ls[k]'(by omega) = x by rw [hx]; simp [List.getD, List.getElem?_eq_getElem (show k < ls.length by omega)]]
        exact h
      clear hfl HS hx hl8
      go_wp2_with (go_at_call 61; refine C.out.mono ?_; rintro e w1 ⟨rfl, rfl⟩)
      go_roundw
      case rel => exact ⟨k + 1, by omega, by go_num, HN.out⟩
      case measure => simp [intOf]; omega
    · have hkI : ¬ (k : Int) < 8 := by omega
      obtain rfl : k = 8 := by omega
      rw [List.take_of_length_le (by omega)] at HS
      obtain ⟨c, hc⟩ : ∃ c, c = ((fours ls).map vb).toArray := ⟨_, rfl⟩
      have hcs : c.size = 32 := by rw [hc]; simp [fours_len, hl8]
      have hrow := HS.row
      rw [bfill_full (by rw [fours_len, hl8]), ← hc] at hrow
      have HF : Hid (wr.heap[w.heap.size + 2]? = some (.cells c 41 (0, 0)) ∧ wr.heap[w.heap.size + 1]? = some (.cells (bfill 32 []) 41 (0, 0)) ∧ (Tryd.prog.info? 41).map (·.size) = some c.size ∧ c.all (·.oneCell') = true ∧ (bfill 32 []).size = c.size) :=
        ⟨hrow, HS.out, by rw [hcs]; kernel_rfl, by rw [hc]; exact all_vb _, by rw [bfill_size (by simp), hcs]⟩
      have HRS : Hid ((wr.setRow (w.heap.size + 1) c).heap[w.heap.size + 1]? = some (.cells c 41 (0, 0))) := setRow_heap _ _ _ _ _ _ HS.out
      have HBL : Hid (Below w.heap.size w (wr.setRow (w.heap.size + 1) c)) := below_setRow HS.below (by omega) c
      have HCE : Hid (c = ((fours ls).map vb).toArray) := hc
      clear hrow HS hc hcs hl8 HVA hvs
      go_wp2_with (first | refine wpList_load_row rfl 41 (.tmp 3) rfl (w.heap.size + 2) rfl 41 c (0, 0) (.array 32 5) HF.out.1 Tryd.underlying41 rfl HF.out.2.2.1 ?_ | refine wpList_store_row rfl 41 (.tmp 2) (.tmp 17) rfl (w.heap.size + 1) c rfl rfl 41 (bfill 32 []) HF.out.2.1 HF.out.2.2.1 HF.out.2.2.2.2 HF.out.2.2.2.1 ?_)
      refine bodyPost_ret (results_cell_row (P := Tryd.prog) rfl _ _ (w.heap.size + 1) 41 c (0, 0) (.array 32 5) rfl HRS.out Tryd.underlying41 rfl HF.out.2.2.1) rfl ⟨by rw [HCE.out], HBL.out⟩
end Go.Proofs.YtmglopfjjbnfiaaDoor
