/-
  The reference's Then (16) by contract.
-/
import Derived.Test.YthioflehpifflaaGreatDoorMrg
namespace Go.Proofs.YthioflehpifflaaGreatDoor
open Go.RowKit

theorem backTA : backB (opsAt Tryz.f16 12) = true := by kernel_rfl
theorem dstTA : dstB (opsAt Tryz.f16 12) 120 = true := by kernel_rfl
theorem sizeTA : (opsAt Tryz.f16 12).size = 12 := by kernel_rfl
theorem freeTA0 : freeB (opsAt Tryz.f16 12) 0 = true := by kernel_rfl
theorem freeTA1 : freeB (opsAt Tryz.f16 12) 1 = true := by kernel_rfl
theorem freeTA8 : freeB (opsAt Tryz.f16 12) 8 = true := by kernel_rfl
theorem freeTA9 : freeB (opsAt Tryz.f16 12) 9 = true := by kernel_rfl
theorem sTA_0 : say (opsAt Tryz.f16 12) 0 = some (some 37, .move (.tmp 0), none) := by kernel_rfl
theorem dTA_0 : slotB (opsAt Tryz.f16 12) 0 = some 37 := by kernel_rfl
theorem sTA_1 : say (opsAt Tryz.f16 12) 1 = some (some 38, .move (.tmp 8), none) := by kernel_rfl
theorem dTA_1 : slotB (opsAt Tryz.f16 12) 1 = some 38 := by kernel_rfl
theorem sTA_2 : say (opsAt Tryz.f16 12) 2 = some (some 39, .indexAddr 22 (.tmp 37) (.tmp 38), none) := by kernel_rfl
theorem dTA_2 : slotB (opsAt Tryz.f16 12) 2 = some 39 := by kernel_rfl
theorem sTA_3 : say (opsAt Tryz.f16 12) 3 = some (some 40, .fieldAddr 55 (.tmp 39) 0, none) := by kernel_rfl
theorem dTA_3 : slotB (opsAt Tryz.f16 12) 3 = some 40 := by kernel_rfl
theorem sTA_4 : say (opsAt Tryz.f16 12) 4 = some (some 41, .load 9 (.tmp 40), none) := by kernel_rfl
theorem dTA_4 : slotB (opsAt Tryz.f16 12) 4 = some 41 := by kernel_rfl
theorem sTA_5 : say (opsAt Tryz.f16 12) 5 = some (some 42, .move (.tmp 1), none) := by kernel_rfl
theorem dTA_5 : slotB (opsAt Tryz.f16 12) 5 = some 42 := by kernel_rfl
theorem sTA_6 : say (opsAt Tryz.f16 12) 6 = some (some 43, .move (.tmp 9), none) := by kernel_rfl
theorem dTA_6 : slotB (opsAt Tryz.f16 12) 6 = some 43 := by kernel_rfl
theorem sTA_7 : say (opsAt Tryz.f16 12) 7 = some (some 44, .indexAddr 22 (.tmp 42) (.tmp 43), none) := by kernel_rfl
theorem dTA_7 : slotB (opsAt Tryz.f16 12) 7 = some 44 := by kernel_rfl
theorem sTA_8 : say (opsAt Tryz.f16 12) 8 = some (some 45, .fieldAddr 55 (.tmp 44) 0, none) := by kernel_rfl
theorem dTA_8 : slotB (opsAt Tryz.f16 12) 8 = some 45 := by kernel_rfl
theorem sTA_9 : say (opsAt Tryz.f16 12) 9 = some (some 46, .load 9 (.tmp 45), none) := by kernel_rfl
theorem dTA_9 : slotB (opsAt Tryz.f16 12) 9 = some 46 := by kernel_rfl
theorem sTA_10 : say (opsAt Tryz.f16 12) 10 = some (some 47, .call { callee := .value (.func 55), args := #[.tmp 41, .tmp 46], argTypes := #[9, 9] }, none) := by kernel_rfl
theorem dTA_10 : slotB (opsAt Tryz.f16 12) 10 = some 47 := by kernel_rfl
theorem sTA_11 : say (opsAt Tryz.f16 12) 11 = some (some 10, .assign (.tmp 47), none) := by kernel_rfl
theorem dTA_11 : slotB (opsAt Tryz.f16 12) 11 = some 10 := by kernel_rfl
def VTA (ga oa n cp i gb ob m cq j : Nat) (x y : Cd) (cm : Int) : Nat → Value
  | 0 => .slice (some ⟨ga, oa, none⟩) n cp
  | 1 => .int .i64 (i : Int)
  | 2 => .pointer (some ⟨ga, oa + i * 71, none⟩)
  | 3 => .pointer (some ⟨ga, oa + i * 71, none⟩)
  | 4 => .string x.path
  | 5 => .slice (some ⟨gb, ob, none⟩) m cq
  | 6 => .int .i64 (j : Int)
  | 7 => .pointer (some ⟨gb, ob + j * 71, none⟩)
  | 8 => .pointer (some ⟨gb, ob + j * 71, none⟩)
  | 9 => .string y.path
  | 10 => .int .i64 cm
  | 11 => .int .i64 cm
  | _ => undef
set_option maxHeartbeats 8000000 in
set_option maxRecDepth 100000 in
theorem regTA (ga oa n cp i gb ob m cq j : Nat) (x y : Cd) (cm : Int)  (t0 : Array Value) (wr : World) {Q : Exit → Act → World → Prop} (ht : t0.size = 120) (h0 : t0.getD 0 undef = .slice (some ⟨ga, oa, none⟩) n cp) (h1 : t0.getD 1 undef = .slice (some ⟨gb, ob, none⟩) m cq) (h8 : t0.getD 8 undef = .int .i64 (i : Int)) (h9 : t0.getD 9 undef = .int .i64 (j : Int))
    (hi : i < n) (hj : j < m) (lx : Lies wr ga (oa + i * 71) (cc x)) (ly : Lies wr gb (ob + j * 71) (cc y)) (sx : x.path.size ≤ 1048576) (sy : y.path.size ≤ 1048576) (hcm : cmpL (tl x.path) (tl y.path) = cm)
    (hQ : ∀ w, Below wr.heap.size wr w → Q .normal ⟨fold (opsAt Tryz.f16 12) (VTA ga oa n cp i gb ob m cq j x y cm) t0 12, []⟩ w) : (Code.region 12 (opsAt Tryz.f16 12) true).wp Tryz.prog Q ⟨t0, []⟩ wr := by
  have hB : dstB (opsAt Tryz.f16 12) t0.size = true := by rw [ht]; exact dstTA
  have iI : (i : Int) < (n : Int) := by omega
  have i0 : (0 : Int) ≤ (i : Int) := by omega
  have jI : (j : Int) < (m : Int) := by omega
  have j0 : (0 : Int) ≤ (j : Int) := by omega
  have h0M : Below wr.heap.size wr wr.drew := (Below.refl _ wr).drew
  refine inv_region (by kernel_rfl) (IV (opsAt Tryz.f16 12) (VTA ga oa n cp i gb ob m cq j x y cm) t0 (fun _ w => Below wr.heap.size wr w)) backTA ⟨t0, rfl, ⟨rfl, fun _ _ => rfl, fun _ _ _ _ _ h => by cases h⟩, h0M⟩ ?_ ?_
  rotate_left 1
  · rintro done a w ⟨t, rfl, hS, hw⟩ hall
    rw [hS.end hB hall, sizeTA]
    exact hQ w hw
  · rintro jz op done a w ho ⟨t, rfl, hS, hw⟩ hnd hdep hcl
    have e0 : t[0]?.getD undef = .slice (some ⟨ga, oa, none⟩) n cp := (hS.old freeTA0).trans h0
    have e1 : t[1]?.getD undef = .slice (some ⟨gb, ob, none⟩) m cq := (hS.old freeTA1).trans h1
    have e8 : t[8]?.getD undef = .int .i64 (i : Int) := (hS.old freeTA8).trans h8
    have e9 : t[9]?.getD undef = .int .i64 (j : Int) := (hS.old freeTA9).trans h9
    have hlt : jz < 12 := by rw [← sizeTA]; exact (Array.getElem?_eq_some_iff.1 ho).1
    match jz, hlt, ho, hnd, hdep with
    | 0, _, ho, hnd, hdep =>
      obtain ⟨hd, hop, hgd⟩ := say_of sTA_0 ho
      refine iv_valG hB ho (wanted_none hgd) hd hS hw ?_
      unfold execOp
      simp only [hop]
      simp [e0, VTA, go_sem]
    | 1, _, ho, hnd, hdep =>
      obtain ⟨hd, hop, hgd⟩ := say_of sTA_1 ho
      refine iv_valG hB ho (wanted_none hgd) hd hS hw ?_
      unfold execOp
      simp only [hop]
      simp [e8, VTA, go_sem]
    | 2, _, ho, hnd, hdep =>
      obtain ⟨hd, hop, hgd⟩ := say_of sTA_2 ho
      have x37 : t[37]?.getD undef = _ := hS.at dTA_0 (waits (j := 0) (by kernel_rfl) ho hdep)
      simp only [VTA] at x37
      have x38 : t[38]?.getD undef = _ := hS.at dTA_1 (waits (j := 1) (by kernel_rfl) ho hdep)
      simp only [VTA] at x38
      refine iv_valG hB ho (wanted_none hgd) hd hS hw ?_
      unfold execOp
      simp only [hop]
      simp [x37, x38, iI, i0, addr_add, VTA, go_sem]
    | 3, _, ho, hnd, hdep =>
      obtain ⟨hd, hop, hgd⟩ := say_of sTA_3 ho
      have x39 : t[39]?.getD undef = _ := hS.at dTA_2 (waits (j := 2) (by kernel_rfl) ho hdep)
      simp only [VTA] at x39
      refine iv_valG hB ho (wanted_none hgd) hd hS hw ?_
      unfold execOp
      simp only [hop]
      simp [x39, VTA, go_sem]
    | 4, _, ho, hnd, hdep =>
      obtain ⟨hd, hop, hgd⟩ := say_of sTA_4 ho
      have x40 : t[40]?.getD undef = _ := hS.at dTA_3 (waits (j := 3) (by kernel_rfl) ho hdep)
      simp only [VTA] at x40
      refine iv_valG hB ho (wanted_none hgd) hd hS hw ?_
      have cP := ((lx.below hw).path)
      unfold execOp
      simp only [hop]
      simp [x40, cP, VTA, go_sem]
    | 5, _, ho, hnd, hdep =>
      obtain ⟨hd, hop, hgd⟩ := say_of sTA_5 ho
      refine iv_valG hB ho (wanted_none hgd) hd hS hw ?_
      unfold execOp
      simp only [hop]
      simp [e1, VTA, go_sem]
    | 6, _, ho, hnd, hdep =>
      obtain ⟨hd, hop, hgd⟩ := say_of sTA_6 ho
      refine iv_valG hB ho (wanted_none hgd) hd hS hw ?_
      unfold execOp
      simp only [hop]
      simp [e9, VTA, go_sem]
    | 7, _, ho, hnd, hdep =>
      obtain ⟨hd, hop, hgd⟩ := say_of sTA_7 ho
      have x42 : t[42]?.getD undef = _ := hS.at dTA_5 (waits (j := 5) (by kernel_rfl) ho hdep)
      simp only [VTA] at x42
      have x43 : t[43]?.getD undef = _ := hS.at dTA_6 (waits (j := 6) (by kernel_rfl) ho hdep)
      simp only [VTA] at x43
      refine iv_valG hB ho (wanted_none hgd) hd hS hw ?_
      unfold execOp
      simp only [hop]
      simp [x42, x43, jI, j0, addr_add, VTA, go_sem]
    | 8, _, ho, hnd, hdep =>
      obtain ⟨hd, hop, hgd⟩ := say_of sTA_8 ho
      have x44 : t[44]?.getD undef = _ := hS.at dTA_7 (waits (j := 7) (by kernel_rfl) ho hdep)
      simp only [VTA] at x44
      refine iv_valG hB ho (wanted_none hgd) hd hS hw ?_
      unfold execOp
      simp only [hop]
      simp [x44, VTA, go_sem]
    | 9, _, ho, hnd, hdep =>
      obtain ⟨hd, hop, hgd⟩ := say_of sTA_9 ho
      have x45 : t[45]?.getD undef = _ := hS.at dTA_8 (waits (j := 8) (by kernel_rfl) ho hdep)
      simp only [VTA] at x45
      refine iv_valG hB ho (wanted_none hgd) hd hS hw ?_
      have cP := ((ly.below hw).path)
      unfold execOp
      simp only [hop]
      simp [x45, cP, VTA, go_sem]
    | 10, _, ho, hnd, hdep =>
      obtain ⟨hd, hop, hgd⟩ := say_of sTA_10 ho
      have x41 : t[41]?.getD undef = _ := hS.at dTA_4 (waits (j := 4) (by kernel_rfl) ho hdep)
      simp only [VTA] at x41
      have x46 : t[46]?.getD undef = _ := hS.at dTA_9 (waits (j := 9) (by kernel_rfl) ho hdep)
      simp only [VTA] at x46
      refine iv_callG 55 #[.string x.path, .string y.path] hB ho (wanted_none hgd) hd hS ?_ ?_
      · skip
        unfold execOp
        simp only [hop]
        simp [x41, x46, go_sem]
      · exact (refCompare_any x.path y.path w sx sy).mono fun e w2 h => ⟨by rw [h.1, hcm]; rfl, Below.up hw h.2⟩
    | 11, _, ho, hnd, hdep =>
      obtain ⟨hd, hop, hgd⟩ := say_of sTA_11 ho
      have x47 : t[47]?.getD undef = _ := hS.at dTA_10 (waits (j := 10) (by kernel_rfl) ho hdep)
      simp only [VTA] at x47
      refine iv_valG hB ho (wanted_none hgd) hd hS hw ?_
      unfold execOp
      simp only [hop]
      simp [x47, VTA, go_sem]
theorem foldTA (ga oa n cp i gb ob m cq j : Nat) (x y : Cd) (cm : Int) (t0 : Array Value) : fold (opsAt Tryz.f16 12) (VTA ga oa n cp i gb ob m cq j x y cm) t0 12 = ((((((((((((t0.setIfInBounds 37 (.slice (some ⟨ga, oa, none⟩) n cp)).setIfInBounds 38 (.int .i64 (i : Int))).setIfInBounds 39 (.pointer (some ⟨ga, oa + i * 71, none⟩))).setIfInBounds 40 (.pointer (some ⟨ga, oa + i * 71, none⟩))).setIfInBounds 41 (.string x.path)).setIfInBounds 42 (.slice (some ⟨gb, ob, none⟩) m cq)).setIfInBounds 43 (.int .i64 (j : Int))).setIfInBounds 44 (.pointer (some ⟨gb, ob + j * 71, none⟩))).setIfInBounds 45 (.pointer (some ⟨gb, ob + j * 71, none⟩))).setIfInBounds 46 (.string y.path)).setIfInBounds 47 (.int .i64 cm)).setIfInBounds 10 (.int .i64 cm)) := by kernel_rfl
theorem backTB : backB (opsAt Tryz.f16 19) = true := by kernel_rfl
theorem dstTB : dstB (opsAt Tryz.f16 19) 120 = true := by kernel_rfl
theorem sizeTB : (opsAt Tryz.f16 19).size = 15 := by kernel_rfl
theorem freeTB0 : freeB (opsAt Tryz.f16 19) 0 = true := by kernel_rfl
theorem freeTB1 : freeB (opsAt Tryz.f16 19) 1 = true := by kernel_rfl
theorem freeTB8 : freeB (opsAt Tryz.f16 19) 8 = true := by kernel_rfl
theorem freeTB9 : freeB (opsAt Tryz.f16 19) 9 = true := by kernel_rfl
theorem sTB_0 : say (opsAt Tryz.f16 19) 0 = some (some 70, .move (.tmp 7), none) := by kernel_rfl
theorem dTB_0 : slotB (opsAt Tryz.f16 19) 0 = some 70 := by kernel_rfl
theorem sTB_1 : say (opsAt Tryz.f16 19) 1 = some (some 71, .move (.tmp 70), none) := by kernel_rfl
theorem dTB_1 : slotB (opsAt Tryz.f16 19) 1 = some 71 := by kernel_rfl
theorem sTB_2 : say (opsAt Tryz.f16 19) 2 = some (some 72, .move (.tmp 0), some (1, false)) := by kernel_rfl
theorem dTB_2 : slotB (opsAt Tryz.f16 19) 2 = some 72 := by kernel_rfl
theorem sTB_3 : say (opsAt Tryz.f16 19) 3 = some (some 73, .move (.tmp 8), some (1, false)) := by kernel_rfl
theorem dTB_3 : slotB (opsAt Tryz.f16 19) 3 = some 73 := by kernel_rfl
theorem sTB_4 : say (opsAt Tryz.f16 19) 4 = some (some 74, .indexAddr 22 (.tmp 72) (.tmp 73), some (1, false)) := by kernel_rfl
theorem dTB_4 : slotB (opsAt Tryz.f16 19) 4 = some 74 := by kernel_rfl
theorem sTB_5 : say (opsAt Tryz.f16 19) 5 = some (some 75, .fieldAddr 55 (.tmp 74) 2, some (1, false)) := by kernel_rfl
theorem dTB_5 : slotB (opsAt Tryz.f16 19) 5 = some 75 := by kernel_rfl
theorem sTB_6 : say (opsAt Tryz.f16 19) 6 = some (some 76, .load 53 (.tmp 75), some (1, false)) := by kernel_rfl
theorem dTB_6 : slotB (opsAt Tryz.f16 19) 6 = some 76 := by kernel_rfl
theorem sTB_7 : say (opsAt Tryz.f16 19) 7 = some (some 77, .move (.tmp 1), some (1, false)) := by kernel_rfl
theorem dTB_7 : slotB (opsAt Tryz.f16 19) 7 = some 77 := by kernel_rfl
theorem sTB_8 : say (opsAt Tryz.f16 19) 8 = some (some 78, .move (.tmp 9), some (1, false)) := by kernel_rfl
theorem dTB_8 : slotB (opsAt Tryz.f16 19) 8 = some 78 := by kernel_rfl
theorem sTB_9 : say (opsAt Tryz.f16 19) 9 = some (some 79, .indexAddr 22 (.tmp 77) (.tmp 78), some (1, false)) := by kernel_rfl
theorem dTB_9 : slotB (opsAt Tryz.f16 19) 9 = some 79 := by kernel_rfl
theorem sTB_10 : say (opsAt Tryz.f16 19) 10 = some (some 80, .fieldAddr 55 (.tmp 79) 1, some (1, false)) := by kernel_rfl
theorem dTB_10 : slotB (opsAt Tryz.f16 19) 10 = some 80 := by kernel_rfl
theorem sTB_11 : say (opsAt Tryz.f16 19) 11 = some (some 81, .load 53 (.tmp 80), some (1, false)) := by kernel_rfl
theorem dTB_11 : slotB (opsAt Tryz.f16 19) 11 = some 81 := by kernel_rfl
theorem sTB_12 : say (opsAt Tryz.f16 19) 12 = some (some 82, .binOp .neq 53 (.tmp 76) (.tmp 81) 53, some (1, false)) := by kernel_rfl
theorem dTB_12 : slotB (opsAt Tryz.f16 19) 12 = some 82 := by kernel_rfl
theorem sTB_13 : say (opsAt Tryz.f16 19) 13 = some (some 83, .pick (.tmp 71) (.const (.bool true)) (.tmp 82), none) := by kernel_rfl
theorem dTB_13 : slotB (opsAt Tryz.f16 19) 13 = some 83 := by kernel_rfl
theorem sTB_14 : say (opsAt Tryz.f16 19) 14 = some (some 7, .assign (.tmp 83), none) := by kernel_rfl
theorem dTB_14 : slotB (opsAt Tryz.f16 19) 14 = some 7 := by kernel_rfl
def VTB (ga oa n cp i gb ob m cq j : Nat) (YN YO : Array Value) (b : Bool) : Nat → Value
  | 0 => .bool false
  | 1 => .bool false
  | 2 => .slice (some ⟨ga, oa, none⟩) n cp
  | 3 => .int .i64 (i : Int)
  | 4 => .pointer (some ⟨ga, oa + i * 71, none⟩)
  | 5 => .pointer (some ⟨ga, oa + i * 71 + 36, none⟩)
  | 6 => .agg YN
  | 7 => .slice (some ⟨gb, ob, none⟩) m cq
  | 8 => .int .i64 (j : Int)
  | 9 => .pointer (some ⟨gb, ob + j * 71, none⟩)
  | 10 => .pointer (some ⟨gb, ob + j * 71 + 1, none⟩)
  | 11 => .agg YO
  | 12 => .bool b
  | 13 => .bool b
  | 14 => .bool b
  | _ => undef
set_option maxHeartbeats 8000000 in
set_option maxRecDepth 100000 in
theorem regTB (ga oa n cp i gb ob m cq j : Nat) (YN YO : Array Value) (b : Bool)  (t0 : Array Value) (wr : World) {Q : Exit → Act → World → Prop} (ht : t0.size = 120) (h0 : t0.getD 0 undef = .slice (some ⟨ga, oa, none⟩) n cp) (h1 : t0.getD 1 undef = .slice (some ⟨gb, ob, none⟩) m cq) (h8 : t0.getD 8 undef = .int .i64 (i : Int)) (h9 : t0.getD 9 undef = .int .i64 (j : Int)) (h7 : t0.getD 7 undef = .bool false)
    (x y : Cd) (hi : i < n) (hj : j < m) (lx : Lies wr ga (oa + i * 71) (cc x)) (ly : Lies wr gb (ob + j * 71) (cc y)) (hN : YN = (vx x.new).toArray) (hO : YO = (vx y.old).toArray) (hb : (!decide (x.new = y.old)) = b)
    (hQ : ∀ w, Below wr.heap.size wr w → Q .normal ⟨fold (opsAt Tryz.f16 19) (VTB ga oa n cp i gb ob m cq j YN YO b) t0 15, []⟩ w) : (Code.region 19 (opsAt Tryz.f16 19) true).wp Tryz.prog Q ⟨t0, []⟩ wr := by
  have hB : dstB (opsAt Tryz.f16 19) t0.size = true := by rw [ht]; exact dstTB
  have iI : (i : Int) < (n : Int) := by omega
  have i0 : (0 : Int) ≤ (i : Int) := by omega
  have jI : (j : Int) < (m : Int) := by omega
  have j0 : (0 : Int) ≤ (j : Int) := by omega
  have h0M : Below wr.heap.size wr wr.drew := (Below.refl _ wr).drew
  have sN : YN.size = 35 := by rw [hN]; simp [vx_len]
  have sO : YO.size = 35 := by rw [hO]; simp [vx_len]
  have lN : Lies wr ga (oa + i * 71 + 36) YN := by rw [hN]; exact lx.new
  have lO : Lies wr gb (ob + j * 71 + 1) YO := by rw [hO]; exact ly.old
  refine inv_region (by kernel_rfl) (IV (opsAt Tryz.f16 19) (VTB ga oa n cp i gb ob m cq j YN YO b) t0 (fun _ w => Below wr.heap.size wr w)) backTB ⟨t0, rfl, ⟨rfl, fun _ _ => rfl, fun _ _ _ _ _ h => by cases h⟩, h0M⟩ ?_ ?_
  rotate_left 1
  · rintro done a w ⟨t, rfl, hS, hw⟩ hall
    rw [hS.end hB hall, sizeTB]
    exact hQ w hw
  · rintro jz op done a w ho ⟨t, rfl, hS, hw⟩ hnd hdep hcl
    have e0 : t[0]?.getD undef = .slice (some ⟨ga, oa, none⟩) n cp := (hS.old freeTB0).trans h0
    have e1 : t[1]?.getD undef = .slice (some ⟨gb, ob, none⟩) m cq := (hS.old freeTB1).trans h1
    have e8 : t[8]?.getD undef = .int .i64 (i : Int) := (hS.old freeTB8).trans h8
    have e9 : t[9]?.getD undef = .int .i64 (j : Int) := (hS.old freeTB9).trans h9
    have hlt : jz < 15 := by rw [← sizeTB]; exact (Array.getElem?_eq_some_iff.1 ho).1
    match jz, hlt, ho, hnd, hdep with
    | 0, _, ho, hnd, hdep =>
      obtain ⟨hd, hop, hgd⟩ := say_of sTB_0 ho
      have yt1 : done 1 = false := not_yet (k := 0) (j := 1) (by kernel_rfl) hcl hnd
      have yt13 : done 13 = false := not_yet (k := 1) (j := 13) (by kernel_rfl) hcl yt1
      have yt14 : done 14 = false := not_yet (k := 13) (j := 14) (by kernel_rfl) hcl yt13
      have e7 : t[7]?.getD undef = _ := (hS.yet hB dTB_14 yt14).trans h7
      refine iv_valG hB ho (wanted_none hgd) hd hS hw ?_
      unfold execOp
      simp only [hop]
      simp [e7, VTB, go_sem]
    | 1, _, ho, hnd, hdep =>
      obtain ⟨hd, hop, hgd⟩ := say_of sTB_1 ho
      have x70 : t[70]?.getD undef = _ := hS.at dTB_0 (waits (j := 0) (by kernel_rfl) ho hdep)
      simp only [VTB] at x70
      refine iv_valG hB ho (wanted_none hgd) hd hS hw ?_
      unfold execOp
      simp only [hop]
      simp [x70, VTB, go_sem]
    | 2, _, ho, hnd, hdep =>
      obtain ⟨hd, hop, hgd⟩ := say_of sTB_2 ho
      have gx : t[71]?.getD undef = _ := hS.at dTB_1 (waits (j := 1) (by kernel_rfl) ho hdep)
      simp only [VTB] at gx
      refine iv_valG hB ho (wanted_yes hgd dTB_1 gx) hd hS hw ?_
      unfold execOp
      simp only [hop]
      simp [e0, VTB, go_sem]
    | 3, _, ho, hnd, hdep =>
      obtain ⟨hd, hop, hgd⟩ := say_of sTB_3 ho
      have gx : t[71]?.getD undef = _ := hS.at dTB_1 (waits (j := 1) (by kernel_rfl) ho hdep)
      simp only [VTB] at gx
      refine iv_valG hB ho (wanted_yes hgd dTB_1 gx) hd hS hw ?_
      unfold execOp
      simp only [hop]
      simp [e8, VTB, go_sem]
    | 4, _, ho, hnd, hdep =>
      obtain ⟨hd, hop, hgd⟩ := say_of sTB_4 ho
      have gx : t[71]?.getD undef = _ := hS.at dTB_1 (waits (j := 1) (by kernel_rfl) ho hdep)
      simp only [VTB] at gx
      have x72 : t[72]?.getD undef = _ := hS.at dTB_2 (waits (j := 2) (by kernel_rfl) ho hdep)
      simp only [VTB] at x72
      have x73 : t[73]?.getD undef = _ := hS.at dTB_3 (waits (j := 3) (by kernel_rfl) ho hdep)
      simp only [VTB] at x73
      refine iv_valG hB ho (wanted_yes hgd dTB_1 gx) hd hS hw ?_
      unfold execOp
      simp only [hop]
      simp [x72, x73, iI, i0, addr_add, VTB, go_sem]
    | 5, _, ho, hnd, hdep =>
      obtain ⟨hd, hop, hgd⟩ := say_of sTB_5 ho
      have gx : t[71]?.getD undef = _ := hS.at dTB_1 (waits (j := 1) (by kernel_rfl) ho hdep)
      simp only [VTB] at gx
      have x74 : t[74]?.getD undef = _ := hS.at dTB_4 (waits (j := 4) (by kernel_rfl) ho hdep)
      simp only [VTB] at x74
      refine iv_valG hB ho (wanted_yes hgd dTB_1 gx) hd hS hw ?_
      unfold execOp
      simp only [hop]
      simp [x74, VTB, go_sem]
    | 6, _, ho, hnd, hdep =>
      obtain ⟨hd, hop, hgd⟩ := say_of sTB_6 ho
      have gx : t[71]?.getD undef = _ := hS.at dTB_1 (waits (j := 1) (by kernel_rfl) ho hdep)
      simp only [VTB] at gx
      have x75 : t[75]?.getD undef = _ := hS.at dTB_5 (waits (j := 5) (by kernel_rfl) ho hdep)
      simp only [VTB] at x75
      refine iv_valG hB ho (wanted_yes hgd dTB_1 gx) hd hS hw ?_
      exact exec_load53 (a := ⟨t, []⟩) _ hop ga (oa + i * 71 + 36) (by show t.getD 75 undef = _; rw [Array.getD_eq_getD_getElem?]; exact x75) _ sN (lN.below hw)
    | 7, _, ho, hnd, hdep =>
      obtain ⟨hd, hop, hgd⟩ := say_of sTB_7 ho
      have gx : t[71]?.getD undef = _ := hS.at dTB_1 (waits (j := 1) (by kernel_rfl) ho hdep)
      simp only [VTB] at gx
      refine iv_valG hB ho (wanted_yes hgd dTB_1 gx) hd hS hw ?_
      unfold execOp
      simp only [hop]
      simp [e1, VTB, go_sem]
    | 8, _, ho, hnd, hdep =>
      obtain ⟨hd, hop, hgd⟩ := say_of sTB_8 ho
      have gx : t[71]?.getD undef = _ := hS.at dTB_1 (waits (j := 1) (by kernel_rfl) ho hdep)
      simp only [VTB] at gx
      refine iv_valG hB ho (wanted_yes hgd dTB_1 gx) hd hS hw ?_
      unfold execOp
      simp only [hop]
      simp [e9, VTB, go_sem]
    | 9, _, ho, hnd, hdep =>
      obtain ⟨hd, hop, hgd⟩ := say_of sTB_9 ho
      have gx : t[71]?.getD undef = _ := hS.at dTB_1 (waits (j := 1) (by kernel_rfl) ho hdep)
      simp only [VTB] at gx
      have x77 : t[77]?.getD undef = _ := hS.at dTB_7 (waits (j := 7) (by kernel_rfl) ho hdep)
      simp only [VTB] at x77
      have x78 : t[78]?.getD undef = _ := hS.at dTB_8 (waits (j := 8) (by kernel_rfl) ho hdep)
      simp only [VTB] at x78
      refine iv_valG hB ho (wanted_yes hgd dTB_1 gx) hd hS hw ?_
      unfold execOp
      simp only [hop]
      simp [x77, x78, jI, j0, addr_add, VTB, go_sem]
    | 10, _, ho, hnd, hdep =>
      obtain ⟨hd, hop, hgd⟩ := say_of sTB_10 ho
      have gx : t[71]?.getD undef = _ := hS.at dTB_1 (waits (j := 1) (by kernel_rfl) ho hdep)
      simp only [VTB] at gx
      have x79 : t[79]?.getD undef = _ := hS.at dTB_9 (waits (j := 9) (by kernel_rfl) ho hdep)
      simp only [VTB] at x79
      refine iv_valG hB ho (wanted_yes hgd dTB_1 gx) hd hS hw ?_
      unfold execOp
      simp only [hop]
      simp [x79, VTB, go_sem]
    | 11, _, ho, hnd, hdep =>
      obtain ⟨hd, hop, hgd⟩ := say_of sTB_11 ho
      have gx : t[71]?.getD undef = _ := hS.at dTB_1 (waits (j := 1) (by kernel_rfl) ho hdep)
      simp only [VTB] at gx
      have x80 : t[80]?.getD undef = _ := hS.at dTB_10 (waits (j := 10) (by kernel_rfl) ho hdep)
      simp only [VTB] at x80
      refine iv_valG hB ho (wanted_yes hgd dTB_1 gx) hd hS hw ?_
      exact exec_load53 (a := ⟨t, []⟩) _ hop gb (ob + j * 71 + 1) (by show t.getD 80 undef = _; rw [Array.getD_eq_getD_getElem?]; exact x80) _ sO (lO.below hw)
    | 12, _, ho, hnd, hdep =>
      obtain ⟨hd, hop, hgd⟩ := say_of sTB_12 ho
      have gx : t[71]?.getD undef = _ := hS.at dTB_1 (waits (j := 1) (by kernel_rfl) ho hdep)
      simp only [VTB] at gx
      have x76 : t[76]?.getD undef = _ := hS.at dTB_6 (waits (j := 6) (by kernel_rfl) ho hdep)
      simp only [VTB] at x76
      have x81 : t[81]?.getD undef = _ := hS.at dTB_11 (waits (j := 11) (by kernel_rfl) ho hdep)
      simp only [VTB] at x81
      refine iv_valG hB ho (wanted_yes hgd dTB_1 gx) hd hS hw ?_
      exact exec_neq53' (a := ⟨t, []⟩) _ _ hop YN YO (by show t.getD 76 undef = _; rw [Array.getD_eq_getD_getElem?]; exact x76) (by show t.getD 81 undef = _; rw [Array.getD_eq_getD_getElem?]; exact x81) x.new y.old hN hO _ hb _
    | 13, _, ho, hnd, hdep =>
      obtain ⟨hd, hop, hgd⟩ := say_of sTB_13 ho
      have x71 : t[71]?.getD undef = _ := hS.at dTB_1 (waits (j := 1) (by kernel_rfl) ho hdep)
      simp only [VTB] at x71
      have x82 : t[82]?.getD undef = _ := hS.at dTB_12 (waits (j := 12) (by kernel_rfl) ho hdep)
      simp only [VTB] at x82
      refine iv_valG hB ho (wanted_none hgd) hd hS hw ?_
      unfold execOp
      simp only [hop]
      simp [x71, x82, VTB, go_sem]
    | 14, _, ho, hnd, hdep =>
      obtain ⟨hd, hop, hgd⟩ := say_of sTB_14 ho
      have x83 : t[83]?.getD undef = _ := hS.at dTB_13 (waits (j := 13) (by kernel_rfl) ho hdep)
      simp only [VTB] at x83
      refine iv_valG hB ho (wanted_none hgd) hd hS hw ?_
      unfold execOp
      simp only [hop]
      simp [x83, VTB, go_sem]
theorem foldTB (ga oa n cp i gb ob m cq j : Nat) (YN YO : Array Value) (b : Bool) (t0 : Array Value) : fold (opsAt Tryz.f16 19) (VTB ga oa n cp i gb ob m cq j YN YO b) t0 15 = (((((((((((((((t0.setIfInBounds 70 (.bool false)).setIfInBounds 71 (.bool false)).setIfInBounds 72 (.slice (some ⟨ga, oa, none⟩) n cp)).setIfInBounds 73 (.int .i64 (i : Int))).setIfInBounds 74 (.pointer (some ⟨ga, oa + i * 71, none⟩))).setIfInBounds 75 (.pointer (some ⟨ga, oa + i * 71 + 36, none⟩))).setIfInBounds 76 (.agg YN)).setIfInBounds 77 (.slice (some ⟨gb, ob, none⟩) m cq)).setIfInBounds 78 (.int .i64 (j : Int))).setIfInBounds 79 (.pointer (some ⟨gb, ob + j * 71, none⟩))).setIfInBounds 80 (.pointer (some ⟨gb, ob + j * 71 + 1, none⟩))).setIfInBounds 81 (.agg YO)).setIfInBounds 82 (.bool b)).setIfInBounds 83 (.bool b)).setIfInBounds 7 (.bool b)) := by kernel_rfl
def VTC  : Nat → Value
  | 0 => .bool true
  | 1 => .bool true
  | 2 => undef
  | 3 => undef
  | 4 => undef
  | 5 => undef
  | 6 => undef
  | 7 => undef
  | 8 => undef
  | 9 => undef
  | 10 => undef
  | 11 => undef
  | 12 => undef
  | 13 => .bool true
  | 14 => .bool true
  | _ => undef
set_option maxHeartbeats 8000000 in
set_option maxRecDepth 100000 in
theorem regTC   (t0 : Array Value) (wr : World) {Q : Exit → Act → World → Prop} (ht : t0.size = 120) (h7 : t0.getD 7 undef = .bool true)
    
    (hQ : ∀ w, Below wr.heap.size wr w → Q .normal ⟨fold (opsAt Tryz.f16 19) (VTC ) t0 15, []⟩ w) : (Code.region 19 (opsAt Tryz.f16 19) true).wp Tryz.prog Q ⟨t0, []⟩ wr := by
  have hB : dstB (opsAt Tryz.f16 19) t0.size = true := by rw [ht]; exact dstTB
  have h0M : Below wr.heap.size wr wr.drew := (Below.refl _ wr).drew
  refine inv_region (by kernel_rfl) (IV (opsAt Tryz.f16 19) (VTC ) t0 (fun _ w => Below wr.heap.size wr w)) backTB ⟨t0, rfl, ⟨rfl, fun _ _ => rfl, fun _ _ _ _ _ h => by cases h⟩, h0M⟩ ?_ ?_
  rotate_left 1
  · rintro done a w ⟨t, rfl, hS, hw⟩ hall
    rw [hS.end hB hall, sizeTB]
    exact hQ w hw
  · rintro jz op done a w ho ⟨t, rfl, hS, hw⟩ hnd hdep hcl
    have hlt : jz < 15 := by rw [← sizeTB]; exact (Array.getElem?_eq_some_iff.1 ho).1
    match jz, hlt, ho, hnd, hdep with
    | 0, _, ho, hnd, hdep =>
      obtain ⟨hd, hop, hgd⟩ := say_of sTB_0 ho
      have yt1 : done 1 = false := not_yet (k := 0) (j := 1) (by kernel_rfl) hcl hnd
      have yt13 : done 13 = false := not_yet (k := 1) (j := 13) (by kernel_rfl) hcl yt1
      have yt14 : done 14 = false := not_yet (k := 13) (j := 14) (by kernel_rfl) hcl yt13
      have e7 : t[7]?.getD undef = _ := (hS.yet hB dTB_14 yt14).trans h7
      refine iv_valG hB ho (wanted_none hgd) hd hS hw ?_
      unfold execOp
      simp only [hop]
      simp [e7, VTC, go_sem]
    | 1, _, ho, hnd, hdep =>
      obtain ⟨hd, hop, hgd⟩ := say_of sTB_1 ho
      have x70 : t[70]?.getD undef = _ := hS.at dTB_0 (waits (j := 0) (by kernel_rfl) ho hdep)
      simp only [VTC] at x70
      refine iv_valG hB ho (wanted_none hgd) hd hS hw ?_
      unfold execOp
      simp only [hop]
      simp [x70, VTC, go_sem]
    | 2, _, ho, hnd, hdep =>
      obtain ⟨hd, hop, hgd⟩ := say_of sTB_2 ho
      have gx : t[71]?.getD undef = _ := hS.at dTB_1 (waits (j := 1) (by kernel_rfl) ho hdep)
      simp only [VTC] at gx
      exact iv_skip hB ho (wanted_no hgd dTB_1 gx rfl) hd hS hw rfl
    | 3, _, ho, hnd, hdep =>
      obtain ⟨hd, hop, hgd⟩ := say_of sTB_3 ho
      have gx : t[71]?.getD undef = _ := hS.at dTB_1 (waits (j := 1) (by kernel_rfl) ho hdep)
      simp only [VTC] at gx
      exact iv_skip hB ho (wanted_no hgd dTB_1 gx rfl) hd hS hw rfl
    | 4, _, ho, hnd, hdep =>
      obtain ⟨hd, hop, hgd⟩ := say_of sTB_4 ho
      have gx : t[71]?.getD undef = _ := hS.at dTB_1 (waits (j := 1) (by kernel_rfl) ho hdep)
      simp only [VTC] at gx
      exact iv_skip hB ho (wanted_no hgd dTB_1 gx rfl) hd hS hw rfl
    | 5, _, ho, hnd, hdep =>
      obtain ⟨hd, hop, hgd⟩ := say_of sTB_5 ho
      have gx : t[71]?.getD undef = _ := hS.at dTB_1 (waits (j := 1) (by kernel_rfl) ho hdep)
      simp only [VTC] at gx
      exact iv_skip hB ho (wanted_no hgd dTB_1 gx rfl) hd hS hw rfl
    | 6, _, ho, hnd, hdep =>
      obtain ⟨hd, hop, hgd⟩ := say_of sTB_6 ho
      have gx : t[71]?.getD undef = _ := hS.at dTB_1 (waits (j := 1) (by kernel_rfl) ho hdep)
      simp only [VTC] at gx
      exact iv_skip hB ho (wanted_no hgd dTB_1 gx rfl) hd hS hw rfl
    | 7, _, ho, hnd, hdep =>
      obtain ⟨hd, hop, hgd⟩ := say_of sTB_7 ho
      have gx : t[71]?.getD undef = _ := hS.at dTB_1 (waits (j := 1) (by kernel_rfl) ho hdep)
      simp only [VTC] at gx
      exact iv_skip hB ho (wanted_no hgd dTB_1 gx rfl) hd hS hw rfl
    | 8, _, ho, hnd, hdep =>
      obtain ⟨hd, hop, hgd⟩ := say_of sTB_8 ho
      have gx : t[71]?.getD undef = _ := hS.at dTB_1 (waits (j := 1) (by kernel_rfl) ho hdep)
      simp only [VTC] at gx
      exact iv_skip hB ho (wanted_no hgd dTB_1 gx rfl) hd hS hw rfl
    | 9, _, ho, hnd, hdep =>
      obtain ⟨hd, hop, hgd⟩ := say_of sTB_9 ho
      have gx : t[71]?.getD undef = _ := hS.at dTB_1 (waits (j := 1) (by kernel_rfl) ho hdep)
      simp only [VTC] at gx
      exact iv_skip hB ho (wanted_no hgd dTB_1 gx rfl) hd hS hw rfl
    | 10, _, ho, hnd, hdep =>
      obtain ⟨hd, hop, hgd⟩ := say_of sTB_10 ho
      have gx : t[71]?.getD undef = _ := hS.at dTB_1 (waits (j := 1) (by kernel_rfl) ho hdep)
      simp only [VTC] at gx
      exact iv_skip hB ho (wanted_no hgd dTB_1 gx rfl) hd hS hw rfl
    | 11, _, ho, hnd, hdep =>
      obtain ⟨hd, hop, hgd⟩ := say_of sTB_11 ho
      have gx : t[71]?.getD undef = _ := hS.at dTB_1 (waits (j := 1) (by kernel_rfl) ho hdep)
      simp only [VTC] at gx
      exact iv_skip hB ho (wanted_no hgd dTB_1 gx rfl) hd hS hw rfl
    | 12, _, ho, hnd, hdep =>
      obtain ⟨hd, hop, hgd⟩ := say_of sTB_12 ho
      have gx : t[71]?.getD undef = _ := hS.at dTB_1 (waits (j := 1) (by kernel_rfl) ho hdep)
      simp only [VTC] at gx
      exact iv_skip hB ho (wanted_no hgd dTB_1 gx rfl) hd hS hw rfl
    | 13, _, ho, hnd, hdep =>
      obtain ⟨hd, hop, hgd⟩ := say_of sTB_13 ho
      have x71 : t[71]?.getD undef = _ := hS.at dTB_1 (waits (j := 1) (by kernel_rfl) ho hdep)
      simp only [VTC] at x71
      refine iv_valG hB ho (wanted_none hgd) hd hS hw ?_
      unfold execOp
      simp only [hop]
      simp [x71, VTC, go_sem]
    | 14, _, ho, hnd, hdep =>
      obtain ⟨hd, hop, hgd⟩ := say_of sTB_14 ho
      have x83 : t[83]?.getD undef = _ := hS.at dTB_13 (waits (j := 13) (by kernel_rfl) ho hdep)
      simp only [VTC] at x83
      refine iv_valG hB ho (wanted_none hgd) hd hS hw ?_
      unfold execOp
      simp only [hop]
      simp [x83, VTC, go_sem]
theorem foldTC  (t0 : Array Value) : fold (opsAt Tryz.f16 19) (VTC ) t0 15 = (((((((((((((((t0.setIfInBounds 70 (.bool true)).setIfInBounds 71 (.bool true)).setIfInBounds 72 (undef)).setIfInBounds 73 (undef)).setIfInBounds 74 (undef)).setIfInBounds 75 (undef)).setIfInBounds 76 (undef)).setIfInBounds 77 (undef)).setIfInBounds 78 (undef)).setIfInBounds 79 (undef)).setIfInBounds 80 (undef)).setIfInBounds 81 (undef)).setIfInBounds 82 (undef)).setIfInBounds 83 (.bool true)).setIfInBounds 7 (.bool true)) := by kernel_rfl
theorem backTD : backB (opsAt Tryz.f16 20) = true := by kernel_rfl
theorem dstTD : dstB (opsAt Tryz.f16 20) 120 = true := by kernel_rfl
theorem sizeTD : (opsAt Tryz.f16 20).size = 11 := by kernel_rfl
theorem freeTD0 : freeB (opsAt Tryz.f16 20) 0 = true := by kernel_rfl
theorem freeTD1 : freeB (opsAt Tryz.f16 20) 1 = true := by kernel_rfl
theorem freeTD8 : freeB (opsAt Tryz.f16 20) 8 = true := by kernel_rfl
theorem freeTD9 : freeB (opsAt Tryz.f16 20) 9 = true := by kernel_rfl
theorem sTD_0 : say (opsAt Tryz.f16 20) 0 = some (some 84, .move (.tmp 0), none) := by kernel_rfl
theorem dTD_0 : slotB (opsAt Tryz.f16 20) 0 = some 84 := by kernel_rfl
theorem sTD_1 : say (opsAt Tryz.f16 20) 1 = some (some 85, .move (.tmp 8), none) := by kernel_rfl
theorem dTD_1 : slotB (opsAt Tryz.f16 20) 1 = some 85 := by kernel_rfl
theorem sTD_2 : say (opsAt Tryz.f16 20) 2 = some (some 86, .indexAddr 22 (.tmp 84) (.tmp 85), none) := by kernel_rfl
theorem dTD_2 : slotB (opsAt Tryz.f16 20) 2 = some 86 := by kernel_rfl
theorem sTD_3 : say (opsAt Tryz.f16 20) 3 = some (some 87, .fieldAddr 55 (.tmp 86) 1, none) := by kernel_rfl
theorem dTD_3 : slotB (opsAt Tryz.f16 20) 3 = some 87 := by kernel_rfl
theorem sTD_4 : say (opsAt Tryz.f16 20) 4 = some (some 88, .load 53 (.tmp 87), none) := by kernel_rfl
theorem dTD_4 : slotB (opsAt Tryz.f16 20) 4 = some 88 := by kernel_rfl
theorem sTD_5 : say (opsAt Tryz.f16 20) 5 = some (some 89, .move (.tmp 1), none) := by kernel_rfl
theorem dTD_5 : slotB (opsAt Tryz.f16 20) 5 = some 89 := by kernel_rfl
theorem sTD_6 : say (opsAt Tryz.f16 20) 6 = some (some 90, .move (.tmp 9), none) := by kernel_rfl
theorem dTD_6 : slotB (opsAt Tryz.f16 20) 6 = some 90 := by kernel_rfl
theorem sTD_7 : say (opsAt Tryz.f16 20) 7 = some (some 91, .indexAddr 22 (.tmp 89) (.tmp 90), none) := by kernel_rfl
theorem dTD_7 : slotB (opsAt Tryz.f16 20) 7 = some 91 := by kernel_rfl
theorem sTD_8 : say (opsAt Tryz.f16 20) 8 = some (some 92, .fieldAddr 55 (.tmp 91) 2, none) := by kernel_rfl
theorem dTD_8 : slotB (opsAt Tryz.f16 20) 8 = some 92 := by kernel_rfl
theorem sTD_9 : say (opsAt Tryz.f16 20) 9 = some (some 93, .load 53 (.tmp 92), none) := by kernel_rfl
theorem dTD_9 : slotB (opsAt Tryz.f16 20) 9 = some 93 := by kernel_rfl
theorem sTD_10 : say (opsAt Tryz.f16 20) 10 = some (some 94, .binOp .neq 53 (.tmp 88) (.tmp 93) 53, none) := by kernel_rfl
theorem dTD_10 : slotB (opsAt Tryz.f16 20) 10 = some 94 := by kernel_rfl
def VTD (ga oa n cp i gb ob m cq j : Nat) (YO YN : Array Value) (b : Bool) : Nat → Value
  | 0 => .slice (some ⟨ga, oa, none⟩) n cp
  | 1 => .int .i64 (i : Int)
  | 2 => .pointer (some ⟨ga, oa + i * 71, none⟩)
  | 3 => .pointer (some ⟨ga, oa + i * 71 + 1, none⟩)
  | 4 => .agg YO
  | 5 => .slice (some ⟨gb, ob, none⟩) m cq
  | 6 => .int .i64 (j : Int)
  | 7 => .pointer (some ⟨gb, ob + j * 71, none⟩)
  | 8 => .pointer (some ⟨gb, ob + j * 71 + 36, none⟩)
  | 9 => .agg YN
  | 10 => .bool b
  | _ => undef
set_option maxHeartbeats 8000000 in
set_option maxRecDepth 100000 in
theorem regTD (ga oa n cp i gb ob m cq j : Nat) (YO YN : Array Value) (b : Bool)  (t0 : Array Value) (wr : World) {Q : Exit → Act → World → Prop} (ht : t0.size = 120) (h0 : t0.getD 0 undef = .slice (some ⟨ga, oa, none⟩) n cp) (h1 : t0.getD 1 undef = .slice (some ⟨gb, ob, none⟩) m cq) (h8 : t0.getD 8 undef = .int .i64 (i : Int)) (h9 : t0.getD 9 undef = .int .i64 (j : Int))
    (x y : Cd) (hi : i < n) (hj : j < m) (lx : Lies wr ga (oa + i * 71) (cc x)) (ly : Lies wr gb (ob + j * 71) (cc y)) (hO : YO = (vx x.old).toArray) (hN : YN = (vx y.new).toArray) (hb : (!decide (x.old = y.new)) = b)
    (hQ : ∀ w, Below wr.heap.size wr w → Q .normal ⟨fold (opsAt Tryz.f16 20) (VTD ga oa n cp i gb ob m cq j YO YN b) t0 11, []⟩ w) : (Code.region 20 (opsAt Tryz.f16 20) true).wp Tryz.prog Q ⟨t0, []⟩ wr := by
  have hB : dstB (opsAt Tryz.f16 20) t0.size = true := by rw [ht]; exact dstTD
  have iI : (i : Int) < (n : Int) := by omega
  have i0 : (0 : Int) ≤ (i : Int) := by omega
  have jI : (j : Int) < (m : Int) := by omega
  have j0 : (0 : Int) ≤ (j : Int) := by omega
  have h0M : Below wr.heap.size wr wr.drew := (Below.refl _ wr).drew
  have sO : YO.size = 35 := by rw [hO]; simp [vx_len]
  have sN : YN.size = 35 := by rw [hN]; simp [vx_len]
  have lO : Lies wr ga (oa + i * 71 + 1) YO := by rw [hO]; exact lx.old
  have lN : Lies wr gb (ob + j * 71 + 36) YN := by rw [hN]; exact ly.new
  refine inv_region (by kernel_rfl) (IV (opsAt Tryz.f16 20) (VTD ga oa n cp i gb ob m cq j YO YN b) t0 (fun _ w => Below wr.heap.size wr w)) backTD ⟨t0, rfl, ⟨rfl, fun _ _ => rfl, fun _ _ _ _ _ h => by cases h⟩, h0M⟩ ?_ ?_
  rotate_left 1
  · rintro done a w ⟨t, rfl, hS, hw⟩ hall
    rw [hS.end hB hall, sizeTD]
    exact hQ w hw
  · rintro jz op done a w ho ⟨t, rfl, hS, hw⟩ hnd hdep hcl
    have e0 : t[0]?.getD undef = .slice (some ⟨ga, oa, none⟩) n cp := (hS.old freeTD0).trans h0
    have e1 : t[1]?.getD undef = .slice (some ⟨gb, ob, none⟩) m cq := (hS.old freeTD1).trans h1
    have e8 : t[8]?.getD undef = .int .i64 (i : Int) := (hS.old freeTD8).trans h8
    have e9 : t[9]?.getD undef = .int .i64 (j : Int) := (hS.old freeTD9).trans h9
    have hlt : jz < 11 := by rw [← sizeTD]; exact (Array.getElem?_eq_some_iff.1 ho).1
    match jz, hlt, ho, hnd, hdep with
    | 0, _, ho, hnd, hdep =>
      obtain ⟨hd, hop, hgd⟩ := say_of sTD_0 ho
      refine iv_valG hB ho (wanted_none hgd) hd hS hw ?_
      unfold execOp
      simp only [hop]
      simp [e0, VTD, go_sem]
    | 1, _, ho, hnd, hdep =>
      obtain ⟨hd, hop, hgd⟩ := say_of sTD_1 ho
      refine iv_valG hB ho (wanted_none hgd) hd hS hw ?_
      unfold execOp
      simp only [hop]
      simp [e8, VTD, go_sem]
    | 2, _, ho, hnd, hdep =>
      obtain ⟨hd, hop, hgd⟩ := say_of sTD_2 ho
      have x84 : t[84]?.getD undef = _ := hS.at dTD_0 (waits (j := 0) (by kernel_rfl) ho hdep)
      simp only [VTD] at x84
      have x85 : t[85]?.getD undef = _ := hS.at dTD_1 (waits (j := 1) (by kernel_rfl) ho hdep)
      simp only [VTD] at x85
      refine iv_valG hB ho (wanted_none hgd) hd hS hw ?_
      unfold execOp
      simp only [hop]
      simp [x84, x85, iI, i0, addr_add, VTD, go_sem]
    | 3, _, ho, hnd, hdep =>
      obtain ⟨hd, hop, hgd⟩ := say_of sTD_3 ho
      have x86 : t[86]?.getD undef = _ := hS.at dTD_2 (waits (j := 2) (by kernel_rfl) ho hdep)
      simp only [VTD] at x86
      refine iv_valG hB ho (wanted_none hgd) hd hS hw ?_
      unfold execOp
      simp only [hop]
      simp [x86, VTD, go_sem]
    | 4, _, ho, hnd, hdep =>
      obtain ⟨hd, hop, hgd⟩ := say_of sTD_4 ho
      have x87 : t[87]?.getD undef = _ := hS.at dTD_3 (waits (j := 3) (by kernel_rfl) ho hdep)
      simp only [VTD] at x87
      refine iv_valG hB ho (wanted_none hgd) hd hS hw ?_
      exact exec_load53 (a := ⟨t, []⟩) _ hop ga (oa + i * 71 + 1) (by show t.getD 87 undef = _; rw [Array.getD_eq_getD_getElem?]; exact x87) _ sO (lO.below hw)
    | 5, _, ho, hnd, hdep =>
      obtain ⟨hd, hop, hgd⟩ := say_of sTD_5 ho
      refine iv_valG hB ho (wanted_none hgd) hd hS hw ?_
      unfold execOp
      simp only [hop]
      simp [e1, VTD, go_sem]
    | 6, _, ho, hnd, hdep =>
      obtain ⟨hd, hop, hgd⟩ := say_of sTD_6 ho
      refine iv_valG hB ho (wanted_none hgd) hd hS hw ?_
      unfold execOp
      simp only [hop]
      simp [e9, VTD, go_sem]
    | 7, _, ho, hnd, hdep =>
      obtain ⟨hd, hop, hgd⟩ := say_of sTD_7 ho
      have x89 : t[89]?.getD undef = _ := hS.at dTD_5 (waits (j := 5) (by kernel_rfl) ho hdep)
      simp only [VTD] at x89
      have x90 : t[90]?.getD undef = _ := hS.at dTD_6 (waits (j := 6) (by kernel_rfl) ho hdep)
      simp only [VTD] at x90
      refine iv_valG hB ho (wanted_none hgd) hd hS hw ?_
      unfold execOp
      simp only [hop]
      simp [x89, x90, jI, j0, addr_add, VTD, go_sem]
    | 8, _, ho, hnd, hdep =>
      obtain ⟨hd, hop, hgd⟩ := say_of sTD_8 ho
      have x91 : t[91]?.getD undef = _ := hS.at dTD_7 (waits (j := 7) (by kernel_rfl) ho hdep)
      simp only [VTD] at x91
      refine iv_valG hB ho (wanted_none hgd) hd hS hw ?_
      unfold execOp
      simp only [hop]
      simp [x91, VTD, go_sem]
    | 9, _, ho, hnd, hdep =>
      obtain ⟨hd, hop, hgd⟩ := say_of sTD_9 ho
      have x92 : t[92]?.getD undef = _ := hS.at dTD_8 (waits (j := 8) (by kernel_rfl) ho hdep)
      simp only [VTD] at x92
      refine iv_valG hB ho (wanted_none hgd) hd hS hw ?_
      exact exec_load53 (a := ⟨t, []⟩) _ hop gb (ob + j * 71 + 36) (by show t.getD 92 undef = _; rw [Array.getD_eq_getD_getElem?]; exact x92) _ sN (lN.below hw)
    | 10, _, ho, hnd, hdep =>
      obtain ⟨hd, hop, hgd⟩ := say_of sTD_10 ho
      have x88 : t[88]?.getD undef = _ := hS.at dTD_4 (waits (j := 4) (by kernel_rfl) ho hdep)
      simp only [VTD] at x88
      have x93 : t[93]?.getD undef = _ := hS.at dTD_9 (waits (j := 9) (by kernel_rfl) ho hdep)
      simp only [VTD] at x93
      refine iv_valG hB ho (wanted_none hgd) hd hS hw ?_
      exact exec_neq53' (a := ⟨t, []⟩) _ _ hop YO YN (by show t.getD 88 undef = _; rw [Array.getD_eq_getD_getElem?]; exact x88) (by show t.getD 93 undef = _; rw [Array.getD_eq_getD_getElem?]; exact x93) x.old y.new hO hN _ hb _
theorem foldTD (ga oa n cp i gb ob m cq j : Nat) (YO YN : Array Value) (b : Bool) (t0 : Array Value) : fold (opsAt Tryz.f16 20) (VTD ga oa n cp i gb ob m cq j YO YN b) t0 11 = (((((((((((t0.setIfInBounds 84 (.slice (some ⟨ga, oa, none⟩) n cp)).setIfInBounds 85 (.int .i64 (i : Int))).setIfInBounds 86 (.pointer (some ⟨ga, oa + i * 71, none⟩))).setIfInBounds 87 (.pointer (some ⟨ga, oa + i * 71 + 1, none⟩))).setIfInBounds 88 (.agg YO)).setIfInBounds 89 (.slice (some ⟨gb, ob, none⟩) m cq)).setIfInBounds 90 (.int .i64 (j : Int))).setIfInBounds 91 (.pointer (some ⟨gb, ob + j * 71, none⟩))).setIfInBounds 92 (.pointer (some ⟨gb, ob + j * 71 + 36, none⟩))).setIfInBounds 93 (.agg YN)).setIfInBounds 94 (.bool b)) := by kernel_rfl
theorem backTE : backB (opsAt Tryz.f16 21) = true := by kernel_rfl
theorem dstTE : dstB (opsAt Tryz.f16 21) 120 = true := by kernel_rfl
theorem sizeTE : (opsAt Tryz.f16 21).size = 20 := by kernel_rfl
theorem freeTE0 : freeB (opsAt Tryz.f16 21) 0 = true := by kernel_rfl
theorem freeTE1 : freeB (opsAt Tryz.f16 21) 1 = true := by kernel_rfl
theorem freeTE8 : freeB (opsAt Tryz.f16 21) 8 = true := by kernel_rfl
theorem freeTE9 : freeB (opsAt Tryz.f16 21) 9 = true := by kernel_rfl
def VTE (ga oa n cp i gb ob m cq j : Nat) (v v2 : Value) (B : Nat) (p : ByteArray) (YO YN Z : Array Value) : Nat → Value
  | 0 => v
  | 1 => .slice (some ⟨ga, oa, none⟩) n cp
  | 2 => .int .i64 (i : Int)
  | 3 => .pointer (some ⟨ga, oa + i * 71, none⟩)
  | 4 => .pointer (some ⟨ga, oa + i * 71, none⟩)
  | 5 => .string p
  | 6 => .slice (some ⟨ga, oa, none⟩) n cp
  | 7 => .int .i64 (i : Int)
  | 8 => .pointer (some ⟨ga, oa + i * 71, none⟩)
  | 9 => .pointer (some ⟨ga, oa + i * 71 + 1, none⟩)
  | 10 => .agg YO
  | 11 => .slice (some ⟨gb, ob, none⟩) m cq
  | 12 => .int .i64 (j : Int)
  | 13 => .pointer (some ⟨gb, ob + j * 71, none⟩)
  | 14 => .pointer (some ⟨gb, ob + j * 71 + 36, none⟩)
  | 15 => .agg YN
  | 16 => .agg Z
  | 17 => .slice (some ⟨B, 0, none⟩) 1 1
  | 18 => v2
  | 19 => v2
  | _ => undef
theorem sTE_0 : say (opsAt Tryz.f16 21) 0 = some (some 95, .move (.tmp 6), none) := by kernel_rfl
theorem dTE_0 : slotB (opsAt Tryz.f16 21) 0 = some 95 := by kernel_rfl
theorem sTE_1 : say (opsAt Tryz.f16 21) 1 = some (some 96, .move (.tmp 0), none) := by kernel_rfl
theorem dTE_1 : slotB (opsAt Tryz.f16 21) 1 = some 96 := by kernel_rfl
theorem sTE_2 : say (opsAt Tryz.f16 21) 2 = some (some 97, .move (.tmp 8), none) := by kernel_rfl
theorem dTE_2 : slotB (opsAt Tryz.f16 21) 2 = some 97 := by kernel_rfl
theorem sTE_3 : say (opsAt Tryz.f16 21) 3 = some (some 98, .indexAddr 22 (.tmp 96) (.tmp 97), none) := by kernel_rfl
theorem dTE_3 : slotB (opsAt Tryz.f16 21) 3 = some 98 := by kernel_rfl
theorem sTE_4 : say (opsAt Tryz.f16 21) 4 = some (some 99, .fieldAddr 55 (.tmp 98) 0, none) := by kernel_rfl
theorem dTE_4 : slotB (opsAt Tryz.f16 21) 4 = some 99 := by kernel_rfl
theorem sTE_5 : say (opsAt Tryz.f16 21) 5 = some (some 100, .load 9 (.tmp 99), none) := by kernel_rfl
theorem dTE_5 : slotB (opsAt Tryz.f16 21) 5 = some 100 := by kernel_rfl
theorem sTE_6 : say (opsAt Tryz.f16 21) 6 = some (some 101, .move (.tmp 0), none) := by kernel_rfl
theorem dTE_6 : slotB (opsAt Tryz.f16 21) 6 = some 101 := by kernel_rfl
theorem sTE_7 : say (opsAt Tryz.f16 21) 7 = some (some 102, .move (.tmp 8), none) := by kernel_rfl
theorem dTE_7 : slotB (opsAt Tryz.f16 21) 7 = some 102 := by kernel_rfl
theorem sTE_8 : say (opsAt Tryz.f16 21) 8 = some (some 103, .indexAddr 22 (.tmp 101) (.tmp 102), none) := by kernel_rfl
theorem dTE_8 : slotB (opsAt Tryz.f16 21) 8 = some 103 := by kernel_rfl
theorem sTE_9 : say (opsAt Tryz.f16 21) 9 = some (some 104, .fieldAddr 55 (.tmp 103) 1, none) := by kernel_rfl
theorem dTE_9 : slotB (opsAt Tryz.f16 21) 9 = some 104 := by kernel_rfl
theorem sTE_10 : say (opsAt Tryz.f16 21) 10 = some (some 105, .load 53 (.tmp 104), none) := by kernel_rfl
theorem dTE_10 : slotB (opsAt Tryz.f16 21) 10 = some 105 := by kernel_rfl
theorem sTE_11 : say (opsAt Tryz.f16 21) 11 = some (some 106, .move (.tmp 1), none) := by kernel_rfl
theorem dTE_11 : slotB (opsAt Tryz.f16 21) 11 = some 106 := by kernel_rfl
theorem sTE_12 : say (opsAt Tryz.f16 21) 12 = some (some 107, .move (.tmp 9), none) := by kernel_rfl
theorem dTE_12 : slotB (opsAt Tryz.f16 21) 12 = some 107 := by kernel_rfl
theorem sTE_13 : say (opsAt Tryz.f16 21) 13 = some (some 108, .indexAddr 22 (.tmp 106) (.tmp 107), none) := by kernel_rfl
theorem dTE_13 : slotB (opsAt Tryz.f16 21) 13 = some 108 := by kernel_rfl
theorem sTE_14 : say (opsAt Tryz.f16 21) 14 = some (some 109, .fieldAddr 55 (.tmp 108) 2, none) := by kernel_rfl
theorem dTE_14 : slotB (opsAt Tryz.f16 21) 14 = some 109 := by kernel_rfl
theorem sTE_15 : say (opsAt Tryz.f16 21) 15 = some (some 110, .load 53 (.tmp 109), none) := by kernel_rfl
theorem dTE_15 : slotB (opsAt Tryz.f16 21) 15 = some 110 := by kernel_rfl
theorem sTE_16 : say (opsAt Tryz.f16 21) 16 = some (some 111, .build 55 #[(0, .tmp 100), (1, .tmp 105), (2, .tmp 110)], none) := by kernel_rfl
theorem dTE_16 : slotB (opsAt Tryz.f16 21) 16 = some 111 := by kernel_rfl
theorem sTE_17 : say (opsAt Tryz.f16 21) 17 = some (some 112, .buildSlice 22 1 #[(0, .tmp 111)], none) := by kernel_rfl
theorem dTE_17 : slotB (opsAt Tryz.f16 21) 17 = some 112 := by kernel_rfl
theorem sTE_18 : say (opsAt Tryz.f16 21) 18 = some (some 113, .call { callee := .builtin .append, args := #[.tmp 95, .tmp 112], argTypes := #[22, 22] }, none) := by kernel_rfl
theorem dTE_18 : slotB (opsAt Tryz.f16 21) 18 = some 113 := by kernel_rfl
theorem sTE_19 : say (opsAt Tryz.f16 21) 19 = some (some 6, .assign (.tmp 113), none) := by kernel_rfl
theorem dTE_19 : slotB (opsAt Tryz.f16 21) 19 = some 6 := by kernel_rfl
set_option maxHeartbeats 4000000 in
set_option maxRecDepth 100000 in
theorem regTE (ga oa n cp i gb ob m cq j : Nat) (v v2 : Value) (B : Nat) (p : ByteArray) (YO YN Z : Array Value) (wB wC : World) (t0 : Array Value) (wr : World) {Q : Exit → Act → World → Prop} (ht : t0.size = 120) (h0 : t0.getD 0 undef = .slice (some ⟨ga, oa, none⟩) n cp) (h1 : t0.getD 1 undef = .slice (some ⟨gb, ob, none⟩) m cq) (h8 : t0.getD 8 undef = .int .i64 (i : Int)) (h9 : t0.getD 9 undef = .int .i64 (j : Int)) (h6 : t0.getD 6 undef = v)
    (hi : i < n) (hj : j < m) (cP : wr.drew.cell? ⟨ga, oa + i * 71, none⟩ = some (.string p)) (lO : Lies wr.drew ga (oa + i * 71 + 1) YO) (lN : Lies wr.drew gb (ob + j * 71 + 36) YN) (sO : YO.size = 35) (sN : YN.size = 35) (hZ : ∀ {o : Oper} {a : Act} (x y z : Operand), o.op = .build 55 #[(0, x), (1, y), (2, z)] → a.eval x = .string p → a.eval y = .agg YO → a.eval z = .agg YN → ∀ w, (execOp a.eval o).run Tryz.prog w = .ok (.value (.agg Z)) w) (sZ : Z.size = 71) (hwB : wr.drew.alloc (.cells Z 55) = wB) (hB0 : wr.drew.heap.size = B) (hA : (Builtin.append_ #[22, 22] 22 #[v, .slice (some ⟨B, 0, none⟩) 1 1]).run Tryz.prog wB = .ok v2 wC)
    (hQ : Q .normal ⟨fold (opsAt Tryz.f16 21) (VTE ga oa n cp i gb ob m cq j v v2 B p YO YN Z) t0 20, []⟩ wC) : (Code.region 21 (opsAt Tryz.f16 21) true).wp Tryz.prog Q ⟨t0, []⟩ wr := by
  have hB : dstB (opsAt Tryz.f16 21) t0.size = true := by rw [ht]; exact dstTE
  have iI : (i : Int) < (n : Int) := by omega
  have i0 : (0 : Int) ≤ (i : Int) := by omega
  have jI : (j : Int) < (m : Int) := by omega
  have j0 : (0 : Int) ≤ (j : Int) := by omega
  refine inv_region (by kernel_rfl) (IV (opsAt Tryz.f16 21) (VTE ga oa n cp i gb ob m cq j v v2 B p YO YN Z) t0 (fun done w => w = (if done 18 = true then wC else (if done 17 = true then wB else wr.drew)))) backTE ⟨t0, rfl, ⟨rfl, fun _ _ => rfl, fun _ _ _ _ _ h => by cases h⟩, by simp⟩ ?_ ?_
  rotate_left 1
  · rintro done a w ⟨t, rfl, hS, hw⟩ hall
    rw [hS.end hB hall, sizeTE]
    rw [hall 18 (by rw [sizeTE]; decide), if_pos rfl] at hw
    rw [hw]
    exact hQ
  · rintro jz op done a w ho ⟨t, rfl, hS, hw⟩ hnd hdep hcl
    have e0 : t[0]?.getD undef = .slice (some ⟨ga, oa, none⟩) n cp := (hS.old freeTE0).trans h0
    have e1 : t[1]?.getD undef = .slice (some ⟨gb, ob, none⟩) m cq := (hS.old freeTE1).trans h1
    have e8 : t[8]?.getD undef = .int .i64 (i : Int) := (hS.old freeTE8).trans h8
    have e9 : t[9]?.getD undef = .int .i64 (j : Int) := (hS.old freeTE9).trans h9
    have hlt : jz < 20 := by rw [← sizeTE]; exact (Array.getElem?_eq_some_iff.1 ho).1
    match jz, hlt, ho, hnd, hdep with
    | 0, _, ho, hnd, hdep =>
      obtain ⟨hd, hop, hgd⟩ := say_of sTE_0 ho
      have yt18 : done 18 = false := not_yet (k := 0) (j := 18) (by kernel_rfl) hcl hnd
      have yt19 : done 19 = false := not_yet (k := 18) (j := 19) (by kernel_rfl) hcl yt18
      have e6 : t[6]?.getD undef = _ := (hS.yet hB dTE_19 yt19).trans h6
      refine iv_val hB ho hgd hd hS (by simpa [upd] using hw) ?_
      unfold execOp
      simp only [hop]
      simp [e6, VTE, go_sem]
    | 1, _, ho, hnd, hdep =>
      obtain ⟨hd, hop, hgd⟩ := say_of sTE_1 ho
      refine iv_val hB ho hgd hd hS (by simpa [upd] using hw) ?_
      unfold execOp
      simp only [hop]
      simp [e0, VTE, go_sem]
    | 2, _, ho, hnd, hdep =>
      obtain ⟨hd, hop, hgd⟩ := say_of sTE_2 ho
      refine iv_val hB ho hgd hd hS (by simpa [upd] using hw) ?_
      unfold execOp
      simp only [hop]
      simp [e8, VTE, go_sem]
    | 3, _, ho, hnd, hdep =>
      obtain ⟨hd, hop, hgd⟩ := say_of sTE_3 ho
      have x96 : t[96]?.getD undef = _ := hS.at dTE_1 (waits (j := 1) (by kernel_rfl) ho hdep)
      simp only [VTE] at x96
      have x97 : t[97]?.getD undef = _ := hS.at dTE_2 (waits (j := 2) (by kernel_rfl) ho hdep)
      simp only [VTE] at x97
      refine iv_val hB ho hgd hd hS (by simpa [upd] using hw) ?_
      unfold execOp
      simp only [hop]
      simp [x96, x97, iI, i0, addr_add, VTE, go_sem]
    | 4, _, ho, hnd, hdep =>
      obtain ⟨hd, hop, hgd⟩ := say_of sTE_4 ho
      have x98 : t[98]?.getD undef = _ := hS.at dTE_3 (waits (j := 3) (by kernel_rfl) ho hdep)
      simp only [VTE] at x98
      refine iv_val hB ho hgd hd hS (by simpa [upd] using hw) ?_
      unfold execOp
      simp only [hop]
      simp [x98, VTE, go_sem]
    | 5, _, ho, hnd, hdep =>
      obtain ⟨hd, hop, hgd⟩ := say_of sTE_5 ho
      have x99 : t[99]?.getD undef = _ := hS.at dTE_4 (waits (j := 4) (by kernel_rfl) ho hdep)
      simp only [VTE] at x99
      have ny16 : done 16 = false := not_yet (k := 5) (j := 16) (by kernel_rfl) hcl hnd
      have ny17 : done 17 = false := not_yet (k := 16) (j := 17) (by kernel_rfl) hcl ny16
      have ny18 : done 18 = false := not_yet (k := 17) (j := 18) (by kernel_rfl) hcl ny17
      have hw0 : w = wr.drew := by rw [hw]; simp [ny17, ny18]
      refine iv_val hB ho hgd hd hS (by simpa [upd] using hw) ?_
      subst hw0
      unfold execOp
      simp only [hop]
      simp [x99, cP, VTE, go_sem]
    | 6, _, ho, hnd, hdep =>
      obtain ⟨hd, hop, hgd⟩ := say_of sTE_6 ho
      refine iv_val hB ho hgd hd hS (by simpa [upd] using hw) ?_
      unfold execOp
      simp only [hop]
      simp [e0, VTE, go_sem]
    | 7, _, ho, hnd, hdep =>
      obtain ⟨hd, hop, hgd⟩ := say_of sTE_7 ho
      refine iv_val hB ho hgd hd hS (by simpa [upd] using hw) ?_
      unfold execOp
      simp only [hop]
      simp [e8, VTE, go_sem]
    | 8, _, ho, hnd, hdep =>
      obtain ⟨hd, hop, hgd⟩ := say_of sTE_8 ho
      have x101 : t[101]?.getD undef = _ := hS.at dTE_6 (waits (j := 6) (by kernel_rfl) ho hdep)
      simp only [VTE] at x101
      have x102 : t[102]?.getD undef = _ := hS.at dTE_7 (waits (j := 7) (by kernel_rfl) ho hdep)
      simp only [VTE] at x102
      refine iv_val hB ho hgd hd hS (by simpa [upd] using hw) ?_
      unfold execOp
      simp only [hop]
      simp [x101, x102, iI, i0, addr_add, VTE, go_sem]
    | 9, _, ho, hnd, hdep =>
      obtain ⟨hd, hop, hgd⟩ := say_of sTE_9 ho
      have x103 : t[103]?.getD undef = _ := hS.at dTE_8 (waits (j := 8) (by kernel_rfl) ho hdep)
      simp only [VTE] at x103
      refine iv_val hB ho hgd hd hS (by simpa [upd] using hw) ?_
      unfold execOp
      simp only [hop]
      simp [x103, VTE, go_sem]
    | 10, _, ho, hnd, hdep =>
      obtain ⟨hd, hop, hgd⟩ := say_of sTE_10 ho
      have x104 : t[104]?.getD undef = _ := hS.at dTE_9 (waits (j := 9) (by kernel_rfl) ho hdep)
      simp only [VTE] at x104
      have ny16 : done 16 = false := not_yet (k := 10) (j := 16) (by kernel_rfl) hcl hnd
      have ny17 : done 17 = false := not_yet (k := 16) (j := 17) (by kernel_rfl) hcl ny16
      have ny18 : done 18 = false := not_yet (k := 17) (j := 18) (by kernel_rfl) hcl ny17
      have hw0 : w = wr.drew := by rw [hw]; simp [ny17, ny18]
      refine iv_val hB ho hgd hd hS (by simpa [upd] using hw) ?_
      exact exec_load53 (a := ⟨t, []⟩) _ hop ga (oa + i * 71 + 1) (by show t.getD 104 undef = _; rw [Array.getD_eq_getD_getElem?]; exact x104) YO sO (by rw [hw0]; exact lO)
    | 11, _, ho, hnd, hdep =>
      obtain ⟨hd, hop, hgd⟩ := say_of sTE_11 ho
      refine iv_val hB ho hgd hd hS (by simpa [upd] using hw) ?_
      unfold execOp
      simp only [hop]
      simp [e1, VTE, go_sem]
    | 12, _, ho, hnd, hdep =>
      obtain ⟨hd, hop, hgd⟩ := say_of sTE_12 ho
      refine iv_val hB ho hgd hd hS (by simpa [upd] using hw) ?_
      unfold execOp
      simp only [hop]
      simp [e9, VTE, go_sem]
    | 13, _, ho, hnd, hdep =>
      obtain ⟨hd, hop, hgd⟩ := say_of sTE_13 ho
      have x106 : t[106]?.getD undef = _ := hS.at dTE_11 (waits (j := 11) (by kernel_rfl) ho hdep)
      simp only [VTE] at x106
      have x107 : t[107]?.getD undef = _ := hS.at dTE_12 (waits (j := 12) (by kernel_rfl) ho hdep)
      simp only [VTE] at x107
      refine iv_val hB ho hgd hd hS (by simpa [upd] using hw) ?_
      unfold execOp
      simp only [hop]
      simp [x106, x107, jI, j0, addr_add, VTE, go_sem]
    | 14, _, ho, hnd, hdep =>
      obtain ⟨hd, hop, hgd⟩ := say_of sTE_14 ho
      have x108 : t[108]?.getD undef = _ := hS.at dTE_13 (waits (j := 13) (by kernel_rfl) ho hdep)
      simp only [VTE] at x108
      refine iv_val hB ho hgd hd hS (by simpa [upd] using hw) ?_
      unfold execOp
      simp only [hop]
      simp [x108, VTE, go_sem]
    | 15, _, ho, hnd, hdep =>
      obtain ⟨hd, hop, hgd⟩ := say_of sTE_15 ho
      have x109 : t[109]?.getD undef = _ := hS.at dTE_14 (waits (j := 14) (by kernel_rfl) ho hdep)
      simp only [VTE] at x109
      have ny16 : done 16 = false := not_yet (k := 15) (j := 16) (by kernel_rfl) hcl hnd
      have ny17 : done 17 = false := not_yet (k := 16) (j := 17) (by kernel_rfl) hcl ny16
      have ny18 : done 18 = false := not_yet (k := 17) (j := 18) (by kernel_rfl) hcl ny17
      have hw0 : w = wr.drew := by rw [hw]; simp [ny17, ny18]
      refine iv_val hB ho hgd hd hS (by simpa [upd] using hw) ?_
      exact exec_load53 (a := ⟨t, []⟩) _ hop gb (ob + j * 71 + 36) (by show t.getD 109 undef = _; rw [Array.getD_eq_getD_getElem?]; exact x109) YN sN (by rw [hw0]; exact lN)
    | 16, _, ho, hnd, hdep =>
      obtain ⟨hd, hop, hgd⟩ := say_of sTE_16 ho
      have x100 : t[100]?.getD undef = _ := hS.at dTE_5 (waits (j := 5) (by kernel_rfl) ho hdep)
      simp only [VTE] at x100
      have x105 : t[105]?.getD undef = _ := hS.at dTE_10 (waits (j := 10) (by kernel_rfl) ho hdep)
      simp only [VTE] at x105
      have x110 : t[110]?.getD undef = _ := hS.at dTE_15 (waits (j := 15) (by kernel_rfl) ho hdep)
      simp only [VTE] at x110
      refine iv_val hB ho hgd hd hS (by simpa [upd] using hw) ?_
      exact hZ (a := ⟨t, []⟩) _ _ _ hop (by show t.getD 100 undef = _; rw [Array.getD_eq_getD_getElem?]; exact x100) (by show t.getD 105 undef = _; rw [Array.getD_eq_getD_getElem?]; exact x105) (by show t.getD 110 undef = _; rw [Array.getD_eq_getD_getElem?]; exact x110) _
    | 17, _, ho, hnd, hdep =>
      obtain ⟨hd, hop, hgd⟩ := say_of sTE_17 ho
      have x111 : t[111]?.getD undef = _ := hS.at dTE_16 (waits (j := 16) (by kernel_rfl) ho hdep)
      simp only [VTE] at x111
      have ny18 : done 18 = false := not_yet (k := 17) (j := 18) (by kernel_rfl) hcl hnd
      have hw0 : w = wr.drew := by rw [hw]; simp [hnd, ny18]
      subst hw0
      refine iv_valW (w' := wB) hB ho hgd hd hS (by simp [upd, ny18]) ?_
      rw [← hwB]
      exact exec_slice55 (a := ⟨t, []⟩) _ hop Z (by show t.getD 111 undef = _; rw [Array.getD_eq_getD_getElem?]; exact x111) sZ _ B hB0
    | 18, _, ho, hnd, hdep =>
      obtain ⟨hd, hop, hgd⟩ := say_of sTE_18 ho
      have x95 : t[95]?.getD undef = _ := hS.at dTE_0 (waits (j := 0) (by kernel_rfl) ho hdep)
      simp only [VTE] at x95
      have x112 : t[112]?.getD undef = _ := hS.at dTE_17 (waits (j := 17) (by kernel_rfl) ho hdep)
      simp only [VTE] at x112
      have yes : done 17 = true := waits (j := 17) (by kernel_rfl) ho hdep
      have hw0 : w = wB := by rw [hw]; simp [hnd, yes]
      subst hw0
      refine iv_valW (w' := wC) hB ho hgd hd hS (by simp [upd]) ?_
      refine exec_app (a := ⟨t, []⟩) (v := v) (src := .slice (some ⟨B, 0, none⟩) 1 1) hop (by show t.getD 95 undef = _; rw [Array.getD_eq_getD_getElem?]; exact x95) (by show t.getD 112 undef = _; rw [Array.getD_eq_getD_getElem?]; exact x112) ?_
      rw [show op.type = 22 from by have := congrArg (·.map (·.type)) ho; simpa using this.symm.trans (show _ = some 22 from by kernel_rfl)]
      exact hA
    | 19, _, ho, hnd, hdep =>
      obtain ⟨hd, hop, hgd⟩ := say_of sTE_19 ho
      have x113 : t[113]?.getD undef = _ := hS.at dTE_18 (waits (j := 18) (by kernel_rfl) ho hdep)
      simp only [VTE] at x113
      refine iv_val hB ho hgd hd hS (by simpa [upd] using hw) ?_
      unfold execOp
      simp only [hop]
      simp [x113, VTE, go_sem]
theorem foldTE (ga oa n cp i gb ob m cq j : Nat) (v v2 : Value) (B : Nat) (p : ByteArray) (YO YN Z : Array Value) (t0 : Array Value) : fold (opsAt Tryz.f16 21) (VTE ga oa n cp i gb ob m cq j v v2 B p YO YN Z) t0 20 = ((((((((((((((((((((t0.setIfInBounds 95 (v)).setIfInBounds 96 (.slice (some ⟨ga, oa, none⟩) n cp)).setIfInBounds 97 (.int .i64 (i : Int))).setIfInBounds 98 (.pointer (some ⟨ga, oa + i * 71, none⟩))).setIfInBounds 99 (.pointer (some ⟨ga, oa + i * 71, none⟩))).setIfInBounds 100 (.string p)).setIfInBounds 101 (.slice (some ⟨ga, oa, none⟩) n cp)).setIfInBounds 102 (.int .i64 (i : Int))).setIfInBounds 103 (.pointer (some ⟨ga, oa + i * 71, none⟩))).setIfInBounds 104 (.pointer (some ⟨ga, oa + i * 71 + 1, none⟩))).setIfInBounds 105 (.agg YO)).setIfInBounds 106 (.slice (some ⟨gb, ob, none⟩) m cq)).setIfInBounds 107 (.int .i64 (j : Int))).setIfInBounds 108 (.pointer (some ⟨gb, ob + j * 71, none⟩))).setIfInBounds 109 (.pointer (some ⟨gb, ob + j * 71 + 36, none⟩))).setIfInBounds 110 (.agg YN)).setIfInBounds 111 (.agg Z)).setIfInBounds 112 (.slice (some ⟨B, 0, none⟩) 1 1)).setIfInBounds 113 (v2)).setIfInBounds 6 (v2)) := by kernel_rfl

end Go.Proofs.YthioflehpifflaaGreatDoor
namespace Go.Proofs.YthioflehpifflaaGreatDoor
open Go.RowKit

theorem itm_neg {A B : List Cd} {i j : Nat} (h : ordA A B i j < 0) : itm A B i j = (some i, none) ∧ ni A B i j = i + 1 ∧ nj A B i j = j := by
  unfold itm ni nj
  rw [if_pos (by omega), if_neg (by omega), if_pos (by omega), if_neg (by omega)]
  exact ⟨rfl, rfl, rfl⟩
theorem itm_pos {A B : List Cd} {i j : Nat} (h : 0 < ordA A B i j) : itm A B i j = (none, some j) ∧ ni A B i j = i ∧ nj A B i j = j + 1 := by
  unfold itm ni nj
  rw [if_neg (by omega), if_pos (by omega), if_neg (by omega), if_pos (by omega)]
  exact ⟨rfl, rfl, rfl⟩
theorem itm_zero {A B : List Cd} {i j : Nat} (h : ordA A B i j = 0) : itm A B i j = (some i, some j) ∧ ni A B i j = i + 1 ∧ nj A B i j = j + 1 := by
  unfold itm ni nj
  rw [if_pos (by omega), if_pos (by omega), if_pos (by omega), if_pos (by omega)]
  exact ⟨rfl, rfl, rfl⟩
theorem snoc_mg {A B : List Cd} {i j : Nat} {pre : List Pr} (hc : i < A.length ∨ j < B.length) (h : pre ++ mg A B i j = mg A B 0 0) : (pre ++ [itm A B i j]) ++ mg A B (ni A B i j) (nj A B i j) = mg A B 0 0 := by
  rw [List.append_assoc, List.singleton_append, ← mg_step hc]; exact h
/-- a change that lies somewhere, laid behind one's own list -/
theorem app_copy {w : World} {lo : Nat} {v : Value} {R : List Cd} (c : Cd) (h : OwnsR w lo v R) (hb : lo ≤ w.heap.size) (hl : R.length ≤ 20000) (B : Nat) (hB : w.heap.size = B) :
    ∃ v' w', (Builtin.append_ #[22, 22] 22 #[v, .slice (some ⟨B, 0, none⟩) 1 1]).run Tryz.prog (w.alloc (.cells (cc c) 55)) = .ok v' w' ∧ OwnsR w' lo v' (R ++ [c]) ∧ Below lo w w' := by
  obtain ⟨v', w', h1, h2, h3, _, _⟩ := app_one 22 c _ rfl h hb (by omega) B hB
  exact ⟨v', w', h1, h2, h3⟩
set_option maxHeartbeats 8000000 in
set_option maxRecDepth 100000 in
theorem refThen_any (ao bo : Option Addr) (cp cq : Nat) (A B : List Cd) (w : World) (ha : HasA w (.slice ao A.length cp) A) (hb : HasA w (.slice bo B.length cq) B) (hn : A.length ≤ 10000) (hm : B.length ≤ 10000) (hpa : ∀ c ∈ A, c.path.size ≤ 1048576) (hpb : ∀ c ∈ B, c.path.size ≤ 1048576) :
    Calls Tryz.prog 16 #[.slice ao A.length cp, .slice bo B.length cq] w fun e w' => ∃ v, e = .returned (.tuple #[v, .int .i64 (thenE A B)]) ∧ OwnsR w' w.heap.size v (thenR A B) ∧ Below w.heap.size w w' := by
  obtain ⟨n, hn'⟩ : ∃ n, A.length = n := ⟨_, rfl⟩
  obtain ⟨m, hm'⟩ : ∃ m, B.length = m := ⟨_, rfl⟩
  obtain ⟨B0, hB0⟩ : ∃ B0, w.heap.size = B0 := ⟨_, rfl⟩
  have HCA := hid (refRises_any ao cp A w ha (by omega) hpa)
  have HCB : Hid (∀ W, Below w.heap.size w W → Calls Tryz.prog 54 #[.slice bo B.length cq] W fun e w' => e = .returned (.bool (riseB none B)) ∧ Below W.heap.size W w') := fun W hW => refRises_any bo cq B W (hb.below hW) (by omega) hpb
  have HA := hid ha
  have HB := hid hb
  have HN := hid hn'
  have HM := hid hm'
  have HPA := hid hpa
  have HPB := hid hpb
  rw [hn'] at hn HA HCA ⊢
  rw [hm'] at hm HB HCB ⊢
  clear ha hb hn' hm' hpa hpb
  cases hra : riseB none A with
  | false =>
    have HT : Hid (thenE A B = 130 ∧ thenR A B = []) := by
      have : thenE A B = 130 := by simp [thenE, hra]
      exact ⟨this, by simp [thenR, this]⟩
    rw [hra] at HCA
    rw [HT.out.1, HT.out.2]
    go_enter Tryz.func16, Tryz.ntmps16
    go_wp2_with (go_at_call 54; refine HCA.out.mono ?_; rintro e w1 ⟨rfl, hb1⟩)
    go_ret2
    exact ⟨_, rfl, OwnsR.nil _ _, hb1⟩
  | true =>
    rw [hra] at HCA
    cases hrb : riseB none B with
    | false =>
      have HT : Hid (thenE A B = 130 ∧ thenR A B = []) := by
        have : thenE A B = 130 := by simp [thenE, hrb]
        exact ⟨this, by simp [thenR, this]⟩
      rw [hrb] at HCB
      rw [HT.out.1, HT.out.2]
      go_enter Tryz.func16, Tryz.ntmps16
      go_wp2_with (first
        | (go_at_call_of 54 (Value.slice ao n cp); refine HCA.out.mono ?_; rintro e w1 ⟨rfl, hb1⟩)
        | (go_at_call_of 54 (Value.slice bo m cq); refine (HCB.out _ hb1).mono ?_; rintro e w2 ⟨rfl, hb2⟩))
      go_ret2
      exact ⟨_, rfl, OwnsR.nil _ _, Below.up hb1 hb2⟩
    | true =>
      have HT : Hid (thenE A B = if wrong A B (mg A B 0 0) then 131 else 0) := by
        show thenE A B = _
        simp [thenE, hra, hrb]
      rw [hrb] at HCB
      clear hra hrb
      go_enter Tryz.func16, Tryz.ntmps16
      go_wp2_with (first
        | (go_at_call_of 54 (Value.slice ao n cp); refine HCA.out.mono ?_; rintro e w1 ⟨rfl, hb1⟩)
        | (go_at_call_of 54 (Value.slice bo m cq); refine (HCB.out _ hb1).mono ?_; rintro e w2 ⟨rfl, hb2⟩))
      have H0 : Hid (Below w.heap.size w w2) := Below.up hb1 hb2
      clear hb1 hb2 HCA HCB
      go_loopg [6, 7, 8, 9] (n + m) (fun gh v b i8 i9 wr => ∃ (i j : Nat) (pre : List Pr), i ≤ n ∧ j ≤ m ∧ gh = (n - i) + (m - j) ∧ i8 = .int .i64 (i : Int) ∧ i9 = .int .i64 (j : Int) ∧ b = .bool (wrong A B pre) ∧ Hid (pre ++ mg A B i j = mg A B 0 0 ∧ OwnsR wr B0 v (outs A B pre) ∧ Below w.heap.size w wr))
      case atStart => exact ⟨0, 0, [], Nat.zero_le _, Nat.zero_le _, by omega, rfl, rfl, rfl, by simp, OwnsR.nil _ _, H0.out⟩
      case round =>
        obtain ⟨i, j, pre, hi, hj, rfl, rfl, rfl, rfl, HR⟩ := hrel
        by_cases hc : i < A.length ∨ j < B.length
        · go_upto_region 6 with fail
          go_cut [28] (fun s28 wx => s28 = .bool true ∧ wx = wr)
          case first =>
            by_cases h1 : (i : Int) < (n : Int)
            · go_wp2
              go_meet
              exact ⟨rfl, rfl⟩
            · have h2 : (j : Int) < (m : Int) := by have := HN.out; have := HM.out; omega
              go_wp2
              go_meet
              exact ⟨rfl, rfl⟩
          case rest =>
          obtain ⟨rfl, rfl⟩ := hcut
          go_upto_if 32 with fail
          go_cut [10] (fun s10 wx => s10 = .int .i64 (ordA A B i j) ∧ Hid (Below wc.heap.size wc wx))
          case first =>
            by_cases h1 : i = n
            · have h1' : ((i : Int) == (n : Int)) = true := by simp [h1]
              have ho : ordA A B i j = 1 := by unfold ordA; rw [List.getElem?_eq_none (by have := HN.out; omega)]
              have HO := hid ho
              clear ho
              go_wp2
              go_meet
              exact ⟨by rw [HO.out], Below.refl _ _⟩
            · have h1' : ((i : Int) == (n : Int)) = false := by simp; omega
              have hi1 : i < A.length := by have := HN.out; omega
              obtain ⟨x, hx⟩ : ∃ x, A[i]? = some x := ⟨A[i], by simp⟩
              by_cases h2 : j = m
              · have h2' : ((j : Int) == (m : Int)) = true := by simp [h2]
                have ho : ordA A B i j = -1 := by unfold ordA; rw [hx, List.getElem?_eq_none (by have := HM.out; omega)]
                have HO := hid ho
                clear ho
                go_wp2
                go_meet
                exact ⟨by rw [HO.out], Below.refl _ _⟩
              · have h2' : ((j : Int) == (m : Int)) = false := by simp; omega
                have hj1 : j < B.length := by have := HM.out; omega
                obtain ⟨y, hy⟩ : ∃ y, B[j]? = some y := ⟨B[j], by simp⟩
                obtain ⟨ga, oa, rfl, la⟩ := (HA.out.below HR.out.2.2).at hx
                obtain ⟨gb, ob, rfl, lb⟩ := (HB.out.below HR.out.2.2).at hy
                have ho : cmpL (tl x.path) (tl y.path) = ordA A B i j := by unfold ordA; rw [hx, hy]
                obtain ⟨cm, hcm⟩ : ∃ cm, ordA A B i j = cm := ⟨_, rfl⟩
                rw [hcm] at ho
                have HCM := hid hcm
                have HLL := hid (And.intro la lb)
                have HS := hid (And.intro (HPA.out x (List.mem_of_getElem? hx)) (HPB.out y (List.mem_of_getElem? hy)))
                have HO := hid ho
                clear la lb ho hcm hx hy
                go_upto_region 12 with fail
                refine regTA ga oa n cp i gb ob m cq j x y cm _ wc rfl rfl rfl rfl rfl (by have := HN.out; omega) (by have := HM.out; omega) HLL.out.1 HLL.out.2 HS.out.1 HS.out.2 HO.out fun wz hz => ?_
                rw [foldTA]
                go_simp
                go_wp2
                go_meet
                exact ⟨by rw [HCM.out], hz⟩
          case rest =>
          obtain ⟨rfl, HC⟩ := hcut
          rename_i wcO wc
          obtain ⟨od, hod⟩ : ∃ od, ordA A B i j = od := ⟨_, rfl⟩
          have HOD := hid hod
          rw [hod]
          rcases Int.lt_trichotomy od 0 with hneg | hzero | hpos
          · have o1 : od < 0 := hneg
            rw [← HOD.out] at hneg
            have hlt : i < A.length := ord_left hc (by omega)
            have hltN : i < n := by have := HN.out; omega
            have kI : (i : Int) < (n : Int) := by omega
            have k0 : (0 : Int) ≤ (i : Int) := by omega
            obtain ⟨x, hx⟩ : ∃ x, A[i]? = some x := ⟨A[i], by simp⟩
            obtain ⟨gq, oq, rfl, la⟩ := (HA.out.below (Below.up HR.out.2.2 HC.out)).at hx
            obtain ⟨e1, e2, e3⟩ := itm_neg hneg
            have hmg := snoc_mg hc HR.out.1
            rw [e1, e2, e3] at hmg
            have hout : outs A B (pre ++ [itm A B i j]) = outs A B pre ++ [x] := by rw [outs_snoc, e1]; simp only [outP]; rw [getD_of hx]
            have hwr : wrong A B (pre ++ [itm A B i j]) = wrong A B pre := by rw [wrong_snoc, e1]; simp [badP]
            rw [e1] at hout hwr
            have hfew := outs_few HR.out.1
            have ow := HR.out.2.1.up HC.out
            have gB := Below.up HR.out.2.2 HC.out
            obtain ⟨C0, hC0⟩ : ∃ C0, wc.heap.size = C0 := ⟨_, rfl⟩
            have hs0 := gB.size
            obtain ⟨v2, w3, hr3, ow3, gb3⟩ := app_copy x ow (by omega) (by have := HN.out; have := HM.out; omega) C0 hC0
            have HR3 := hid hr3
            have HE : Hid ((pre ++ [(some i, none)]) ++ mg A B (i + 1) j = mg A B 0 0 ∧ OwnsR w3 B0 v2 (outs A B (pre ++ [(some i, none)])) ∧ Below w.heap.size w w3) := ⟨hmg, by rw [hout]; exact ow3, by rw [hB0] at gB ⊢; exact gB.trans gb3⟩
            have HW := hid hwr
            have HLa := hid la
            obtain ⟨pv, pc, hpv⟩ := HR.out.2.1.form
            obtain ⟨on, hon⟩ : ∃ on, (outs A B pre).length = on := ⟨_, rfl⟩
            rw [hon] at hpv
            subst hpv
            obtain ⟨X, hX⟩ : ∃ X, cc x = X := ⟨_, rfl⟩
            have HX : Hid (X.size = 71) := by show X.size = 71; rw [← hX]; exact cc_size x
            rw [hX] at HLa HR3
            clear hmg hout hwr hfew ow gB hs0 hr3 ow3 gb3 la hX hx e1 e2 e3 HR hon
            go_wp2_with (first
              | ((with_reducible refine wpList_exec (.agg X) ?_ ?_ ?_); exact exec_load 55 _ rfl gq (oq + i * 71) rfl X _ HLa.out under55 rfl (by rw [size55, HX.out]); kernel_rfl)
              | ((with_reducible refine wpList_execW (.slice (some ⟨C0, 0, none⟩) 1 1) (wc.alloc (.cells X 55)) ?_ ?_ ?_); exact exec_slice55 _ rfl X rfl HX.out _ _ hC0; kernel_rfl)
              | ((with_reducible refine wpList_execW v2 w3 ?_ ?_ ?_); exact exec_app (v := .slice pv on pc) (src := .slice (some ⟨C0, 0, none⟩) 1 1) rfl rfl rfl HR3.out; kernel_rfl))
            go_roundg ((n - (i + 1)) + (m - j))
            case measure => omega
            case rel => exact ⟨i + 1, j, pre ++ [(some i, none)], by omega, by omega, rfl, by go_num, by go_num, by rw [HW.out], HE.out⟩
          · subst hzero
            have hzero := HOD.out
            have hi1 : i < A.length := ord_left hc (by omega)
            have hj1 : j < B.length := ord_right hc (by omega)
            have hin : i < n := by have := HN.out; omega
            have hjm : j < m := by have := HM.out; omega
            obtain ⟨x, hx⟩ : ∃ x, A[i]? = some x := ⟨A[i], by simp⟩
            obtain ⟨y, hy⟩ : ∃ y, B[j]? = some y := ⟨B[j], by simp⟩
            have gB := Below.up HR.out.2.2 HC.out
            obtain ⟨ga, oa, rfl, la⟩ := (HA.out.below gB).at hx
            obtain ⟨gb, ob, rfl, lb⟩ := (HB.out.below gB).at hy
            obtain ⟨e1, e2, e3⟩ := itm_zero hzero
            have hmg := snoc_mg hc HR.out.1
            rw [e1, e2, e3] at hmg
            have hout : outs A B (pre ++ [(some i, some j)]) = outs A B pre ++ (if x.old = y.new then [] else [⟨x.path, x.old, y.new⟩]) := by rw [outs_snoc]; simp only [outP]; rw [getD_of hx, getD_of hy]
            have hwr : wrong A B (pre ++ [(some i, some j)]) = (wrong A B pre || !decide (x.new = y.old)) := by rw [wrong_snoc]; simp only [badP]; rw [getD_of hx, getD_of hy]
            have hfew := outs_few HR.out.1
            have HGB := hid gB
            have HLL := hid (And.intro la lb)
            have HMG := hid hmg
            have HOUT := hid hout
            have HWR := hid hwr
            have HFEW := hid hfew
            have HOW := hid (HR.out.2.1.up HC.out)
            obtain ⟨pv, pc, hpv⟩ := HR.out.2.1.form
            obtain ⟨on, hon⟩ : ∃ on, (outs A B pre).length = on := ⟨_, rfl⟩
            rw [hon] at hpv
            subst hpv
            obtain ⟨wp, hwp⟩ : ∃ wp, wrong A B pre = wp := ⟨_, rfl⟩
            obtain ⟨nb, hnb⟩ : ∃ nb, wrong A B (pre ++ [(some i, some j)]) = nb := ⟨_, rfl⟩
            rw [hwp, hnb] at HWR
            rw [hwp]
            have HNB := hid hnb
            clear hmg hout hwr hfew gB la lb hx hy e1 e2 e3 HR hon hwp hnb
            obtain ⟨wA, rfl⟩ : ∃ wA, wA = wc := ⟨_, rfl⟩
            go_upto_region 19 with fail
            go_cut [7] (fun s7 wx => s7 = .bool nb ∧ Hid (Below wA.heap.size wA wx))
            case first =>
              cases wp with
              | true =>
                have hb : nb = true := by rw [HWR.out]; rfl
                subst hb
                refine regTC _ wA rfl rfl fun wz hz => ?_
                rw [foldTC]
                go_simp
                go_wp2
                go_meet
                exact ⟨rfl, hz⟩
              | false =>
                refine regTB ga oa n cp i gb ob m cq j _ _ nb _ _ rfl rfl rfl rfl rfl rfl x y hin hjm HLL.out.1 HLL.out.2 rfl rfl (by rw [HWR.out]; simp) fun wz hz => ?_
                rw [foldTB]
                go_simp
                go_wp2
                go_meet
                exact ⟨rfl, hz⟩
            case rest =>
              obtain ⟨rfl, HC2⟩ := hcut
              by_cases hon2 : x.old = y.new
              · have HOUT2 : Hid (outs A B (pre ++ [(some i, some j)]) = outs A B pre) := by
                  show _ = _
                  rw [HOUT.out, if_pos hon2, List.append_nil]
                go_upto_region 20 with fail
                refine regTD ga oa n cp i gb ob m cq j _ _ false _ wc rfl rfl rfl rfl rfl x y hin hjm (HLL.out.1.below HC2.out) (HLL.out.2.below HC2.out) rfl rfl (by simp [hon2]) fun wz hz => ?_
                rw [foldTD]
                have gz : Below wA.heap.size wA wz := Below.up HC2.out hz
                have HE : Hid ((pre ++ [(some i, some j)]) ++ mg A B (i + 1) (j + 1) = mg A B 0 0 ∧ OwnsR wz B0 (.slice pv on pc) (outs A B (pre ++ [(some i, some j)])) ∧ Below w.heap.size w wz) := ⟨HMG.out, by rw [HOUT2.out]; exact HOW.out.up gz, Below.up HGB.out gz⟩
                generalize (vx x.old).toArray = YO
                generalize (vx y.new).toArray = YN
                clear hz gz HLL HMG HOUT HOUT2 HWR HOW HGB HFEW HC HC2
                go_simp
                go_wp2
                go_roundg ((n - (i + 1)) + (m - (j + 1)))
                case measure => omega
                case rel => exact ⟨i + 1, j + 1, pre ++ [(some i, some j)], by omega, by omega, rfl, by go_num, by go_num, by rw [HNB.out], HE.out⟩
              · have HOUT2 : Hid (outs A B (pre ++ [(some i, some j)]) = outs A B pre ++ [⟨x.path, x.old, y.new⟩]) := by
                  show _ = _
                  rw [HOUT.out, if_neg hon2]
                go_upto_region 20 with fail
                refine regTD ga oa n cp i gb ob m cq j _ _ true _ wc rfl rfl rfl rfl rfl x y hin hjm (HLL.out.1.below HC2.out) (HLL.out.2.below HC2.out) rfl rfl (by simp [hon2]) fun wz hz => ?_
                rw [foldTD]
                have gz : Below wA.heap.size wA wz := Below.up HC2.out hz
                have gd : Below wz.heap.size wz wz.drew := (Below.refl _ wz).drew
                obtain ⟨wd, hwd⟩ : ∃ wd, wz.drew = wd := ⟨_, rfl⟩
                rw [hwd] at gd
                have gzd := Below.up gz gd
                obtain ⟨B1, hB1⟩ : ∃ B1, wd.heap.size = B1 := ⟨_, rfl⟩
                have hsz := (Below.up HGB.out gzd).size
                obtain ⟨v2, w3, hr3, ow3, gb3⟩ := app_copy (⟨x.path, x.old, y.new⟩ : Cd) (HOW.out.up gzd) (by omega) (by have := HN.out; have := HM.out; have := HFEW.out; omega) B1 hB1
                have HE : Hid ((pre ++ [(some i, some j)]) ++ mg A B (i + 1) (j + 1) = mg A B 0 0 ∧ OwnsR w3 B0 v2 (outs A B (pre ++ [(some i, some j)])) ∧ Below w.heap.size w w3) := ⟨HMG.out, by rw [HOUT2.out]; exact ow3, by have := Below.up HGB.out gzd; rw [hB0] at this ⊢; exact this.trans gb3⟩
                have HL1 := hid (HLL.out.1.below gzd)
                have HL2 := hid (HLL.out.2.below gzd)
                have HR3 := hid hr3
                generalize (vx x.old).toArray = YO0
                generalize (vx y.new).toArray = YN0
                clear hz gz gd gzd hsz ow3 gb3 hr3 HLL HMG HOUT HOUT2 HWR HOW HGB HFEW HC HC2
                go_simp
                go_upto_region 21 with fail
                refine regTE ga oa n cp i gb ob m cq j (.slice pv on pc) v2 B1 x.path (vx x.old).toArray (vx y.new).toArray (cc ⟨x.path, x.old, y.new⟩) (wd.alloc (.cells (cc ⟨x.path, x.old, y.new⟩) 55)) w3 _ wz rfl rfl rfl rfl rfl rfl hin hjm (by rw [hwd]; exact HL1.out.path) (by rw [hwd]; exact HL1.out.old) (by rw [hwd]; exact HL2.out.new) (by simp [vx_len]) (by simp [vx_len]) (fun p q r ho hp hq hr w => exec_build55 p q r ho x.path x.old y.new hp hq hr w) (cc_size _) (by rw [hwd]) (by rw [hwd]; exact hB1) HR3.out ?_
                rw [foldTE]
                generalize (vx x.old).toArray = YO
                generalize (vx y.new).toArray = YN
                generalize cc ⟨x.path, x.old, y.new⟩ = Z
                clear HL1 HL2 HR3 hwd hB1
                go_simp
                go_wp2
                go_roundg ((n - (i + 1)) + (m - (j + 1)))
                case measure => omega
                case rel => exact ⟨i + 1, j + 1, pre ++ [(some i, some j)], by omega, by omega, rfl, by go_num, by go_num, by rw [HNB.out], HE.out⟩
          · have o1 : ¬ od < 0 := by omega
            have o2 : 0 < od := hpos
            rw [← HOD.out] at hpos
            have hlt : j < B.length := ord_right hc (by omega)
            have hltN : j < m := by have := HM.out; omega
            have kI : (j : Int) < (m : Int) := by omega
            have k0 : (0 : Int) ≤ (j : Int) := by omega
            obtain ⟨x, hx⟩ : ∃ x, B[j]? = some x := ⟨B[j], by simp⟩
            obtain ⟨gq, oq, rfl, la⟩ := (HB.out.below (Below.up HR.out.2.2 HC.out)).at hx
            obtain ⟨e1, e2, e3⟩ := itm_pos hpos
            have hmg := snoc_mg hc HR.out.1
            rw [e1, e2, e3] at hmg
            have hout : outs A B (pre ++ [itm A B i j]) = outs A B pre ++ [x] := by rw [outs_snoc, e1]; simp only [outP]; rw [getD_of hx]
            have hwr : wrong A B (pre ++ [itm A B i j]) = wrong A B pre := by rw [wrong_snoc, e1]; simp [badP]
            rw [e1] at hout hwr
            have hfew := outs_few HR.out.1
            have ow := HR.out.2.1.up HC.out
            have gB := Below.up HR.out.2.2 HC.out
            obtain ⟨C0, hC0⟩ : ∃ C0, wc.heap.size = C0 := ⟨_, rfl⟩
            have hs0 := gB.size
            obtain ⟨v2, w3, hr3, ow3, gb3⟩ := app_copy x ow (by omega) (by have := HN.out; have := HM.out; omega) C0 hC0
            have HR3 := hid hr3
            have HE : Hid ((pre ++ [(none, some j)]) ++ mg A B i (j + 1) = mg A B 0 0 ∧ OwnsR w3 B0 v2 (outs A B (pre ++ [(none, some j)])) ∧ Below w.heap.size w w3) := ⟨hmg, by rw [hout]; exact ow3, by rw [hB0] at gB ⊢; exact gB.trans gb3⟩
            have HW := hid hwr
            have HLa := hid la
            obtain ⟨pv, pc, hpv⟩ := HR.out.2.1.form
            obtain ⟨on, hon⟩ : ∃ on, (outs A B pre).length = on := ⟨_, rfl⟩
            rw [hon] at hpv
            subst hpv
            obtain ⟨X, hX⟩ : ∃ X, cc x = X := ⟨_, rfl⟩
            have HX : Hid (X.size = 71) := by show X.size = 71; rw [← hX]; exact cc_size x
            rw [hX] at HLa HR3
            clear hmg hout hwr hfew ow gB hs0 hr3 ow3 gb3 la hX hx e1 e2 e3 HR hon
            go_wp2_with (first
              | ((with_reducible refine wpList_exec (.agg X) ?_ ?_ ?_); exact exec_load 55 _ rfl gq (oq + j * 71) rfl X _ HLa.out under55 rfl (by rw [size55, HX.out]); kernel_rfl)
              | ((with_reducible refine wpList_execW (.slice (some ⟨C0, 0, none⟩) 1 1) (wc.alloc (.cells X 55)) ?_ ?_ ?_); exact exec_slice55 _ rfl X rfl HX.out _ _ hC0; kernel_rfl)
              | ((with_reducible refine wpList_execW v2 w3 ?_ ?_ ?_); exact exec_app (v := .slice pv on pc) (src := .slice (some ⟨C0, 0, none⟩) 1 1) rfl rfl rfl HR3.out; kernel_rfl))
            go_roundg ((n - i) + (m - (j + 1)))
            case measure => omega
            case rel => exact ⟨i, j + 1, pre ++ [(none, some j)], by omega, by omega, rfl, by go_num, by go_num, by rw [HW.out], HE.out⟩
        · have hin : i = n := by have := HN.out; have := HM.out; omega
          have hjm : j = m := by have := HN.out; have := HM.out; omega
          have h1 : ¬ ((i : Int) < (n : Int)) := by omega
          have h2 : ¬ ((j : Int) < (m : Int)) := by omega
          have hmg := HR.out.1
          rw [mg_done hc, List.append_nil] at hmg
          cases hwr : wrong A B pre with
          | true =>
            have HT2 : Hid (thenE A B = 131 ∧ thenR A B = []) := by
              have : thenE A B = 131 := by rw [HT.out, ← hmg, hwr]; rfl
              exact ⟨this, by simp [thenR, this]⟩
            have HZ := hid HR.out.2.2
            clear hmg HR hc hwr
            go_wp2
            go_ret2
            exact ⟨.slice none 0 0, by rw [HT2.out.1]; rfl, by rw [HT2.out.2]; exact OwnsR.nil _ _, by have := HZ.out; rwa [hB0] at this⟩
          | false =>
            have HT2 : Hid (thenE A B = 0 ∧ thenR A B = outs A B pre) := by
              have : thenE A B = 0 := by rw [HT.out, ← hmg, hwr]; rfl
              exact ⟨this, by rw [thenR, if_pos this, hmg]⟩
            have HZ := hid HR.out.2
            clear hmg HR hc hwr
            go_wp2
            go_ret2
            exact ⟨u6, by rw [HT2.out.1]; rfl, by rw [HT2.out.2]; exact HZ.out.1, by have := HZ.out.2; rwa [hB0] at this⟩
end Go.Proofs.YthioflehpifflaaGreatDoor
