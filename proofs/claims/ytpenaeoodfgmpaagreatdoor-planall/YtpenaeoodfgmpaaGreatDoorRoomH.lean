/-
  The Room's Hold of one list of cells; Merge.
-/
import Derived.Test.YtpenaeoodfgmpaaGreatDoorRoomI
import Derived.Deep.CutBlock
namespace Go.Proofs.YtpenaeoodfgmpaaGreatDoor
open Go.RowKit

theorem backH : backB (opsAt Tryz.f49 9) = true := by kernel_rfl
theorem dstH : dstB (opsAt Tryz.f49 9) 53 = true := by kernel_rfl
theorem sizeH : (opsAt Tryz.f49 9).size = 7 := by kernel_rfl
theorem freeH4 : freeB (opsAt Tryz.f49 9) 4 = true := by kernel_rfl
theorem freeH5 : freeB (opsAt Tryz.f49 9) 5 = true := by kernel_rfl
theorem freeH6 : freeB (opsAt Tryz.f49 9) 6 = true := by kernel_rfl
def VH (n j : Nat) : Nat → Value
  | 0 => .agg (cc (mkC j))
  | 1 => .int .i64 ((n : Int) + (j : Int))
  | 2 => .int .i64 (n : Int)
  | 3 => .int .i64 (j : Int)
  | 4 => .int .i64 (lotV j)
  | 5 => .agg (cc (mkC j))
  | 6 => .bool false
  | _ => undef
theorem sH_0 : say (opsAt Tryz.f49 9) 0 = some (some 46, .load 62 (.tmp 6), none) := by kernel_rfl
theorem dH_0 : slotB (opsAt Tryz.f49 9) 0 = some 46 := by kernel_rfl
theorem sH_1 : say (opsAt Tryz.f49 9) 1 = some (some 47, .move (.tmp 5), none) := by kernel_rfl
theorem dH_1 : slotB (opsAt Tryz.f49 9) 1 = some 47 := by kernel_rfl
theorem sH_2 : say (opsAt Tryz.f49 9) 2 = some (some 48, .move (.tmp 4), none) := by kernel_rfl
theorem dH_2 : slotB (opsAt Tryz.f49 9) 2 = some 48 := by kernel_rfl
theorem sH_3 : say (opsAt Tryz.f49 9) 3 = some (some 49, .binOp .sub 3 (.tmp 47) (.tmp 48) 3, none) := by kernel_rfl
theorem dH_3 : slotB (opsAt Tryz.f49 9) 3 = some 49 := by kernel_rfl
theorem sH_4 : say (opsAt Tryz.f49 9) 4 = some (some 50, .call { callee := .value (.func 88), args := #[.tmp 49], argTypes := #[3] }, none) := by kernel_rfl
theorem dH_4 : slotB (opsAt Tryz.f49 9) 4 = some 50 := by kernel_rfl
theorem sH_5 : say (opsAt Tryz.f49 9) 5 = some (some 51, .build 62 #[(1, .tmp 50)], none) := by kernel_rfl
theorem dH_5 : slotB (opsAt Tryz.f49 9) 5 = some 51 := by kernel_rfl
theorem sH_6 : say (opsAt Tryz.f49 9) 6 = some (some 52, .binOp .neq 62 (.tmp 46) (.tmp 51) 62, none) := by kernel_rfl
theorem dH_6 : slotB (opsAt Tryz.f49 9) 6 = some 52 := by kernel_rfl
set_option maxHeartbeats 4000000 in
set_option maxRecDepth 100000 in
theorem regH (n j BB : Nat) (t0 : Array Value) (wr : World) {Q : Exit → Act → World → Prop} (ht : t0.size = 53) (h4 : t0.getD 4 undef = .int .i64 (n : Int)) (h5 : t0.getD 5 undef = .int .i64 ((n : Int) + (j : Int))) (h6 : t0.getD 6 undef = .pointer (some ⟨BB, 0, none⟩))
    (hj : j ≤ 1000) (ha : Lies wr BB 0 (cc (mkC j)))
    (hQ : Q .normal ⟨fold (opsAt Tryz.f49 9) (VH n j) t0 7, []⟩ wr.drew) : (Code.region 9 (opsAt Tryz.f49 9) true).wp Tryz.prog Q ⟨t0, []⟩ wr := by
  have hB : dstB (opsAt Tryz.f49 9) t0.size = true := by rw [ht]; exact dstH
  have gd : G wr wr.drew := ⟨rfl, rfl, rfl, Nat.le_refl _, fun _ _ => rfl⟩
  refine inv_region Tryz.mixed (IV (opsAt Tryz.f49 9) (VH n j) t0 (fun _ w => w = wr.drew)) backH ⟨t0, rfl, ⟨rfl, fun _ _ => rfl, fun _ _ _ _ _ h => by cases h⟩, rfl⟩ ?_ ?_
  rotate_left 1
  · rintro done a w ⟨t, rfl, hS, rfl⟩ hall
    rw [hS.end hB hall, sizeH]
    exact hQ
  · rintro q op done a w ho ⟨t, rfl, hS, rfl⟩ hnd hdep hcl
    have e4 : t[4]?.getD undef = .int .i64 (n : Int) := (hS.old freeH4).trans h4
    have e5 : t[5]?.getD undef = .int .i64 ((n : Int) + (j : Int)) := (hS.old freeH5).trans h5
    have e6 : t[6]?.getD undef = .pointer (some ⟨BB, 0, none⟩) := (hS.old freeH6).trans h6
    have hlt : q < 7 := by rw [← sizeH]; exact (Array.getElem?_eq_some_iff.1 ho).1
    match q, hlt, ho, hnd, hdep with
    | 0, _, ho, hnd, hdep =>
      obtain ⟨hd, hop, hgd⟩ := say_of sH_0 ho
      refine iv_val hB ho hgd hd hS rfl ?_
      exact exec_load (a := ⟨t, []⟩) 62 _ hop BB 0 (cc (mkC j)) _ (by show t.getD 6 undef = _; rw [Array.getD_eq_getD_getElem?]; exact e6) _ (ha.up gd) under43 rfl size43
    | 1, _, ho, hnd, hdep =>
      obtain ⟨hd, hop, hgd⟩ := say_of sH_1 ho
      refine iv_val hB ho hgd hd hS rfl ?_
      unfold execOp
      simp only [hop]
      simp [e5, VH, go_sem]
    | 2, _, ho, hnd, hdep =>
      obtain ⟨hd, hop, hgd⟩ := say_of sH_2 ho
      refine iv_val hB ho hgd hd hS rfl ?_
      unfold execOp
      simp only [hop]
      simp [e4, VH, go_sem]
    | 3, _, ho, hnd, hdep =>
      obtain ⟨hd, hop, hgd⟩ := say_of sH_3 ho
      have x : t[47]?.getD undef = _ := hS.at dH_1 (waits (j := 1) (by kernel_rfl) ho hdep)
      simp only [VH] at x
      have y : t[48]?.getD undef = _ := hS.at dH_2 (waits (j := 2) (by kernel_rfl) ho hdep)
      simp only [VH] at y
      have e9 : (n : Int) + (j : Int) - (n : Int) = (j : Int) := by omega
      have wj : IntKind.i64.wrap (j : Int) = (j : Int) := by rw [IntKind.wrap_i64] <;> omega
      refine iv_val hB ho hgd hd hS rfl ?_
      unfold execOp
      simp only [hop]
      simp [x, y, e9, wj, VH, go_sem]
    | 4, _, ho, hnd, hdep =>
      obtain ⟨hd, hop, hgd⟩ := say_of sH_4 ho
      have x : t[49]?.getD undef = _ := hS.at dH_3 (waits (j := 3) (by kernel_rfl) ho hdep)
      simp only [VH] at x
      refine iv_call 88 #[.int .i64 (j : Int)] hB ho hgd hd hS rfl ?_ (lot_any j _ (by omega))
      unfold execOp
      simp only [hop]
      simp [x, go_sem]
    | 5, _, ho, hnd, hdep =>
      obtain ⟨hd, hop, hgd⟩ := say_of sH_5 ho
      have x : t[50]?.getD undef = _ := hS.at dH_4 (waits (j := 4) (by kernel_rfl) ho hdep)
      simp only [VH] at x
      refine iv_val hB ho hgd hd hS rfl ?_
      unfold execOp
      simp only [hop]
      simp [x, cc, mkC, VH, go_sem]
    | 6, _, ho, hnd, hdep =>
      obtain ⟨hd, hop, hgd⟩ := say_of sH_6 ho
      have x : t[46]?.getD undef = _ := hS.at dH_0 (waits (j := 0) (by kernel_rfl) ho hdep)
      simp only [VH] at x
      have y : t[51]?.getD undef = _ := hS.at dH_5 (waits (j := 5) (by kernel_rfl) ho hdep)
      simp only [VH] at y
      refine iv_val hB ho hgd hd hS rfl ?_
      unfold execOp
      simp only [hop]
      simp [x, y, cc, eq62, VH, go_sem]
theorem foldH (n j : Nat) (t0 : Array Value) : fold (opsAt Tryz.f49 9) (VH n j) t0 7 = (((((((t0.setIfInBounds 46 (.agg (cc (mkC j)))).setIfInBounds 47 (.int .i64 ((n : Int) + (j : Int)))).setIfInBounds 48 (.int .i64 (n : Int))).setIfInBounds 49 (.int .i64 (j : Int))).setIfInBounds 50 (.int .i64 (lotV j))).setIfInBounds 51 (.agg (cc (mkC j)))).setIfInBounds 52 (.bool false)) := by kernel_rfl
set_option maxHeartbeats 4000000 in
set_option maxRecDepth 100000 in
theorem holdCells_any (R F n c : Nat) (w : World) (h : RoomC w R F n c) (hn : n ≤ 300) : Calls Tryz.prog 49 #[.pointer (some ⟨R, 0, none⟩)] w fun e w' => e = .returned (.bool true) ∧ G w w' := by
  have HR := hid h
  clear h
  go_enter Tryz.func49, Tryz.ntmps49
  go_wp2
  go_loopg [3] 1 (fun gh i wr => ∃ k : Nat, k ≤ 1 ∧ gh = 1 - k ∧ i = .int .i64 (k : Int) ∧ Hid (G w wr))
  case atStart => exact ⟨0, by omega, rfl, rfl, G.refl w⟩
  case round =>
    obtain ⟨k, hk, rfl, rfl, HG⟩ := hrel
    obtain ⟨ra, ca, r1, r2⟩ := (HR.out.upG HG.out).one
    obtain ⟨rb, cb, r3, r4⟩ := (HR.out.upG HG.out).two
    by_cases hlt : k < 1
    · obtain rfl : k = 0 := by omega
      rw [show ((0 : Nat) : Int) = 0 from rfl]
      go_upto_block 2 with fail
      go_wp2_with fail
      go_loopg [5] 40 (fun gh i wq => ∃ j : Nat, j ≤ 40 ∧ gh = 40 - j ∧ i = .int .i64 ((n : Int) + (j : Int)) ∧ Hid (G w wq))
      case atStart => exact ⟨0, by omega, rfl, by simp, HG.out⟩
      case round =>
        obtain ⟨j, hj, rfl, rfl, HG2⟩ := hrel
        obtain ⟨rc, cc2, t1, t2⟩ := (HR.out.upG HG2.out).one
        by_cases hj2 : j < 40
        · have jI : (n : Int) + (j : Int) < (n : Int) + 40 := by omega
          have j0 : (0 : Int) ≤ (n : Int) + (j : Int) := by omega
          have jN : ((n : Int) + (j : Int)).toNat = n + j := by omega
          have hL := (HR.out.upG HG2.out).marks j hj2
          have HL := hid hL
          obtain ⟨BB, hBB⟩ : ∃ BB, wr.heap.size = BB := ⟨_, rfl⟩
          obtain ⟨w6, hw6⟩ : ∃ w6, wr.alloc (.cells (cc (mkC j)) 62) = w6 := ⟨_, rfl⟩
          have HL6 : Hid (Lies w6 BB 0 (cc (mkC j))) := fun i u hi => by rw [← hw6, ← hBB, Nat.zero_add, new_cell]; exact hi
          have HG6 : Hid (G w w6) := by rw [← hw6]; exact HG2.out.up (G.al _ _)
          clear hL
          go_upto_region 9 with (first
            | ((with_reducible refine wpList_execW (.agg (cc (mkC j))) wr ?_ ?_ ?_); exact exec_load 62 _ rfl F ((n + j) * 10) (cc (mkC j)) _ rfl _ HL.out under43 rfl size43; kernel_rfl)
            | ((with_reducible refine wpList_execW (.pointer (some ⟨BB, 0, none⟩)) (wr.alloc (.cells z43 62)) ?_ ?_ ?_); exact exec_allocT 62 z43 rfl zero43 _ _ hBB; kernel_rfl)
            | ((with_reducible refine wpList_skipW (wr.alloc (.cells (cc (mkC j)) 62)) ?_ ?_ ?_); exact exec_fill 62 _ _ rfl (cc (mkC j)) z43 wr (by rw [hBB]; rfl) rfl size43 rfl (cc_one _); kernel_rfl; rw [hw6]))
          clear hw6 hBB HL r1 r2 r3 r4 t1 t2
          go_simp
          refine regH n j BB _ w6 rfl rfl rfl rfl (by omega) HL6.out ?_
          rw [foldH]
          obtain ⟨wz, hwz⟩ : ∃ wz, w6.drew = wz := ⟨_, rfl⟩
          have HGZ : Hid (G w wz) := by rw [← hwz]; exact HG6.out.up ⟨rfl, rfl, rfl, Nat.le_refl _, fun _ _ => rfl⟩
          rw [hwz]
          clear hwz
          go_simp
          go_wp2
          go_roundg (40 - (j + 1))
          case measure => omega
          case rel => exact ⟨j + 1, by omega, rfl, by go_num, HGZ.out⟩
        · obtain rfl : j = 40 := by omega
          have jI : ¬ (n : Int) + ((40 : Nat) : Int) < (n : Int) + 40 := by omega
          go_wp2
          go_roundg (1 - (0 + 1))
          case measure => omega
          case rel => exact ⟨1, by omega, rfl, rfl, HG2.out⟩
    · obtain rfl : k = 1 := by omega
      rw [show ((1 : Nat) : Int) = 1 from rfl]
      go_wp2
      go_ret
      exact ⟨rfl, HG.out⟩
theorem roomHold_any (R F n c : Nat) (w : World) (h : RoomC w R F n c) (hn : n ≤ 300) : Calls Tryz.prog 12 #[.pointer (some ⟨R, 0, none⟩)] w fun e w' => e = .returned (.bool true) ∧ G w w' :=
  room_by R w (fun w' => G w w') (holdCells_any R F n c w h hn) (fun _ hg => (h.upG hg).idle) h.idle
end Go.Proofs.YtpenaeoodfgmpaaGreatDoor
