/-
  twineref15.Of's statement that draws its order.
-/
import Derived.Test.YtpenaeoodfgmpaaGreatDoorRef5
namespace Go.Proofs.YtpenaeoodfgmpaaGreatDoor
open Go.RowKit

theorem backO : backB (opsAt Tryz.f6 17) = true := by kernel_rfl
theorem dstO : dstB (opsAt Tryz.f6 17) 102 = true := by kernel_rfl
theorem sizeO : (opsAt Tryz.f6 17).size = 15 := by kernel_rfl
theorem freeO2 : freeB (opsAt Tryz.f6 17) 2 = true := by kernel_rfl
theorem freeO6 : freeB (opsAt Tryz.f6 17) 6 = true := by kernel_rfl
theorem freeO10 : freeB (opsAt Tryz.f6 17) 10 = true := by kernel_rfl
def VO (PB n cp tn ci v : Nat) (ao ai : Option Addr) (N Bt : Int) : Nat → Value
  | 0 => .int .i64 (v : Int)
  | 1 => .agg #[.slice ao n cp]
  | 2 => .pointer (some ⟨PB, 0, none⟩)
  | 3 => .slice ai tn ci
  | 4 => .int .i64 (v : Int)
  | 5 => .int .i64 N
  | 6 => .agg #[.slice ao n cp]
  | 7 => .pointer (some ⟨PB, 0, none⟩)
  | 8 => .slice ai tn ci
  | 9 => .int .i64 (v : Int)
  | 10 => .int .i64 Bt
  | 11 => .agg #[.int .i64 N, .int .i64 Bt]
  | 12 => .pointer (some ⟨PB, 2, none⟩)
  | 13 => .pointer (some ⟨PB, 2 + v * 2, none⟩)
  | _ => undef
theorem sO_0 : say (opsAt Tryz.f6 17) 0 = some (some 87, .move (.tmp 10), none) := by kernel_rfl
theorem dO_0 : slotB (opsAt Tryz.f6 17) 0 = some 87 := by kernel_rfl
theorem sO_1 : say (opsAt Tryz.f6 17) 1 = some (some 88, .load 24 (.tmp 2), none) := by kernel_rfl
theorem dO_1 : slotB (opsAt Tryz.f6 17) 1 = some 88 := by kernel_rfl
theorem sO_2 : say (opsAt Tryz.f6 17) 2 = some (some 89, .fieldAddr 55 (.tmp 6) 0, none) := by kernel_rfl
theorem dO_2 : slotB (opsAt Tryz.f6 17) 2 = some 89 := by kernel_rfl
theorem sO_3 : say (opsAt Tryz.f6 17) 3 = some (some 90, .load 50 (.tmp 89), none) := by kernel_rfl
theorem dO_3 : slotB (opsAt Tryz.f6 17) 3 = some 90 := by kernel_rfl
theorem sO_4 : say (opsAt Tryz.f6 17) 4 = some (some 91, .move (.tmp 10), none) := by kernel_rfl
theorem dO_4 : slotB (opsAt Tryz.f6 17) 4 = some 91 := by kernel_rfl
theorem sO_5 : say (opsAt Tryz.f6 17) 5 = some (some 92, .call { callee := .value (.func 18), args := #[.tmp 88, .tmp 90, .tmp 91, .const (.bool false)], argTypes := #[24, 50, 3, 4] }, none) := by kernel_rfl
theorem dO_5 : slotB (opsAt Tryz.f6 17) 5 = some 92 := by kernel_rfl
theorem sO_6 : say (opsAt Tryz.f6 17) 6 = some (some 93, .load 24 (.tmp 2), none) := by kernel_rfl
theorem dO_6 : slotB (opsAt Tryz.f6 17) 6 = some 93 := by kernel_rfl
theorem sO_7 : say (opsAt Tryz.f6 17) 7 = some (some 94, .fieldAddr 55 (.tmp 6) 0, none) := by kernel_rfl
theorem dO_7 : slotB (opsAt Tryz.f6 17) 7 = some 94 := by kernel_rfl
theorem sO_8 : say (opsAt Tryz.f6 17) 8 = some (some 95, .load 50 (.tmp 94), none) := by kernel_rfl
theorem dO_8 : slotB (opsAt Tryz.f6 17) 8 = some 95 := by kernel_rfl
theorem sO_9 : say (opsAt Tryz.f6 17) 9 = some (some 96, .move (.tmp 10), none) := by kernel_rfl
theorem dO_9 : slotB (opsAt Tryz.f6 17) 9 = some 96 := by kernel_rfl
theorem sO_10 : say (opsAt Tryz.f6 17) 10 = some (some 97, .call { callee := .value (.func 18), args := #[.tmp 93, .tmp 95, .tmp 96, .const (.bool true)], argTypes := #[24, 50, 3, 4] }, none) := by kernel_rfl
theorem dO_10 : slotB (opsAt Tryz.f6 17) 10 = some 97 := by kernel_rfl
theorem sO_11 : say (opsAt Tryz.f6 17) 11 = some (some 98, .build 52 #[(0, .tmp 92), (1, .tmp 97)], none) := by kernel_rfl
theorem dO_11 : slotB (opsAt Tryz.f6 17) 11 = some 98 := by kernel_rfl
theorem sO_12 : say (opsAt Tryz.f6 17) 12 = some (some 99, .fieldAddr 55 (.tmp 6) 2, none) := by kernel_rfl
theorem dO_12 : slotB (opsAt Tryz.f6 17) 12 = some 99 := by kernel_rfl
theorem sO_13 : say (opsAt Tryz.f6 17) 13 = some (some 100, .indexAddr 53 (.tmp 99) (.tmp 87), none) := by kernel_rfl
theorem dO_13 : slotB (opsAt Tryz.f6 17) 13 = some 100 := by kernel_rfl
theorem sO_14 : say (opsAt Tryz.f6 17) 14 = some (none, .store 52 (.tmp 100) (.tmp 98), none) := by kernel_rfl
def MO (PB v : Nat) (N Bt : Int) (wr : World) (done : Nat → Bool) (w : World) : Prop := (done 14 = false → G wr w) ∧ (done 14 = true → ∃ w1, G wr w1 ∧ w = (w1.setCell ⟨PB, 2 + v * 2, none⟩ (.int .i64 N)).setCell ⟨PB, 2 + v * 2 + 1, none⟩ (.int .i64 Bt))
theorem MO.keep {PB v : Nat} {N Bt : Int} {wr w w' : World} {done : Nat → Bool} (h : MO PB v N Bt wr done w) (i : Nat) (hi : (14 : Nat) ≠ i) (hn : done 14 = false) (hg : G w w') : MO PB v N Bt wr (upd done i) w' := by
  unfold MO at *
  rw [upd_ne done hi]
  exact ⟨fun e => (h.1 e).up hg, fun e => by rw [hn] at e; cases e⟩
set_option maxHeartbeats 4000000 in
set_option maxRecDepth 100000 in
theorem of_reg (M PB n cp tn ci v : Nat) (ao ai : Option Addr) (N Bt : Int) (row : Array Value) (t0 : Array Value) (wr : World) {Q : Exit → Act → World → Prop} (ht : t0.size = 102) (h2 : t0.getD 2 undef = .pointer (some ⟨M, 0, none⟩)) (h6 : t0.getD 6 undef = .pointer (some ⟨PB, 0, none⟩)) (h10 : t0.getD 10 undef = .int .i64 (v : Int))
    (hv : v < 2) (hm : wr.heap[M]? = some (.cells #[.slice ao n cp] 24 (0, 0))) (hp : wr.heap[PB]? = some (.cells row 55 (0, 0))) (hr : row.size = 6) (hr0 : row[0]? = some (.slice ai tn ci)) 
    (hC : ∀ (bs : Bool) (W : World), G wr W → Calls Tryz.prog 18 #[.agg #[.slice ao n cp], .slice ai tn ci, .int .i64 (v : Int), .bool bs] W fun e w' => e = .returned (.int .i64 (if bs then Bt else N)) ∧ G W w')
    (hQ : ∀ w1, G wr w1 → Q .normal ⟨fold (opsAt Tryz.f6 17) (VO PB n cp tn ci v ao ai N Bt) t0 15, []⟩ ((w1.setCell ⟨PB, 2 + v * 2, none⟩ (.int .i64 N)).setCell ⟨PB, 2 + v * 2 + 1, none⟩ (.int .i64 Bt))) : (Code.region 17 (opsAt Tryz.f6 17) true).wp Tryz.prog Q ⟨t0, []⟩ wr := by
  have hB : dstB (opsAt Tryz.f6 17) t0.size = true := by rw [ht]; exact dstO
  have gd : G wr wr.drew := ⟨rfl, rfl, rfl, Nat.le_refl _, fun _ _ => rfl⟩
  refine inv_region Tryz.mixed (IV (opsAt Tryz.f6 17) (VO PB n cp tn ci v ao ai N Bt) t0 (MO PB v N Bt wr)) backO ⟨t0, rfl, ⟨rfl, fun _ _ => rfl, fun _ _ _ _ _ h => by cases h⟩, ⟨fun _ => gd, fun e => by cases e⟩⟩ ?_ ?_
  rotate_left 1
  · rintro done a w ⟨t, rfl, hS, hM⟩ hall
    rw [hS.end hB hall, sizeO]
    obtain ⟨w1, hg, rfl⟩ := hM.2 (hall 14 (by rw [sizeO]; omega))
    exact hQ w1 hg
  · rintro j op done a w ho ⟨t, rfl, hS, hM⟩ hnd hdep hcl
    have e2 : t[2]?.getD undef = .pointer (some ⟨M, 0, none⟩) := (hS.old freeO2).trans h2
    have e6 : t[6]?.getD undef = .pointer (some ⟨PB, 0, none⟩) := (hS.old freeO6).trans h6
    have e10 : t[10]?.getD undef = .int .i64 (v : Int) := (hS.old freeO10).trans h10
    have hlt : j < 15 := by rw [← sizeO]; exact (Array.getElem?_eq_some_iff.1 ho).1
    have hv2 : v = 0 ∨ v = 1 := by omega
    match j, hlt, ho, hnd, hdep with
    | 0, _, ho, hnd, hdep =>
      obtain ⟨hd, hop, hgd⟩ := say_of sO_0 ho
      have n14 : done 14 = false := not_yet (k := 0) (by kernel_rfl) hcl hnd
      have hg := hM.1 n14
      refine iv_val hB ho hgd hd hS (hM.keep 0 (by decide) n14 (G.refl _)) ?_
      unfold execOp
      simp only [hop]
      simp [e10, VO, go_sem]
    | 1, _, ho, hnd, hdep =>
      obtain ⟨hd, hop, hgd⟩ := say_of sO_1 ho
      have n14 : done 14 = false := not_yet (k := 1) (by kernel_rfl) hcl hnd
      have hg := hM.1 n14
      have hc : w.cell? ⟨M, 0, none⟩ = some (.slice ao n cp) := cell_of_row _ _ 0 _ _ _ ((hg.block M (Array.getElem?_eq_some_iff.1 hm).1).trans hm)
      refine iv_val hB ho hgd hd hS (hM.keep 1 (by decide) n14 (G.refl _)) ?_
      unfold execOp
      simp only [hop]
      simp [e2, hc, VO, go_sem]
    | 2, _, ho, hnd, hdep =>
      obtain ⟨hd, hop, hgd⟩ := say_of sO_2 ho
      have n14 : done 14 = false := not_yet (k := 2) (by kernel_rfl) hcl hnd
      have hg := hM.1 n14
      refine iv_val hB ho hgd hd hS (hM.keep 2 (by decide) n14 (G.refl _)) ?_
      unfold execOp
      simp only [hop]
      simp [e6, VO, go_sem]
    | 3, _, ho, hnd, hdep =>
      obtain ⟨hd, hop, hgd⟩ := say_of sO_3 ho
      have n14 : done 14 = false := not_yet (k := 3) (by kernel_rfl) hcl hnd
      have hg := hM.1 n14
      have x : t[89]?.getD undef = _ := hS.at dO_2 (waits (j := 2) (by kernel_rfl) ho hdep)
      simp only [VO] at x
      have hc : w.cell? ⟨PB, 0, none⟩ = some (.slice ai tn ci) := (cell_of_row _ _ 0 _ _ _ ((hg.block PB (Array.getElem?_eq_some_iff.1 hp).1).trans hp)).trans hr0
      refine iv_val hB ho hgd hd hS (hM.keep 3 (by decide) n14 (G.refl _)) ?_
      unfold execOp
      simp only [hop]
      simp [x, hc, VO, go_sem]
    | 4, _, ho, hnd, hdep =>
      obtain ⟨hd, hop, hgd⟩ := say_of sO_4 ho
      have n14 : done 14 = false := not_yet (k := 4) (by kernel_rfl) hcl hnd
      have hg := hM.1 n14
      refine iv_val hB ho hgd hd hS (hM.keep 4 (by decide) n14 (G.refl _)) ?_
      unfold execOp
      simp only [hop]
      simp [e10, VO, go_sem]
    | 5, _, ho, hnd, hdep =>
      obtain ⟨hd, hop, hgd⟩ := say_of sO_5 ho
      have n14 : done 14 = false := not_yet (k := 5) (by kernel_rfl) hcl hnd
      have hg := hM.1 n14
      have x : t[88]?.getD undef = _ := hS.at dO_1 (waits (j := 1) (by kernel_rfl) ho hdep)
      simp only [VO] at x
      have y : t[90]?.getD undef = _ := hS.at dO_3 (waits (j := 3) (by kernel_rfl) ho hdep)
      simp only [VO] at y
      have z : t[91]?.getD undef = _ := hS.at dO_4 (waits (j := 4) (by kernel_rfl) ho hdep)
      simp only [VO] at z
      refine iv_callW 18 #[.agg #[.slice ao n cp], .slice ai tn ci, .int .i64 (v : Int), .bool false] hB ho hgd hd hS ?_ ?_
      · unfold execOp
        simp only [hop]
        simp [x, y, z, go_sem]
      · refine (hC false w hg).mono ?_
        rintro e w' ⟨rfl, hg2⟩
        exact ⟨rfl, hM.keep 5 (by decide) n14 hg2⟩
    | 6, _, ho, hnd, hdep =>
      obtain ⟨hd, hop, hgd⟩ := say_of sO_6 ho
      have n14 : done 14 = false := not_yet (k := 6) (by kernel_rfl) hcl hnd
      have hg := hM.1 n14
      have hc : w.cell? ⟨M, 0, none⟩ = some (.slice ao n cp) := cell_of_row _ _ 0 _ _ _ ((hg.block M (Array.getElem?_eq_some_iff.1 hm).1).trans hm)
      refine iv_val hB ho hgd hd hS (hM.keep 6 (by decide) n14 (G.refl _)) ?_
      unfold execOp
      simp only [hop]
      simp [e2, hc, VO, go_sem]
    | 7, _, ho, hnd, hdep =>
      obtain ⟨hd, hop, hgd⟩ := say_of sO_7 ho
      have n14 : done 14 = false := not_yet (k := 7) (by kernel_rfl) hcl hnd
      have hg := hM.1 n14
      refine iv_val hB ho hgd hd hS (hM.keep 7 (by decide) n14 (G.refl _)) ?_
      unfold execOp
      simp only [hop]
      simp [e6, VO, go_sem]
    | 8, _, ho, hnd, hdep =>
      obtain ⟨hd, hop, hgd⟩ := say_of sO_8 ho
      have n14 : done 14 = false := not_yet (k := 8) (by kernel_rfl) hcl hnd
      have hg := hM.1 n14
      have x : t[94]?.getD undef = _ := hS.at dO_7 (waits (j := 7) (by kernel_rfl) ho hdep)
      simp only [VO] at x
      have hc : w.cell? ⟨PB, 0, none⟩ = some (.slice ai tn ci) := (cell_of_row _ _ 0 _ _ _ ((hg.block PB (Array.getElem?_eq_some_iff.1 hp).1).trans hp)).trans hr0
      refine iv_val hB ho hgd hd hS (hM.keep 8 (by decide) n14 (G.refl _)) ?_
      unfold execOp
      simp only [hop]
      simp [x, hc, VO, go_sem]
    | 9, _, ho, hnd, hdep =>
      obtain ⟨hd, hop, hgd⟩ := say_of sO_9 ho
      have n14 : done 14 = false := not_yet (k := 9) (by kernel_rfl) hcl hnd
      have hg := hM.1 n14
      refine iv_val hB ho hgd hd hS (hM.keep 9 (by decide) n14 (G.refl _)) ?_
      unfold execOp
      simp only [hop]
      simp [e10, VO, go_sem]
    | 10, _, ho, hnd, hdep =>
      obtain ⟨hd, hop, hgd⟩ := say_of sO_10 ho
      have n14 : done 14 = false := not_yet (k := 10) (by kernel_rfl) hcl hnd
      have hg := hM.1 n14
      have x : t[93]?.getD undef = _ := hS.at dO_6 (waits (j := 6) (by kernel_rfl) ho hdep)
      simp only [VO] at x
      have y : t[95]?.getD undef = _ := hS.at dO_8 (waits (j := 8) (by kernel_rfl) ho hdep)
      simp only [VO] at y
      have z : t[96]?.getD undef = _ := hS.at dO_9 (waits (j := 9) (by kernel_rfl) ho hdep)
      simp only [VO] at z
      refine iv_callW 18 #[.agg #[.slice ao n cp], .slice ai tn ci, .int .i64 (v : Int), .bool true] hB ho hgd hd hS ?_ ?_
      · unfold execOp
        simp only [hop]
        simp [x, y, z, go_sem]
      · refine (hC true w hg).mono ?_
        rintro e w' ⟨rfl, hg2⟩
        exact ⟨rfl, hM.keep 10 (by decide) n14 hg2⟩
    | 11, _, ho, hnd, hdep =>
      obtain ⟨hd, hop, hgd⟩ := say_of sO_11 ho
      have n14 : done 14 = false := not_yet (k := 11) (by kernel_rfl) hcl hnd
      have hg := hM.1 n14
      have x : t[92]?.getD undef = _ := hS.at dO_5 (waits (j := 5) (by kernel_rfl) ho hdep)
      simp only [VO] at x
      have y : t[97]?.getD undef = _ := hS.at dO_10 (waits (j := 10) (by kernel_rfl) ho hdep)
      simp only [VO] at y
      refine iv_val hB ho hgd hd hS (hM.keep 11 (by decide) n14 (G.refl _)) ?_
      unfold execOp
      simp only [hop]
      simp [x, y, VO, go_sem]
    | 12, _, ho, hnd, hdep =>
      obtain ⟨hd, hop, hgd⟩ := say_of sO_12 ho
      have n14 : done 14 = false := not_yet (k := 13) (by kernel_rfl) hcl (not_yet (k := 12) (by kernel_rfl) hcl hnd)
      have hg := hM.1 n14
      refine iv_val hB ho hgd hd hS (hM.keep 12 (by decide) n14 (G.refl _)) ?_
      unfold execOp
      simp only [hop]
      simp [e6, VO, go_sem]
    | 13, _, ho, hnd, hdep =>
      obtain ⟨hd, hop, hgd⟩ := say_of sO_13 ho
      have n14 : done 14 = false := not_yet (k := 13) (by kernel_rfl) hcl hnd
      have hg := hM.1 n14
      have x : t[99]?.getD undef = _ := hS.at dO_12 (waits (j := 12) (by kernel_rfl) ho hdep)
      simp only [VO] at x
      have y : t[87]?.getD undef = _ := hS.at dO_0 (waits (j := 0) (by kernel_rfl) ho hdep)
      simp only [VO] at y
      have kI : (v : Int) < 2 := by omega
      have k0 : (0 : Int) ≤ (v : Int) := by omega
      refine iv_val hB ho hgd hd hS (hM.keep 13 (by decide) n14 (G.refl _)) ?_
      unfold execOp
      simp only [hop]
      simp [x, y, kI, k0, addr_add, VO, go_sem]
    | 14, _, ho, hnd, hdep =>
      obtain ⟨hd, hop, hgd⟩ := say_of sO_14 ho
      have x : t[100]?.getD undef = _ := hS.at dO_13 (waits (j := 13) (by kernel_rfl) ho hdep)
      simp only [VO] at x
      have y : t[98]?.getD undef = _ := hS.at dO_11 (waits (j := 11) (by kernel_rfl) ho hdep)
      simp only [VO] at y
      have hg := hM.1 hnd
      have hpw := (hg.block PB (Array.getElem?_eq_some_iff.1 hp).1).trans hp
      obtain ⟨x1, hx1⟩ : ∃ x1, row[2 + v * 2]? = some x1 := ⟨row[2 + v * 2]'(by omega), by simp⟩
      obtain ⟨x2, hx2⟩ : ∃ x2, row[2 + v * 2 + 1]? = some x2 := ⟨row[2 + v * 2 + 1]'(by omega), by simp⟩
      have hc1 := (cell_of_row w PB (2 + v * 2) _ _ _ hpw).trans hx1
      have hc2 := (cell_of_row w PB (2 + v * 2 + 1) _ _ _ hpw).trans hx2
      have hf1 := frozen_of_row w PB (2 + v * 2) _ _ hpw
      have hf2 := frozen_of_row w PB (2 + v * 2 + 1) _ _ hpw
      refine iv_store (w' := (w.setCell ⟨PB, 2 + v * 2, none⟩ (.int .i64 N)).setCell ⟨PB, 2 + v * 2 + 1, none⟩ (.int .i64 Bt)) ho hgd hd hS ⟨fun e => (by rw [upd_same] at e; cases e), fun _ => ⟨w, hg, rfl⟩⟩ ?_
      unfold execOp
      simp only [hop]
      simp [x, y, hc1, hc2, hf1, hf2, go_sem]
theorem foldO (PB n cp tn ci v : Nat) (ao ai : Option Addr) (N Bt : Int) (t0 : Array Value) : fold (opsAt Tryz.f6 17) (VO PB n cp tn ci v ao ai N Bt) t0 15 = ((((((((((((((t0.setIfInBounds 87 (.int .i64 (v : Int))).setIfInBounds 88 (.agg #[.slice ao n cp])).setIfInBounds 89 (.pointer (some ⟨PB, 0, none⟩))).setIfInBounds 90 (.slice ai tn ci)).setIfInBounds 91 (.int .i64 (v : Int))).setIfInBounds 92 (.int .i64 N)).setIfInBounds 93 (.agg #[.slice ao n cp])).setIfInBounds 94 (.pointer (some ⟨PB, 0, none⟩))).setIfInBounds 95 (.slice ai tn ci)).setIfInBounds 96 (.int .i64 (v : Int))).setIfInBounds 97 (.int .i64 Bt)).setIfInBounds 98 (.agg #[.int .i64 N, .int .i64 Bt])).setIfInBounds 99 (.pointer (some ⟨PB, 2, none⟩))).setIfInBounds 100 (.pointer (some ⟨PB, 2 + v * 2, none⟩))) := by kernel_rfl
end Go.Proofs.YtpenaeoodfgmpaaGreatDoor
