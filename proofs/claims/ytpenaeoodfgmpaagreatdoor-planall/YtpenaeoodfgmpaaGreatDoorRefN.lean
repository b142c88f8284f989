/-
  need's statement that draws its order.
-/
import Derived.Test.YtpenaeoodfgmpaaGreatDoorInvR
import Derived.Test.YtpenaeoodfgmpaaGreatDoorNeed
namespace Go.Proofs.YtpenaeoodfgmpaaGreatDoor
open Go.RowKit

theorem backN : backB (opsAt Tryz.f18 6) = true := by kernel_rfl
theorem dstN : dstB (opsAt Tryz.f18 6) 70 = true := by kernel_rfl
theorem sizeN : (opsAt Tryz.f18 6).size = 11 := by kernel_rfl
theorem freeN4 : freeB (opsAt Tryz.f18 6) 4 = true := by kernel_rfl
theorem freeN1 : freeB (opsAt Tryz.f18 6) 1 = true := by kernel_rfl
theorem freeN11 : freeB (opsAt Tryz.f18 6) 11 = true := by kernel_rfl
def VN (M g o n cp gi oi tn ci k i BB : Nat) (c : Cd) : Nat → Value
  | 0 => .pointer (some ⟨M, 0, none⟩)
  | 1 => .slice (some ⟨g, o, none⟩) n cp
  | 2 => .slice (some ⟨gi, oi, none⟩) tn ci
  | 3 => .int .i64 (k : Int)
  | 4 => .pointer (some ⟨gi, oi + k * 7, none⟩)
  | 5 => .pointer (some ⟨gi, oi + k * 7 + 1, none⟩)
  | 6 => .int .i64 (i : Int)
  | 7 => .pointer (some ⟨g, o + i * 10, none⟩)
  | 8 => .agg (cc c)
  | 9 => .pointer (some ⟨BB, 0, none⟩)
  | _ => undef
theorem sN_0 : say (opsAt Tryz.f18 6) 0 = some (some 36, .fieldAddr 24 (.tmp 4) 0, none) := by kernel_rfl
theorem dN_0 : slotB (opsAt Tryz.f18 6) 0 = some 36 := by kernel_rfl
theorem sN_1 : say (opsAt Tryz.f18 6) 1 = some (some 37, .load 22 (.tmp 36), none) := by kernel_rfl
theorem dN_1 : slotB (opsAt Tryz.f18 6) 1 = some 37 := by kernel_rfl
theorem sN_2 : say (opsAt Tryz.f18 6) 2 = some (some 38, .move (.tmp 1), none) := by kernel_rfl
theorem dN_2 : slotB (opsAt Tryz.f18 6) 2 = some 38 := by kernel_rfl
theorem sN_3 : say (opsAt Tryz.f18 6) 3 = some (some 39, .move (.tmp 11), none) := by kernel_rfl
theorem dN_3 : slotB (opsAt Tryz.f18 6) 3 = some 39 := by kernel_rfl
theorem sN_4 : say (opsAt Tryz.f18 6) 4 = some (some 40, .indexAddr 50 (.tmp 38) (.tmp 39), none) := by kernel_rfl
theorem dN_4 : slotB (opsAt Tryz.f18 6) 4 = some 40 := by kernel_rfl
theorem sN_5 : say (opsAt Tryz.f18 6) 5 = some (some 41, .fieldAddr 71 (.tmp 40) 1, none) := by kernel_rfl
theorem dN_5 : slotB (opsAt Tryz.f18 6) 5 = some 41 := by kernel_rfl
theorem sN_6 : say (opsAt Tryz.f18 6) 6 = some (some 42, .load 3 (.tmp 41), none) := by kernel_rfl
theorem dN_6 : slotB (opsAt Tryz.f18 6) 6 = some 42 := by kernel_rfl
theorem sN_7 : say (opsAt Tryz.f18 6) 7 = some (some 43, .indexAddr 22 (.tmp 37) (.tmp 42), none) := by kernel_rfl
theorem dN_7 : slotB (opsAt Tryz.f18 6) 7 = some 43 := by kernel_rfl
theorem sN_8 : say (opsAt Tryz.f18 6) 8 = some (some 44, .load 62 (.tmp 43), none) := by kernel_rfl
theorem dN_8 : slotB (opsAt Tryz.f18 6) 8 = some 44 := by kernel_rfl
theorem sN_9 : say (opsAt Tryz.f18 6) 9 = some (some 12, .alloc 62, none) := by kernel_rfl
theorem dN_9 : slotB (opsAt Tryz.f18 6) 9 = some 12 := by kernel_rfl
theorem sN_10 : say (opsAt Tryz.f18 6) 10 = some (none, .store 62 (.tmp 12) (.tmp 44), none) := by kernel_rfl
def MN (c : Cd) (wd : World) (done : Nat → Bool) (w : World) : Prop := w = if done 10 then wd.alloc (.cells (cc c) 62) else if done 9 then wd.alloc (.cells z43 62) else wd
theorem MN.keep {c : Cd} {wd w : World} {done : Nat → Bool} (h : MN c wd done w) (i : Nat) (h9 : (9 : Nat) ≠ i) (h10 : (10 : Nat) ≠ i) : MN c wd (upd done i) w := by
  unfold MN at *
  rw [upd_ne done h9, upd_ne done h10]
  exact h
theorem MN.g {c : Cd} {wd w : World} {done : Nat → Bool} (h : MN c wd done w) : G wd w := by
  unfold MN at h
  subst h
  split
  · exact G.al _ _
  · split
    · exact G.al _ _
    · exact G.refl _
set_option maxHeartbeats 4000000 in
set_option maxRecDepth 100000 in
theorem need_reg (M g o n cp gi oi tn ci k i BB : Nat) (c : Cd) (t0 : Array Value) (wr : World) {Q : Exit → Act → World → Prop} (ht : t0.size = 70) (h4 : t0.getD 4 undef = .pointer (some ⟨M, 0, none⟩)) (h1 : t0.getD 1 undef = .slice (some ⟨gi, oi, none⟩) tn ci) (h11 : t0.getD 11 undef = .int .i64 (k : Int))
    (hBB : wr.heap.size = BB) (hm : wr.cell? ⟨M, 0, none⟩ = some (.slice (some ⟨g, o, none⟩) n cp)) (hk : k < tn) (hi : i < n) (hcell : wr.cell? ⟨gi, oi + k * 7 + 1, none⟩ = some (.int .i64 (i : Int))) (hl : Lies wr g (o + i * 10) (cc c))
    (hQ : Q .normal ⟨fold (opsAt Tryz.f18 6) (VN M g o n cp gi oi tn ci k i BB c) t0 11, []⟩ (wr.drew.alloc (.cells (cc c) 62))) : (Code.region 6 (opsAt Tryz.f18 6) true).wp Tryz.prog Q ⟨t0, []⟩ wr := by
  have hB : dstB (opsAt Tryz.f18 6) t0.size = true := by rw [ht]; exact dstN
  have gd : G wr wr.drew := ⟨rfl, rfl, rfl, Nat.le_refl _, fun _ _ => rfl⟩
  refine inv_region Tryz.mixed (IV (opsAt Tryz.f18 6) (VN M g o n cp gi oi tn ci k i BB c) t0 (MN c wr.drew)) backN ⟨t0, rfl, ⟨rfl, fun _ _ => rfl, fun _ _ _ _ _ h => by cases h⟩, rfl⟩ ?_ ?_
  rotate_left 1
  · rintro done a w ⟨t, rfl, hS, hM⟩ hall
    rw [hS.end hB hall, sizeN]
    unfold MN at hM
    rw [hall 10 (by rw [sizeN]; omega)] at hM
    rw [hM]
    exact hQ
  · rintro j op done a w ho ⟨t, rfl, hS, hM⟩ hnd hdep hcl
    have e4 : t[4]?.getD undef = .pointer (some ⟨M, 0, none⟩) := (hS.old freeN4).trans h4
    have e1 : t[1]?.getD undef = .slice (some ⟨gi, oi, none⟩) tn ci := (hS.old freeN1).trans h1
    have e11 : t[11]?.getD undef = .int .i64 (k : Int) := (hS.old freeN11).trans h11
    have hg := gd.up hM.g
    have hlt : j < 11 := by rw [← sizeN]; exact (Array.getElem?_eq_some_iff.1 ho).1
    match j, hlt, ho, hnd, hdep with
    | 0, _, ho, hnd, hdep =>
      obtain ⟨hd, hop, hgd⟩ := say_of sN_0 ho
      refine iv_val hB ho hgd hd hS (hM.keep 0 (by decide) (by decide)) ?_
      unfold execOp
      simp only [hop]
      simp [e4, VN, go_sem]
    | 1, _, ho, hnd, hdep =>
      obtain ⟨hd, hop, hgd⟩ := say_of sN_1 ho
      have x : t[36]?.getD undef = _ := hS.at dN_0 (waits (j := 0) (by kernel_rfl) ho hdep)
      simp only [VN] at x
      have hc := (hg.cell (p := ⟨M, 0, none⟩) (World.block_lt_of_cell? wr _ hm)).trans hm
      refine iv_val hB ho hgd hd hS (hM.keep 1 (by decide) (by decide)) ?_
      unfold execOp
      simp only [hop]
      simp [x, hc, VN, go_sem]
    | 2, _, ho, hnd, hdep =>
      obtain ⟨hd, hop, hgd⟩ := say_of sN_2 ho
      refine iv_val hB ho hgd hd hS (hM.keep 2 (by decide) (by decide)) ?_
      unfold execOp
      simp only [hop]
      simp [e1, VN, go_sem]
    | 3, _, ho, hnd, hdep =>
      obtain ⟨hd, hop, hgd⟩ := say_of sN_3 ho
      refine iv_val hB ho hgd hd hS (hM.keep 3 (by decide) (by decide)) ?_
      unfold execOp
      simp only [hop]
      simp [e11, VN, go_sem]
    | 4, _, ho, hnd, hdep =>
      obtain ⟨hd, hop, hgd⟩ := say_of sN_4 ho
      have x : t[38]?.getD undef = _ := hS.at dN_2 (waits (j := 2) (by kernel_rfl) ho hdep)
      simp only [VN] at x
      have y : t[39]?.getD undef = _ := hS.at dN_3 (waits (j := 3) (by kernel_rfl) ho hdep)
      simp only [VN] at y
      have kI : (k : Int) < (tn : Int) := by omega
      have k0 : (0 : Int) ≤ (k : Int) := by omega
      refine iv_val hB ho hgd hd hS (hM.keep 4 (by decide) (by decide)) ?_
      unfold execOp
      simp only [hop]
      simp [x, y, kI, k0, addr_add, VN, go_sem]
    | 5, _, ho, hnd, hdep =>
      obtain ⟨hd, hop, hgd⟩ := say_of sN_5 ho
      have x : t[40]?.getD undef = _ := hS.at dN_4 (waits (j := 4) (by kernel_rfl) ho hdep)
      simp only [VN] at x
      refine iv_val hB ho hgd hd hS (hM.keep 5 (by decide) (by decide)) ?_
      unfold execOp
      simp only [hop]
      simp [x, addr_add, VN, go_sem]
    | 6, _, ho, hnd, hdep =>
      obtain ⟨hd, hop, hgd⟩ := say_of sN_6 ho
      have x : t[41]?.getD undef = _ := hS.at dN_5 (waits (j := 5) (by kernel_rfl) ho hdep)
      simp only [VN] at x
      have hc := (hg.cell (p := ⟨gi, oi + k * 7 + 1, none⟩) (World.block_lt_of_cell? wr _ hcell)).trans hcell
      refine iv_val hB ho hgd hd hS (hM.keep 6 (by decide) (by decide)) ?_
      unfold execOp
      simp only [hop]
      simp [x, hc, VN, go_sem]
    | 7, _, ho, hnd, hdep =>
      obtain ⟨hd, hop, hgd⟩ := say_of sN_7 ho
      have x : t[37]?.getD undef = _ := hS.at dN_1 (waits (j := 1) (by kernel_rfl) ho hdep)
      simp only [VN] at x
      have y : t[42]?.getD undef = _ := hS.at dN_6 (waits (j := 6) (by kernel_rfl) ho hdep)
      simp only [VN] at y
      have kI : (i : Int) < (n : Int) := by omega
      have k0 : (0 : Int) ≤ (i : Int) := by omega
      refine iv_val hB ho hgd hd hS (hM.keep 7 (by decide) (by decide)) ?_
      unfold execOp
      simp only [hop]
      simp [x, y, kI, k0, addr_add, VN, go_sem]
    | 8, _, ho, hnd, hdep =>
      obtain ⟨hd, hop, hgd⟩ := say_of sN_8 ho
      have x : t[43]?.getD undef = _ := hS.at dN_7 (waits (j := 7) (by kernel_rfl) ho hdep)
      simp only [VN] at x
      refine iv_val hB ho hgd hd hS (hM.keep 8 (by decide) (by decide)) ?_
      exact exec_load (a := ⟨t, []⟩) 62 _ hop g (o + i * 10) (cc c) _ (by show t.getD 43 undef = _; rw [Array.getD_eq_getD_getElem?]; exact x) w (hl.up hg) under43 rfl size43
    | 9, _, ho, hnd, hdep =>
      obtain ⟨hd, hop, hgd⟩ := say_of sN_9 ho
      have n10 : done 10 = false := not_yet (k := 9) (by kernel_rfl) hcl hnd
      have hw : w = wr.drew := by unfold MN at hM; rw [n10, hnd] at hM; exact hM
      subst hw
      refine iv_valW (w' := wr.drew.alloc (.cells z43 62)) hB ho hgd hd hS ?_ ?_
      · unfold MN; rw [upd_ne done (by decide), upd_same, n10]; rfl
      · exact exec_allocT (a := ⟨t, []⟩) 62 z43 hop zero43 wr.drew BB hBB
    | 10, _, ho, hnd, hdep =>
      obtain ⟨hd, hop, hgd⟩ := say_of sN_10 ho
      have x : t[12]?.getD undef = _ := hS.at dN_9 (waits (j := 9) (by kernel_rfl) ho hdep)
      simp only [VN] at x
      have y : t[44]?.getD undef = _ := hS.at dN_8 (waits (j := 8) (by kernel_rfl) ho hdep)
      simp only [VN] at y
      have d9 : done 9 = true := waits (j := 9) (by kernel_rfl) ho hdep
      have hw : w = wr.drew.alloc (.cells z43 62) := by unfold MN at hM; rw [hnd, d9] at hM; exact hM
      subst hw
      refine iv_store (w' := wr.drew.alloc (.cells (cc c) 62)) ho hgd hd hS ?_ ?_
      · unfold MN; rw [upd_same]; rfl
      · exact exec_fill (a := ⟨t, []⟩) 62 _ _ hop (cc c) z43 wr.drew (by show t.getD 12 undef = _; rw [Array.getD_eq_getD_getElem?, x, ← hBB]; rfl) (by show t.getD 44 undef = _; rw [Array.getD_eq_getD_getElem?]; exact y) size43 rfl (cc_one c)
theorem foldN (M g o n cp gi oi tn ci k i BB : Nat) (c : Cd) (t0 : Array Value) : fold (opsAt Tryz.f18 6) (VN M g o n cp gi oi tn ci k i BB c) t0 11 = ((((((((((t0.setIfInBounds 36 (.pointer (some ⟨M, 0, none⟩))).setIfInBounds 37 (.slice (some ⟨g, o, none⟩) n cp)).setIfInBounds 38 (.slice (some ⟨gi, oi, none⟩) tn ci)).setIfInBounds 39 (.int .i64 (k : Int))).setIfInBounds 40 (.pointer (some ⟨gi, oi + k * 7, none⟩))).setIfInBounds 41 (.pointer (some ⟨gi, oi + k * 7 + 1, none⟩))).setIfInBounds 42 (.int .i64 (i : Int))).setIfInBounds 43 (.pointer (some ⟨g, o + i * 10, none⟩))).setIfInBounds 44 (.agg (cc c))).setIfInBounds 12 (.pointer (some ⟨BB, 0, none⟩))) := by kernel_rfl
end Go.Proofs.YtpenaeoodfgmpaaGreatDoor
