/-
  twinelaw15.samePlan of plans that are one.
-/
import Derived.Test.YtpenaeoodfgmpaaGreatDoorSame
import Derived.Test.YtpenaeoodfgmpaaGreatDoorRef5
namespace Go.Proofs.YtpenaeoodfgmpaaGreatDoor
open Go.RowKit

theorem size53 : (Tryz.prog.info? 53).map (·.size) = some 4 := by kernel_rfl
set_option maxHeartbeats 2000000 in
set_option maxRecDepth 100000 in
theorem samePlan_any (ai al bi bl : Option Addr) (ci cl di dl : Nat) (T : List It) (R : List Int) (a b c d : Int) (w : World) (h1 : HasI w (.slice ai T.length ci) T) (h2 : HasN w (.slice al R.length cl) R) (h3 : HasI w (.slice bi T.length di) T) (h4 : HasN w (.slice bl R.length dl) R) (ht : T.length ≤ 400) (hr : R.length ≤ 400) :
    Calls Tryz.prog 8 #[.agg (pRow (.slice ai T.length ci) (.slice al R.length cl) a b c d), .agg (pRow (.slice bi T.length di) (.slice bl R.length dl) a b c d)] w fun e w' => e = .returned (.bool true) ∧ G w w' := by
  obtain ⟨B, hB⟩ : ∃ B, w.heap.size = B := ⟨_, rfl⟩
  obtain ⟨w1, hw1⟩ : ∃ w1, (w.alloc (.cells (pRow (.slice ai T.length ci) (.slice al R.length cl) a b c d) 55)).alloc (.cells (pRow (.slice bi T.length di) (.slice bl R.length dl) a b c d) 55) = w1 := ⟨_, rfl⟩
  have g1 : G w w1 := by rw [← hw1]; exact (G.al _ _).up (G.al _ _)
  have r1 : w1.heap[B]? = some (.cells (pRow (.slice ai T.length ci) (.slice al R.length cl) a b c d) 55 (0, 0)) := by
    rw [← hw1, ← hB]
    exact ((G.al (w.alloc _) _).block _ (by simp)).trans (heap_alloc_new _ _)
  have r2 : w1.heap[B + 1]? = some (.cells (pRow (.slice bi T.length di) (.slice bl R.length dl) a b c d) 55 (0, 0)) := by
    rw [← hw1, ← hB]
    have := heap_alloc_new (w.alloc (.cells (pRow (.slice ai T.length ci) (.slice al R.length cl) a b c d) 55)) (.cells (pRow (.slice bi T.length di) (.slice bl R.length dl) a b c d) 55)
    rw [World.size_alloc] at this
    exact this
  have q0 : w1.cell? ⟨B, 0, none⟩ = some (.slice ai T.length ci) := cell_of_row _ _ 0 _ _ _ r1
  have q1 : w1.cell? ⟨B, 1, none⟩ = some (.slice al R.length cl) := cell_of_row _ _ 1 _ _ _ r1
  have q2 : w1.cell? ⟨B + 1, 0, none⟩ = some (.slice bi T.length di) := cell_of_row _ _ 0 _ _ _ r2
  have q3 : w1.cell? ⟨B + 1, 1, none⟩ = some (.slice bl R.length dl) := cell_of_row _ _ 1 _ _ _ r2
  have L1 : Hid (Lies w1 B 2 #[.int .i64 a, .int .i64 b, .int .i64 c, .int .i64 d]) := fun j u hj => by
    rw [cell_of_row _ _ _ _ _ _ r1]
    have : j < 4 := (Array.getElem?_eq_some_iff.1 hj).1
    match j, this with
    | 0, _ => exact hj
    | 1, _ => exact hj
    | 2, _ => exact hj
    | 3, _ => exact hj
  have L2 : Hid (Lies w1 (B + 1) 2 #[.int .i64 a, .int .i64 b, .int .i64 c, .int .i64 d]) := fun j u hj => by
    rw [cell_of_row _ _ _ _ _ _ r2]
    have : j < 4 := (Array.getElem?_eq_some_iff.1 hj).1
    match j, this with
    | 0, _ => exact hj
    | 1, _ => exact hj
    | 2, _ => exact hj
    | 3, _ => exact hj
  have A24 := hid (sameItems_any ai bi ci di T w1 (h1.up g1) (h3.up g1) (by omega))
  have A25 := hid (fun W (hg : G w1 W) => sameInts_yes al bl cl dl R R W ((h2.up g1).up hg) ((h4.up g1).up hg) rfl hr)
  have HQ := hid (And.intro q1 q3)
  have HG1 := hid g1
  clear h1 h2 h3 h4 g1 r1 r2
  generalize T.length = tn at *
  generalize R.length = rn at *
  have e53 := fun W => eq32 a b c d W
  unfold pRow at hw1 ⊢
  go_enter Tryz.func8, Tryz.ntmps8
  go_upto_region 1 with fail
  go_wp2_with (first
    | ((with_reducible refine wpList_execW (.agg #[.int .i64 a, .int .i64 b, .int .i64 c, .int .i64 d]) w1 ?_ ?_ ?_); first | exact exec_load 53 _ rfl B 2 _ _ rfl _ L1.out under32 rfl size53 | exact exec_load 53 _ rfl (B + 1) 2 _ _ rfl _ L2.out under32 rfl size53; kernel_rfl)
    | (go_at_call 24; refine A24.out.mono ?_; rintro e w2 ⟨rfl, hg2⟩; have HG2 := hid hg2; have q5 := (hg2.cell (p := ⟨B, 1, none⟩) (World.block_lt_of_cell? w1 _ HQ.out.1)).trans HQ.out.1; have q6 := (hg2.cell (p := ⟨B + 1, 1, none⟩) (World.block_lt_of_cell? w1 _ HQ.out.2)).trans HQ.out.2; clear hg2 q0 q1 q2 q3)
    | (go_at_call 25; refine (A25.out _ HG2.out).mono ?_; rintro e w3 ⟨rfl, m, rfl⟩))
  go_ret
  exact ⟨rfl, (HG1.out.up HG2.out).drewN m⟩
end Go.Proofs.YtpenaeoodfgmpaaGreatDoor
