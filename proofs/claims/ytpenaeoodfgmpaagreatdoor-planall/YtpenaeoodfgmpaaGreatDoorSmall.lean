/-
  The small functions of package plan, and twineroom's Count.
-/
import Derived.Test.YtpenaeoodfgmpaaGreatDoorBase
namespace Go.Proofs.YtpenaeoodfgmpaaGreatDoor
open Go.RowKit

theorem ret_int {k : IntKind} {a b : Int} (h : a = b) : Ending.returned (.int k a) = .returned (.int k b) := by rw [h]

set_option maxRecDepth 100000 in
theorem share_any (n most : Int) (w : World) (h0 : 0 ≤ most) (h1 : most ≤ 1048576) : Calls Tryz.prog 91 #[.int .i64 n, .int .i64 most] w fun e w' => e = .returned (.int .i64 (shr n most)) ∧ w' = w := by
  by_cases h : n ≤ most + 1
  · have e : shr n most = n := by simp [shr, mn, h]
    rw [e]
    clear e
    have hd : decide (most + 1 < n) = false := by simp; omega
    go_enter Tryz.func91, Tryz.ntmps91
    go_wp2
    all_goals go_ret
    all_goals exact ⟨ret_int (by omega), rfl⟩
  · have e : shr n most = most + 1 := by simp [shr, mn, h]
    rw [e]
    clear e
    go_enter Tryz.func91, Tryz.ntmps91
    go_wp2
    all_goals go_ret
    all_goals exact ⟨ret_int (by omega), rfl⟩
set_option maxRecDepth 100000 in
theorem plus_any (a n : Int) (w : World) (ha : InR a) (hn : InR n) (h0 : 0 ≤ n) : Calls Tryz.prog 93 #[.int .i64 a, .int .i64 n] w fun e w' => e = .returned (.int .i64 (pl a n)) ∧ w' = w := by
  unfold InR at ha hn
  by_cases h : a ≤ 9223372036854775807 - n
  · have e : pl a n = a + n := by simp [pl, mn, h]
    rw [e]
    clear e
    go_enter Tryz.func93, Tryz.ntmps93
    go_wp2
    all_goals go_ret
    all_goals exact ⟨ret_int (by omega), rfl⟩
  · have e : pl a n = 9223372036854775807 := by simp [pl, mn, h]
    rw [e]
    clear e
    go_enter Tryz.func93, Tryz.ntmps93
    go_wp2
    all_goals go_ret
    all_goals exact ⟨ret_int (by omega), rfl⟩
set_option maxRecDepth 100000 in
theorem minus_any (a n : Int) (w : World) (ha : InR a) (hn : InR n) (h0 : 0 ≤ n) : Calls Tryz.prog 94 #[.int .i64 a, .int .i64 n] w fun e w' => e = .returned (.int .i64 (ms a n)) ∧ w' = w := by
  unfold InR at ha hn
  by_cases h : a ≤ -9223372036854775808 + n
  · have e : ms a n = -9223372036854775808 := by simp [ms, mx, h]
    rw [e]
    clear e
    go_enter Tryz.func94, Tryz.ntmps94
    go_wp2
    all_goals go_ret
    all_goals exact ⟨ret_int (by omega), rfl⟩
  · have e : ms a n = a - n := by simp [ms, mx, h]
    rw [e]
    clear e
    go_enter Tryz.func94, Tryz.ntmps94
    go_wp2
    all_goals go_ret
    all_goals exact ⟨ret_int (by omega), rfl⟩
/-- what sortOf answers -/
def srtV (c : Cd) : Value := .tuple #[.int .i64 (if srt c = 1 then 1 else 0), .bool (decide (srt c ≠ 2))]
theorem srtV2 {c : Cd} (h : srt c = 2) : srtV c = .tuple #[.int .i64 0, .bool false] := by simp [srtV, h]
theorem srtV1 {c : Cd} (h : srt c = 1) : srtV c = .tuple #[.int .i64 1, .bool true] := by simp [srtV, h]
theorem srtV0 {c : Cd} (h : srt c = 0) : srtV c = .tuple #[.int .i64 0, .bool true] := by simp [srtV, h]
set_option maxRecDepth 100000 in
theorem sortOf_any (c : Cd) (w : World) : Calls Tryz.prog 92 #[.agg (cc c)] w fun e w' => e = .returned (srtV c) ∧ G w w' := by
  by_cases h : c.take ≤ c.keep
  · rw [srtV2 (by simp [srt, h])]
    unfold cc
    go_enter Tryz.func92, Tryz.ntmps92
    go_wp2
    go_ret2
    exact ⟨rfl, G.al _ _⟩
  · by_cases h3 : c.what = 3
    · rw [srtV0 (by simp [srt, h, h3])]
      unfold cc
      go_enter Tryz.func92, Tryz.ntmps92
      go_wp2
      go_ret2
      exact ⟨rfl, G.al _ _⟩
    · have e3 : (c.what == 3) = false := by simp [h3]
      by_cases h1 : c.what = 1
      · rw [srtV1 (by simp [srt, h, h1])]
        have e1 : (c.what == 1) = true := by simp [h1]
        unfold cc
        go_enter Tryz.func92, Tryz.ntmps92
        go_wp2
        go_ret2
        exact ⟨rfl, G.al _ _⟩
      · have e1 : (c.what == 1) = false := by simp [h1]
        by_cases h2 : c.what = 2
        · rw [srtV1 (by simp [srt, h, h2])]
          have e2 : (c.what == 2) = true := by simp [h2]
          unfold cc
          go_enter Tryz.func92, Tryz.ntmps92
          go_wp2
          go_ret2
          exact ⟨rfl, G.al _ _⟩
        · have e2 : (c.what == 2) = false := by simp [h2]
          by_cases h5 : c.what = 5
          · rw [srtV1 (by simp [srt, h, h5])]
            have e5 : (c.what == 5) = true := by simp [h5]
            unfold cc
            go_enter Tryz.func92, Tryz.ntmps92
            go_wp2
            go_ret2
            exact ⟨rfl, G.al _ _⟩
          · have e5 : (c.what == 5) = false := by simp [h5]
            rw [srtV2 (by simp [srt, h1, h2, h3, h5])]
            unfold cc
            go_enter Tryz.func92, Tryz.ntmps92
            go_wp2
            go_ret2
            exact ⟨rfl, G.al _ _⟩
set_option maxRecDepth 100000 in
theorem isDone_any (c : Cd) (w : World) : Calls Tryz.prog 67 #[.agg (cc c)] w fun e w' => e = .returned (.bool (don c)) ∧ G w w' := by
  have e : don c = (((c.what == 3) || (c.what == 2)) && ((c.side == 1) || (c.side == 2))) := by
    rfl
  rw [e]
  unfold cc
  cases e3 : (c.what == 3) <;> cases e2 : (c.what == 2) <;> cases s1 : (c.side == 1) <;> cases s2 : (c.side == 2)
  all_goals
    go_enter Tryz.func67, Tryz.ntmps67
    go_wp2
    go_ret
    exact ⟨rfl, G.al _ _⟩
/-- what small answers -/
def sml (n : Int) : Int := if n.tmod 1099511627776 < 0 then -(n.tmod 1099511627776) else n.tmod 1099511627776
theorem sml_bd (n : Int) : 0 ≤ sml n ∧ sml n < 1099511627776 := by
  have h1 := Int.tmod_lt_of_pos n (b := 1099511627776) (by decide)
  have h2 : -1099511627776 < n.tmod 1099511627776 := Int.lt_tmod_of_pos n (by decide)
  unfold sml
  split <;> omega
end Go.Proofs.YtpenaeoodfgmpaaGreatDoor
