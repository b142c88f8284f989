/-
  The kinds of the Room of which no list was made, and its Hold by the contract of the one kind. (By kept2.py.)
-/
import Derived.Test.YtpenaeoodfgmpaaGreatDoorRoomL
namespace Go.Proofs.YtpenaeoodfgmpaaGreatDoor
open Go.RowKit

/-- What of the Room at K no list of the kind reaches. -/
def RIdle (w : World) (K : Nat) : Prop := ∀ i, i < 26 → ¬ (8 ≤ i ∧ i < 10) → w.cell? ⟨K, i, none⟩ = some (.slice none 0 0)

set_option maxHeartbeats 800000 in
set_option maxRecDepth 100000 in
theorem roomBytes_idle (K : Nat) (w : World) (hi : RIdle w K) :
    Calls Tryz.prog 45 #[.pointer (some ⟨K, 0, none⟩)] w fun e w' => e = .returned (.bool true) ∧ w' = w := by
  have h1 : w.cell? ⟨K, 0, none⟩ = some (.slice none 0 0) := hi 0 (by decide) (by decide)
  clear hi
  go_enter Tryz.func45, Tryz.ntmps45
  go_wp2
  go_loopw [3] (fun i wr => i = .int .i64 0 ∧ wr = w) (fun _ _ => 0)
  case atStart => exact ⟨rfl, rfl⟩
  case round =>
    obtain ⟨rfl, rfl⟩ := hrel
    go_wp2
    go_ret
    exact ⟨rfl, rfl⟩

set_option maxHeartbeats 800000 in
set_option maxRecDepth 100000 in
theorem roomInts_idle (K : Nat) (w : World) (hi : RIdle w K) :
    Calls Tryz.prog 46 #[.pointer (some ⟨K, 0, none⟩)] w fun e w' => e = .returned (.bool true) ∧ w' = w := by
  have h1 : w.cell? ⟨K, 2, none⟩ = some (.slice none 0 0) := hi 2 (by decide) (by decide)
  clear hi
  go_enter Tryz.func46, Tryz.ntmps46
  go_wp2
  go_loopw [3] (fun i wr => i = .int .i64 0 ∧ wr = w) (fun _ _ => 0)
  case atStart => exact ⟨rfl, rfl⟩
  case round =>
    obtain ⟨rfl, rfl⟩ := hrel
    go_wp2
    go_ret
    exact ⟨rfl, rfl⟩

set_option maxHeartbeats 800000 in
set_option maxRecDepth 100000 in
theorem roomTexts_idle (K : Nat) (w : World) (hi : RIdle w K) :
    Calls Tryz.prog 47 #[.pointer (some ⟨K, 0, none⟩)] w fun e w' => e = .returned (.bool true) ∧ w' = w := by
  have h1 : w.cell? ⟨K, 4, none⟩ = some (.slice none 0 0) := hi 4 (by decide) (by decide)
  clear hi
  go_enter Tryz.func47, Tryz.ntmps47
  go_wp2
  go_loopw [3] (fun i wr => i = .int .i64 0 ∧ wr = w) (fun _ _ => 0)
  case atStart => exact ⟨rfl, rfl⟩
  case round =>
    obtain ⟨rfl, rfl⟩ := hrel
    go_wp2
    go_ret
    exact ⟨rfl, rfl⟩

set_option maxHeartbeats 800000 in
set_option maxRecDepth 100000 in
theorem roomChanges_idle (K : Nat) (w : World) (hi : RIdle w K) :
    Calls Tryz.prog 48 #[.pointer (some ⟨K, 0, none⟩)] w fun e w' => e = .returned (.bool true) ∧ w' = w := by
  have h1 : w.cell? ⟨K, 6, none⟩ = some (.slice none 0 0) := hi 6 (by decide) (by decide)
  clear hi
  go_enter Tryz.func48, Tryz.ntmps48
  go_wp2
  go_loopw [3] (fun i wr => i = .int .i64 0 ∧ wr = w) (fun _ _ => 0)
  case atStart => exact ⟨rfl, rfl⟩
  case round =>
    obtain ⟨rfl, rfl⟩ := hrel
    go_wp2
    go_ret
    exact ⟨rfl, rfl⟩

set_option maxHeartbeats 800000 in
set_option maxRecDepth 100000 in
theorem roomItems_idle (K : Nat) (w : World) (hi : RIdle w K) :
    Calls Tryz.prog 50 #[.pointer (some ⟨K, 0, none⟩)] w fun e w' => e = .returned (.bool true) ∧ w' = w := by
  have h1 : w.cell? ⟨K, 10, none⟩ = some (.slice none 0 0) := hi 10 (by decide) (by decide)
  clear hi
  go_enter Tryz.func50, Tryz.ntmps50
  go_wp2
  go_loopw [3] (fun i wr => i = .int .i64 0 ∧ wr = w) (fun _ _ => 0)
  case atStart => exact ⟨rfl, rfl⟩
  case round =>
    obtain ⟨rfl, rfl⟩ := hrel
    go_wp2
    go_ret
    exact ⟨rfl, rfl⟩

set_option maxHeartbeats 800000 in
set_option maxRecDepth 100000 in
theorem roomPlaceds_idle (K : Nat) (w : World) (hi : RIdle w K) :
    Calls Tryz.prog 51 #[.pointer (some ⟨K, 0, none⟩)] w fun e w' => e = .returned (.bool true) ∧ w' = w := by
  have h1 : w.cell? ⟨K, 12, none⟩ = some (.slice none 0 0) := hi 12 (by decide) (by decide)
  clear hi
  go_enter Tryz.func51, Tryz.ntmps51
  go_wp2
  go_loopw [3] (fun i wr => i = .int .i64 0 ∧ wr = w) (fun _ _ => 0)
  case atStart => exact ⟨rfl, rfl⟩
  case round =>
    obtain ⟨rfl, rfl⟩ := hrel
    go_wp2
    go_ret
    exact ⟨rfl, rfl⟩

set_option maxHeartbeats 800000 in
set_option maxRecDepth 100000 in
theorem roomRules_idle (K : Nat) (w : World) (hi : RIdle w K) :
    Calls Tryz.prog 52 #[.pointer (some ⟨K, 0, none⟩)] w fun e w' => e = .returned (.bool true) ∧ w' = w := by
  have h1 : w.cell? ⟨K, 14, none⟩ = some (.slice none 0 0) := hi 14 (by decide) (by decide)
  clear hi
  go_enter Tryz.func52, Tryz.ntmps52
  go_wp2
  go_loopw [3] (fun i wr => i = .int .i64 0 ∧ wr = w) (fun _ _ => 0)
  case atStart => exact ⟨rfl, rfl⟩
  case round =>
    obtain ⟨rfl, rfl⟩ := hrel
    go_wp2
    go_ret
    exact ⟨rfl, rfl⟩

set_option maxHeartbeats 800000 in
set_option maxRecDepth 100000 in
theorem roomChunks_idle (K : Nat) (w : World) (hi : RIdle w K) :
    Calls Tryz.prog 53 #[.pointer (some ⟨K, 0, none⟩)] w fun e w' => e = .returned (.bool true) ∧ w' = w := by
  have h1 : w.cell? ⟨K, 16, none⟩ = some (.slice none 0 0) := hi 16 (by decide) (by decide)
  clear hi
  go_enter Tryz.func53, Tryz.ntmps53
  go_wp2
  go_loopw [3] (fun i wr => i = .int .i64 0 ∧ wr = w) (fun _ _ => 0)
  case atStart => exact ⟨rfl, rfl⟩
  case round =>
    obtain ⟨rfl, rfl⟩ := hrel
    go_wp2
    go_ret
    exact ⟨rfl, rfl⟩

set_option maxHeartbeats 800000 in
set_option maxRecDepth 100000 in
theorem roomThings_idle (K : Nat) (w : World) (hi : RIdle w K) :
    Calls Tryz.prog 54 #[.pointer (some ⟨K, 0, none⟩)] w fun e w' => e = .returned (.bool true) ∧ w' = w := by
  have h1 : w.cell? ⟨K, 18, none⟩ = some (.slice none 0 0) := hi 18 (by decide) (by decide)
  clear hi
  go_enter Tryz.func54, Tryz.ntmps54
  go_wp2
  go_loopw [3] (fun i wr => i = .int .i64 0 ∧ wr = w) (fun _ _ => 0)
  case atStart => exact ⟨rfl, rfl⟩
  case round =>
    obtain ⟨rfl, rfl⟩ := hrel
    go_wp2
    go_ret
    exact ⟨rfl, rfl⟩

set_option maxHeartbeats 800000 in
set_option maxRecDepth 100000 in
theorem roomDones_idle (K : Nat) (w : World) (hi : RIdle w K) :
    Calls Tryz.prog 55 #[.pointer (some ⟨K, 0, none⟩)] w fun e w' => e = .returned (.bool true) ∧ w' = w := by
  have h1 : w.cell? ⟨K, 20, none⟩ = some (.slice none 0 0) := hi 20 (by decide) (by decide)
  clear hi
  go_enter Tryz.func55, Tryz.ntmps55
  go_wp2
  go_loopw [3] (fun i wr => i = .int .i64 0 ∧ wr = w) (fun _ _ => 0)
  case atStart => exact ⟨rfl, rfl⟩
  case round =>
    obtain ⟨rfl, rfl⟩ := hrel
    go_wp2
    go_ret
    exact ⟨rfl, rfl⟩

set_option maxHeartbeats 800000 in
set_option maxRecDepth 100000 in
theorem roomNodes_idle (K : Nat) (w : World) (hi : RIdle w K) :
    Calls Tryz.prog 56 #[.pointer (some ⟨K, 0, none⟩)] w fun e w' => e = .returned (.bool true) ∧ w' = w := by
  have h1 : w.cell? ⟨K, 22, none⟩ = some (.slice none 0 0) := hi 22 (by decide) (by decide)
  clear hi
  go_enter Tryz.func56, Tryz.ntmps56
  go_wp2
  go_loopw [3] (fun i wr => i = .int .i64 0 ∧ wr = w) (fun _ _ => 0)
  case atStart => exact ⟨rfl, rfl⟩
  case round =>
    obtain ⟨rfl, rfl⟩ := hrel
    go_wp2
    go_ret
    exact ⟨rfl, rfl⟩

set_option maxHeartbeats 800000 in
set_option maxRecDepth 100000 in
theorem roomSteps_idle (K : Nat) (w : World) (hi : RIdle w K) :
    Calls Tryz.prog 57 #[.pointer (some ⟨K, 0, none⟩)] w fun e w' => e = .returned (.bool true) ∧ w' = w := by
  have h1 : w.cell? ⟨K, 24, none⟩ = some (.slice none 0 0) := hi 24 (by decide) (by decide)
  clear hi
  go_enter Tryz.func57, Tryz.ntmps57
  go_wp2
  go_loopw [3] (fun i wr => i = .int .i64 0 ∧ wr = w) (fun _ _ => 0)
  case atStart => exact ⟨rfl, rfl⟩
  case round =>
    obtain ⟨rfl, rfl⟩ := hrel
    go_wp2
    go_ret
    exact ⟨rfl, rfl⟩
set_option maxHeartbeats 2000000 in
set_option maxRecDepth 100000 in
theorem room_by (K : Nat) (w : World) (Q : World → Prop) (hB : Calls Tryz.prog 49 #[.pointer (some ⟨K, 0, none⟩)] w fun e w' => e = .returned (.bool true) ∧ Q w') (hQ : ∀ w', Q w' → RIdle w' K) (hI0 : RIdle w K) :
    Calls Tryz.prog 12 #[.pointer (some ⟨K, 0, none⟩)] w fun e w' => e = .returned (.bool true) ∧ Q w' := by
  have HB := hid hB
  have HQ0 := hid hQ
  clear hB hQ
  go_enter Tryz.func12, Tryz.ntmps12
  go_wp2_with (first | (go_at_call 45; refine (roomBytes_idle K _ hI0).mono ?_; rintro e w2 ⟨rfl, e2⟩; subst e2) | (go_at_call 46; refine (roomInts_idle K _ hI0).mono ?_; rintro e w2 ⟨rfl, e2⟩; subst e2) | (go_at_call 47; refine (roomTexts_idle K _ hI0).mono ?_; rintro e w2 ⟨rfl, e2⟩; subst e2) | (go_at_call 48; refine (roomChanges_idle K _ hI0).mono ?_; rintro e w2 ⟨rfl, e2⟩; subst e2))
  refine HB.out.mono ?_
  rintro e w1 ⟨rfl, hq⟩
  have HQ : Hid (Q w1) := hq
  have hI := HQ0.out w1 hq
  clear hq HB HQ0 hI0
  go_wp2_with (first | (go_at_call 50; refine (roomItems_idle K _ hI).mono ?_; rintro e w2 ⟨rfl, e2⟩; subst e2) | (go_at_call 51; refine (roomPlaceds_idle K _ hI).mono ?_; rintro e w2 ⟨rfl, e2⟩; subst e2) | (go_at_call 52; refine (roomRules_idle K _ hI).mono ?_; rintro e w2 ⟨rfl, e2⟩; subst e2) | (go_at_call 53; refine (roomChunks_idle K _ hI).mono ?_; rintro e w2 ⟨rfl, e2⟩; subst e2) | (go_at_call 54; refine (roomThings_idle K _ hI).mono ?_; rintro e w2 ⟨rfl, e2⟩; subst e2) | (go_at_call 55; refine (roomDones_idle K _ hI).mono ?_; rintro e w2 ⟨rfl, e2⟩; subst e2) | (go_at_call 56; refine (roomNodes_idle K _ hI).mono ?_; rintro e w2 ⟨rfl, e2⟩; subst e2) | (go_at_call 57; refine (roomSteps_idle K _ hI).mono ?_; rintro e w2 ⟨rfl, e2⟩; subst e2))
  go_ret
  exact ⟨rfl, HQ.out⟩
end Go.Proofs.YtpenaeoodfgmpaaGreatDoor
