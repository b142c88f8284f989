/-
  THE ROOM's Hold.
-/
import Derived.Test.YtnhnggnldhmepaaGreatDoorRoom
namespace Go.Proofs.YtnhnggnldhmepaaGreatDoor
open Go.RowKit

set_option maxHeartbeats 1600000 in
set_option maxRecDepth 100000 in
theorem holdTexts_any (R g n : Nat) (w : World) (h : RoomT w R g n) (hn : n ≤ 1048576) :
    Calls Tryz.prog 49 #[.pointer (some ⟨R, 0, none⟩)] w fun e w' => e = .returned (.bool true) ∧ w' = w := by
  obtain ⟨b1, c1, b2, c2, cap, q1, q2, q3, q4, _, _⟩ := h.rows
  have HM : Hid (∀ i, i < 40 → w.cell? ⟨g, n + i, none⟩ = some (.string (wordB i))) := h.marks
  have C := fun i W hi => word_any i W hi
  clear h
  go_enter Tryz.func49, Tryz.ntmps49
  go_wp2
  go_loopw [3] (fun i wr => ∃ k : Nat, k ≤ 1 ∧ i = .int .i64 k ∧ wr = w) (fun i _ => 1 - iOf i)
  case atStart => exact ⟨0, by omega, rfl, rfl⟩
  case round =>
    obtain ⟨k, hk, rfl, rfl⟩ := hrel
    by_cases hk0 : k = 0
    · subst hk0
      rw [show ((0 : Nat) : Int) = 0 from rfl]
      go_wp2
      go_loopw [5] (fun y wz => ∃ m : Nat, m ≤ 40 ∧ y = .int .i64 ((n + m : Nat) : Int) ∧ wz = wr) (fun y _ => n + 40 - iOf y)
      case atStart => exact ⟨0, by omega, rfl, rfl⟩
      case round =>
        obtain ⟨m, hm, rfl, rfl⟩ := hrel
        by_cases hm4 : m < 40
        · have i1 : (m : Int) < 40 := by omega
          have hc := HM.out m hm4
          have CW := C m wr (by omega)
          have e1 : (n : Int) + (m : Int) - (n : Int) = (m : Int) := by omega
          generalize wordB m = x at *
          go_wp2_with (go_at_call 82; refine CW.mono ?_; rintro e w2 ⟨rfl, e2⟩; subst e2)
          go_roundw
          case rel => exact ⟨m + 1, by omega, by go_num, by simp⟩
          case measure => simp; omega
        · have i1 : ¬ ((m : Int) < 40) := by omega
          go_wp2
          go_roundw
          case rel => exact ⟨1, by omega, by go_num, by simp⟩
          case measure => simp
    · obtain rfl : k = 1 := by omega
      go_wp2
      go_ret
      exact ⟨rfl, rfl⟩
set_option maxHeartbeats 1600000 in
set_option maxRecDepth 100000 in
theorem roomHold_any (R g n : Nat) (w : World) (h : RoomT w R g n) (hn : n ≤ 1048576) :
    Calls Tryz.prog 15 #[.pointer (some ⟨R, 0, none⟩)] w fun e w' => e = .returned (.bool true) ∧ w' = w := by
  have C32 := holdTexts_any R g n w h hn
  have C30 := hold30_idle R w (h.idle 0 (by decide) (by decide) (by decide))
  have C31 := hold31_idle R w (h.idle 2 (by decide) (by decide) (by decide))
  have C33 := hold33_idle R w (h.idle 6 (by decide) (by decide) (by decide))
  have C34 := hold34_idle R w (h.idle 8 (by decide) (by decide) (by decide))
  have C35 := hold35_idle R w (h.idle 10 (by decide) (by decide) (by decide))
  have C36 := hold36_idle R w (h.idle 12 (by decide) (by decide) (by decide))
  have C37 := hold37_idle R w (h.idle 14 (by decide) (by decide) (by decide))
  have C38 := hold38_idle R w (h.idle 16 (by decide) (by decide) (by decide))
  have C39 := hold39_idle R w (h.idle 18 (by decide) (by decide) (by decide))
  have C40 := hold40_idle R w (h.idle 20 (by decide) (by decide) (by decide))
  have C41 := hold41_idle R w (h.idle 22 (by decide) (by decide) (by decide))
  have C42 := hold42_idle R w (h.idle 24 (by decide) (by decide) (by decide))
  clear h
  go_enter Tryz.func15, Tryz.ntmps15
  go_wp2_with (first
    | (go_at_call 47; refine C30.mono ?_; rintro e w2 ⟨rfl, e2⟩; subst e2)
    | (go_at_call 48; refine C31.mono ?_; rintro e w2 ⟨rfl, e2⟩; subst e2)
    | (go_at_call 49; refine C32.mono ?_; rintro e w2 ⟨rfl, e2⟩; subst e2)
    | (go_at_call 50; refine C33.mono ?_; rintro e w2 ⟨rfl, e2⟩; subst e2)
    | (go_at_call 51; refine C34.mono ?_; rintro e w2 ⟨rfl, e2⟩; subst e2)
    | (go_at_call 52; refine C35.mono ?_; rintro e w2 ⟨rfl, e2⟩; subst e2)
    | (go_at_call 53; refine C36.mono ?_; rintro e w2 ⟨rfl, e2⟩; subst e2)
    | (go_at_call 54; refine C37.mono ?_; rintro e w2 ⟨rfl, e2⟩; subst e2)
    | (go_at_call 55; refine C38.mono ?_; rintro e w2 ⟨rfl, e2⟩; subst e2)
    | (go_at_call 56; refine C39.mono ?_; rintro e w2 ⟨rfl, e2⟩; subst e2)
    | (go_at_call 57; refine C40.mono ?_; rintro e w2 ⟨rfl, e2⟩; subst e2)
    | (go_at_call 58; refine C41.mono ?_; rintro e w2 ⟨rfl, e2⟩; subst e2)
    | (go_at_call 59; refine C42.mono ?_; rintro e w2 ⟨rfl, e2⟩; subst e2))
  go_ret
  exact ⟨rfl, rfl⟩
end Go.Proofs.YtnhnggnldhmepaaGreatDoor
