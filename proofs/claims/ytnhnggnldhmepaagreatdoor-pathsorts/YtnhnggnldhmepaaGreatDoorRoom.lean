/-
  THE ROOM, with one list of texts.
-/
import Derived.Test.YtnhnggnldhmepaaGreatDoorStep
import Derived.Maps.AppendAt
namespace Go.Proofs.YtnhnggnldhmepaaGreatDoor
open Go.RowKit


/-- the mark of a place behind a list -/
def wordB (i : Nat) : ByteArray := if i % 2 = 0 then ⟨#[60, 111, 110, 101, 62]⟩ else ⟨#[60, 116, 119, 111, 62]⟩
def wordsL (k : Nat) : List ByteArray := (List.range k).map wordB
theorem wordsL_len (k : Nat) : (wordsL k).length = k := by simp [wordsL]
theorem wordsL_succ (k : Nat) : wordsL (k + 1) = wordsL k ++ [wordB k] := by simp [wordsL, List.range_succ]
set_option maxHeartbeats 800000 in
set_option maxRecDepth 100000 in
theorem word_any (i : Nat) (w : World) (hi : i ≤ 1000000) :
    Calls Tryz.prog 82 #[.int .i64 i] w fun e w' => e = .returned (.string (wordB i)) ∧ w' = w := by
  by_cases c : i % 2 = 0
  · unfold wordB
    rw [if_pos c]
    go_enter Tryz.func82, Tryz.ntmps82
    go_wp2
    go_ret
    exact ⟨rfl, rfl⟩
  · unfold wordB
    rw [if_neg c]
    go_enter Tryz.func82, Tryz.ntmps82
    go_wp2
    go_ret
    exact ⟨rfl, rfl⟩

set_option maxHeartbeats 800000 in
set_option maxRecDepth 100000 in
theorem hold30_idle (R : Nat) (w : World) (h1 : w.cell? ⟨R, 0, none⟩ = some (.slice none 0 0)) :
    Calls Tryz.prog 47 #[.pointer (some ⟨R, 0, none⟩)] w fun e w' => e = .returned (.bool true) ∧ w' = w := by
  go_enter Tryz.func47, Tryz.ntmps47
  go_wp2
  go_loopw [3] (fun i wr => i = .int .i64 0 ∧ wr = w) (fun _ _ => 0)
  case atStart => exact ⟨rfl, rfl⟩
  case round =>
    obtain ⟨rfl, rfl⟩ := hrel
    go_wp2
    go_ret
    exact ⟨rfl, rfl⟩
set_option maxHeartbeats 800000 in
set_option maxRecDepth 100000 in
theorem hold31_idle (R : Nat) (w : World) (h1 : w.cell? ⟨R, 2, none⟩ = some (.slice none 0 0)) :
    Calls Tryz.prog 48 #[.pointer (some ⟨R, 0, none⟩)] w fun e w' => e = .returned (.bool true) ∧ w' = w := by
  go_enter Tryz.func48, Tryz.ntmps48
  go_wp2
  go_loopw [3] (fun i wr => i = .int .i64 0 ∧ wr = w) (fun _ _ => 0)
  case atStart => exact ⟨rfl, rfl⟩
  case round =>
    obtain ⟨rfl, rfl⟩ := hrel
    go_wp2
    go_ret
    exact ⟨rfl, rfl⟩
set_option maxHeartbeats 800000 in
set_option maxRecDepth 100000 in
theorem hold33_idle (R : Nat) (w : World) (h1 : w.cell? ⟨R, 6, none⟩ = some (.slice none 0 0)) :
    Calls Tryz.prog 50 #[.pointer (some ⟨R, 0, none⟩)] w fun e w' => e = .returned (.bool true) ∧ w' = w := by
  go_enter Tryz.func50, Tryz.ntmps50
  go_wp2
  go_loopw [3] (fun i wr => i = .int .i64 0 ∧ wr = w) (fun _ _ => 0)
  case atStart => exact ⟨rfl, rfl⟩
  case round =>
    obtain ⟨rfl, rfl⟩ := hrel
    go_wp2
    go_ret
    exact ⟨rfl, rfl⟩
set_option maxHeartbeats 800000 in
set_option maxRecDepth 100000 in
theorem hold34_idle (R : Nat) (w : World) (h1 : w.cell? ⟨R, 8, none⟩ = some (.slice none 0 0)) :
    Calls Tryz.prog 51 #[.pointer (some ⟨R, 0, none⟩)] w fun e w' => e = .returned (.bool true) ∧ w' = w := by
  go_enter Tryz.func51, Tryz.ntmps51
  go_wp2
  go_loopw [3] (fun i wr => i = .int .i64 0 ∧ wr = w) (fun _ _ => 0)
  case atStart => exact ⟨rfl, rfl⟩
  case round =>
    obtain ⟨rfl, rfl⟩ := hrel
    go_wp2
    go_ret
    exact ⟨rfl, rfl⟩
set_option maxHeartbeats 800000 in
set_option maxRecDepth 100000 in
theorem hold35_idle (R : Nat) (w : World) (h1 : w.cell? ⟨R, 10, none⟩ = some (.slice none 0 0)) :
    Calls Tryz.prog 52 #[.pointer (some ⟨R, 0, none⟩)] w fun e w' => e = .returned (.bool true) ∧ w' = w := by
  go_enter Tryz.func52, Tryz.ntmps52
  go_wp2
  go_loopw [3] (fun i wr => i = .int .i64 0 ∧ wr = w) (fun _ _ => 0)
  case atStart => exact ⟨rfl, rfl⟩
  case round =>
    obtain ⟨rfl, rfl⟩ := hrel
    go_wp2
    go_ret
    exact ⟨rfl, rfl⟩
set_option maxHeartbeats 800000 in
set_option maxRecDepth 100000 in
theorem hold36_idle (R : Nat) (w : World) (h1 : w.cell? ⟨R, 12, none⟩ = some (.slice none 0 0)) :
    Calls Tryz.prog 53 #[.pointer (some ⟨R, 0, none⟩)] w fun e w' => e = .returned (.bool true) ∧ w' = w := by
  go_enter Tryz.func53, Tryz.ntmps53
  go_wp2
  go_loopw [3] (fun i wr => i = .int .i64 0 ∧ wr = w) (fun _ _ => 0)
  case atStart => exact ⟨rfl, rfl⟩
  case round =>
    obtain ⟨rfl, rfl⟩ := hrel
    go_wp2
    go_ret
    exact ⟨rfl, rfl⟩
set_option maxHeartbeats 800000 in
set_option maxRecDepth 100000 in
theorem hold37_idle (R : Nat) (w : World) (h1 : w.cell? ⟨R, 14, none⟩ = some (.slice none 0 0)) :
    Calls Tryz.prog 54 #[.pointer (some ⟨R, 0, none⟩)] w fun e w' => e = .returned (.bool true) ∧ w' = w := by
  go_enter Tryz.func54, Tryz.ntmps54
  go_wp2
  go_loopw [3] (fun i wr => i = .int .i64 0 ∧ wr = w) (fun _ _ => 0)
  case atStart => exact ⟨rfl, rfl⟩
  case round =>
    obtain ⟨rfl, rfl⟩ := hrel
    go_wp2
    go_ret
    exact ⟨rfl, rfl⟩
set_option maxHeartbeats 800000 in
set_option maxRecDepth 100000 in
theorem hold38_idle (R : Nat) (w : World) (h1 : w.cell? ⟨R, 16, none⟩ = some (.slice none 0 0)) :
    Calls Tryz.prog 55 #[.pointer (some ⟨R, 0, none⟩)] w fun e w' => e = .returned (.bool true) ∧ w' = w := by
  go_enter Tryz.func55, Tryz.ntmps55
  go_wp2
  go_loopw [3] (fun i wr => i = .int .i64 0 ∧ wr = w) (fun _ _ => 0)
  case atStart => exact ⟨rfl, rfl⟩
  case round =>
    obtain ⟨rfl, rfl⟩ := hrel
    go_wp2
    go_ret
    exact ⟨rfl, rfl⟩
set_option maxHeartbeats 800000 in
set_option maxRecDepth 100000 in
theorem hold39_idle (R : Nat) (w : World) (h1 : w.cell? ⟨R, 18, none⟩ = some (.slice none 0 0)) :
    Calls Tryz.prog 56 #[.pointer (some ⟨R, 0, none⟩)] w fun e w' => e = .returned (.bool true) ∧ w' = w := by
  go_enter Tryz.func56, Tryz.ntmps56
  go_wp2
  go_loopw [3] (fun i wr => i = .int .i64 0 ∧ wr = w) (fun _ _ => 0)
  case atStart => exact ⟨rfl, rfl⟩
  case round =>
    obtain ⟨rfl, rfl⟩ := hrel
    go_wp2
    go_ret
    exact ⟨rfl, rfl⟩
set_option maxHeartbeats 800000 in
set_option maxRecDepth 100000 in
theorem hold40_idle (R : Nat) (w : World) (h1 : w.cell? ⟨R, 20, none⟩ = some (.slice none 0 0)) :
    Calls Tryz.prog 57 #[.pointer (some ⟨R, 0, none⟩)] w fun e w' => e = .returned (.bool true) ∧ w' = w := by
  go_enter Tryz.func57, Tryz.ntmps57
  go_wp2
  go_loopw [3] (fun i wr => i = .int .i64 0 ∧ wr = w) (fun _ _ => 0)
  case atStart => exact ⟨rfl, rfl⟩
  case round =>
    obtain ⟨rfl, rfl⟩ := hrel
    go_wp2
    go_ret
    exact ⟨rfl, rfl⟩
set_option maxHeartbeats 800000 in
set_option maxRecDepth 100000 in
theorem hold41_idle (R : Nat) (w : World) (h1 : w.cell? ⟨R, 22, none⟩ = some (.slice none 0 0)) :
    Calls Tryz.prog 58 #[.pointer (some ⟨R, 0, none⟩)] w fun e w' => e = .returned (.bool true) ∧ w' = w := by
  go_enter Tryz.func58, Tryz.ntmps58
  go_wp2
  go_loopw [3] (fun i wr => i = .int .i64 0 ∧ wr = w) (fun _ _ => 0)
  case atStart => exact ⟨rfl, rfl⟩
  case round =>
    obtain ⟨rfl, rfl⟩ := hrel
    go_wp2
    go_ret
    exact ⟨rfl, rfl⟩
set_option maxHeartbeats 800000 in
set_option maxRecDepth 100000 in
theorem hold42_idle (R : Nat) (w : World) (h1 : w.cell? ⟨R, 24, none⟩ = some (.slice none 0 0)) :
    Calls Tryz.prog 59 #[.pointer (some ⟨R, 0, none⟩)] w fun e w' => e = .returned (.bool true) ∧ w' = w := by
  go_enter Tryz.func59, Tryz.ntmps59
  go_wp2
  go_loopw [3] (fun i wr => i = .int .i64 0 ∧ wr = w) (fun _ _ => 0)
  case atStart => exact ⟨rfl, rfl⟩
  case round =>
    obtain ⟨rfl, rfl⟩ := hrel
    go_wp2
    go_ret
    exact ⟨rfl, rfl⟩

/-- the Room at block R, with one list of n texts at block g, and the marks behind it -/
structure RoomT (w : World) (R g n : Nat) : Prop where
  idle : ∀ i, i < 26 → i ≠ 4 → i ≠ 5 → w.cell? ⟨R, i, none⟩ = some (.slice none 0 0)
  rows : ∃ b1 c1 b2 c2 cap, w.cell? ⟨R, 4, none⟩ = some (.slice (some ⟨b1, 0, none⟩) 1 c1) ∧ w.cell? ⟨R, 5, none⟩ = some (.slice (some ⟨b2, 0, none⟩) 1 c2) ∧
    w.cell? ⟨b1, 0, none⟩ = some (.slice (some ⟨g, 0, none⟩) (n + 40) cap) ∧ w.cell? ⟨b2, 0, none⟩ = some (.int .i64 n) ∧ b1 ≠ g ∧ b2 ≠ g
  ne : R ≠ g
  fz : ∀ i, i < n → w.frozen? ⟨g, i, none⟩ = false
  marks : ∀ i, i < 40 → w.cell? ⟨g, n + i, none⟩ = some (.string (wordB i))

theorem RoomT.cells {w w' : World} {R g n : Nat} (h : RoomT w R g n) (hc : ∀ (a : Addr) (x : Value), w.cell? a = some x → w'.cell? a = some x) (hf : ∀ i, i < n → w'.frozen? ⟨g, i, none⟩ = false) : RoomT w' R g n := by
  obtain ⟨h1, ⟨b1, c1, b2, c2, cap, q1, q2, q3, q4, q5, q6⟩, h3, h4, h5⟩ := h
  exact ⟨fun i a b c => hc _ _ (h1 i a b c), ⟨b1, c1, b2, c2, cap, hc _ _ q1, hc _ _ q2, hc _ _ q3, hc _ _ q4, q5, q6⟩, h3, hf, fun i hi => hc _ _ (h5 i hi)⟩
theorem RoomT.below {w w' : World} {R g n : Nat} (h : RoomT w R g n) (hb : Below w.heap.size w w') : RoomT w' R g n := by
  refine h.cells (fun a x hx => by rw [hb.cell (World.block_lt_of_cell? w _ hx)]; exact hx) (fun i hi => ?_)
  have hg : g < w.heap.size := World.block_lt_of_cell? w ⟨g, n + 0, none⟩ (h.marks 0 (by omega))
  rw [hb.frozen (p := ⟨g, i, none⟩) hg]
  exact h.fz i hi
theorem frozen_setG (w : World) (g k i : Nat) (x : Value) : (w.setCell ⟨g, k, none⟩ x).frozen? ⟨g, i, none⟩ = w.frozen? ⟨g, i, none⟩ := by
  simp only [World.frozen?, World.setCell, Array.getElem?_modify, if_true]
  cases hh : w.heap[g]? with
  | none => rfl
  | some ob => cases ob <;> rfl
theorem RoomT.set {w : World} {R g n k : Nat} (h : RoomT w R g n) (hk : k < n) (x : Value) : RoomT (w.setCell ⟨g, k, none⟩ x) R g n := by
  have ho : ∀ (b i : Nat), b ≠ g → (w.setCell ⟨g, k, none⟩ x).cell? ⟨b, i, none⟩ = w.cell? ⟨b, i, none⟩ := fun b i hb => World.cell?_setCell_other _ _ _ _ (fun e => hb (congrArg Addr.block e).symm)
  obtain ⟨h1, ⟨b1, c1, b2, c2, cap, q1, q2, q3, q4, q5, q6⟩, h3, h4, h5⟩ := h
  refine ⟨fun i a b c => (ho R i h3).trans (h1 i a b c), ⟨b1, c1, b2, c2, cap, (ho R 4 h3).trans q1, (ho R 5 h3).trans q2, (ho b1 0 q5).trans q3, (ho b2 0 q6).trans q4, q5, q6⟩, h3, fun i hi => (frozen_setG w g k i x).trans (h4 i hi), fun i hi => ?_⟩
  rw [World.cell?_setCell_other _ _ _ _ (fun e => by have := congrArg Addr.off e; simp at this; omega)]
  exact h5 i hi

end Go.Proofs.YtnhnggnldhmepaaGreatDoor
