/-
  THE ROOM with one list of bytes: Bytes, Hold.
-/
import Derived.Test.YtmglopfjjbnfiaaDoorRefDig
namespace Go.Proofs.YtmglopfjjbnfiaaDoor
open Go.RowKit

theorem Tryd.infoR43 : (Tryd.prog.info? 43).map (fun i => (i.zero, i.size, i.bytes)) = some (some (.slice none 0 0), 1, 24) := by kernel_rfl
theorem Tryd.infoR3 : (Tryd.prog.info? 3).map (fun i => (i.zero, i.size, i.bytes)) = some (some (.int .i64 0), 1, 8) := by kernel_rfl
def iOf (v : Value) : Nat := match v with | .int _ i => i.toNat | _ => 0
@[simp] theorem iOf_int (k : IntKind) (i : Int) : iOf (.int k i) = i.toNat := rfl

theorem one_new {w : World} {x : Value} {T : TypeId} : ∀ (j : Nat) (u : Value), [x][j]? = some u → (w.alloc (Obj.cells #[x] T)).cell? ((⟨w.heap.size, 0, none⟩ : Addr).add j) = some u := by
  intro j u hj
  match j, hj with
  | 0, hj => simp at hj; subst hj; simp [Addr.add]
theorem rel_own {w wr w1 : World} {v : Value} {o : Obj} (hb : Below w.heap.size w wr) (hown : ∀ k, v.ownBlock = some k → w.heap.size ≤ k) (hg : (wr.alloc o).grownBy w1 v.ownBlock) : Below w.heap.size w w1 :=
  (hb.alloc hb.size o).grown hg (by have := hb.size; simp; omega) hown

/-- The mark of a place behind a list of bytes. -/
def lotB (i : Nat) : Nat := if i % 2 = 0 then 235 else 234
def lotsL (k : Nat) : List Nat := (List.range k).map lotB
theorem lotsL_len (k : Nat) : (lotsL k).length = k := by simp [lotsL]
theorem lotsL_succ (k : Nat) : lotsL (k + 1) = lotsL k ++ [lotB k] := by simp [lotsL, List.range_succ]
theorem lotB_byte (i : Nat) : lotB i < 256 := by unfold lotB; split <;> omega

set_option maxHeartbeats 800000 in
set_option maxRecDepth 100000 in
theorem lot_any (i : Nat) (w : World) (hi : i ≤ 1000000) :
    Calls Tryd.prog 63 #[.int .i64 i] w fun e w' => ∃ z : Int, e = .returned (.int .i64 z) ∧ w' = w ∧ z % 256 = (lotB i : Int) := by
  by_cases c : i % 2 = 0
  · have e : lotB i = 235 := by unfold lotB; rw [if_pos c]
    rw [e]
    go_enter Tryd.func63, Tryd.ntmps63
    go_wp2
    go_ret
    exact ⟨_, rfl, rfl, by decide⟩
  · have e : lotB i = 234 := by unfold lotB; rw [if_neg c]
    rw [e]
    go_enter Tryd.func63, Tryd.ntmps63
    go_wp2
    go_ret
    exact ⟨_, rfl, rfl, by decide⟩

set_option maxHeartbeats 800000 in
set_option maxRecDepth 100000 in
theorem hold45_idle (R : Nat) (w : World) (h1 : w.cell? ⟨R, 2, none⟩ = some (.slice none 0 0)) :
    Calls Tryd.prog 45 #[.pointer (some ⟨R, 0, none⟩)] w fun e w' => e = .returned (.bool true) ∧ w' = w := by
  go_enter Tryd.func45, Tryd.ntmps45
  go_wp2
  go_loopw [3] (fun i wr => i = .int .i64 0 ∧ wr = w) (fun _ _ => 0)
  case atStart => exact ⟨rfl, rfl⟩
  case round =>
    obtain ⟨rfl, rfl⟩ := hrel
    go_wp2
    go_ret
    exact ⟨rfl, rfl⟩
set_option maxHeartbeats 800000 in
set_option maxRecDepth 100000 in
theorem hold46_idle (R : Nat) (w : World) (h1 : w.cell? ⟨R, 4, none⟩ = some (.slice none 0 0)) :
    Calls Tryd.prog 46 #[.pointer (some ⟨R, 0, none⟩)] w fun e w' => e = .returned (.bool true) ∧ w' = w := by
  go_enter Tryd.func46, Tryd.ntmps46
  go_wp2
  go_loopw [3] (fun i wr => i = .int .i64 0 ∧ wr = w) (fun _ _ => 0)
  case atStart => exact ⟨rfl, rfl⟩
  case round =>
    obtain ⟨rfl, rfl⟩ := hrel
    go_wp2
    go_ret
    exact ⟨rfl, rfl⟩
set_option maxHeartbeats 800000 in
set_option maxRecDepth 100000 in
theorem hold47_idle (R : Nat) (w : World) (h1 : w.cell? ⟨R, 6, none⟩ = some (.slice none 0 0)) :
    Calls Tryd.prog 47 #[.pointer (some ⟨R, 0, none⟩)] w fun e w' => e = .returned (.bool true) ∧ w' = w := by
  go_enter Tryd.func47, Tryd.ntmps47
  go_wp2
  go_loopw [3] (fun i wr => i = .int .i64 0 ∧ wr = w) (fun _ _ => 0)
  case atStart => exact ⟨rfl, rfl⟩
  case round =>
    obtain ⟨rfl, rfl⟩ := hrel
    go_wp2
    go_ret
    exact ⟨rfl, rfl⟩
set_option maxHeartbeats 800000 in
set_option maxRecDepth 100000 in
theorem hold48_idle (R : Nat) (w : World) (h1 : w.cell? ⟨R, 8, none⟩ = some (.slice none 0 0)) :
    Calls Tryd.prog 48 #[.pointer (some ⟨R, 0, none⟩)] w fun e w' => e = .returned (.bool true) ∧ w' = w := by
  go_enter Tryd.func48, Tryd.ntmps48
  go_wp2
  go_loopw [3] (fun i wr => i = .int .i64 0 ∧ wr = w) (fun _ _ => 0)
  case atStart => exact ⟨rfl, rfl⟩
  case round =>
    obtain ⟨rfl, rfl⟩ := hrel
    go_wp2
    go_ret
    exact ⟨rfl, rfl⟩
set_option maxHeartbeats 800000 in
set_option maxRecDepth 100000 in
theorem hold49_idle (R : Nat) (w : World) (h1 : w.cell? ⟨R, 10, none⟩ = some (.slice none 0 0)) :
    Calls Tryd.prog 49 #[.pointer (some ⟨R, 0, none⟩)] w fun e w' => e = .returned (.bool true) ∧ w' = w := by
  go_enter Tryd.func49, Tryd.ntmps49
  go_wp2
  go_loopw [3] (fun i wr => i = .int .i64 0 ∧ wr = w) (fun _ _ => 0)
  case atStart => exact ⟨rfl, rfl⟩
  case round =>
    obtain ⟨rfl, rfl⟩ := hrel
    go_wp2
    go_ret
    exact ⟨rfl, rfl⟩
set_option maxHeartbeats 800000 in
set_option maxRecDepth 100000 in
theorem hold50_idle (R : Nat) (w : World) (h1 : w.cell? ⟨R, 12, none⟩ = some (.slice none 0 0)) :
    Calls Tryd.prog 50 #[.pointer (some ⟨R, 0, none⟩)] w fun e w' => e = .returned (.bool true) ∧ w' = w := by
  go_enter Tryd.func50, Tryd.ntmps50
  go_wp2
  go_loopw [3] (fun i wr => i = .int .i64 0 ∧ wr = w) (fun _ _ => 0)
  case atStart => exact ⟨rfl, rfl⟩
  case round =>
    obtain ⟨rfl, rfl⟩ := hrel
    go_wp2
    go_ret
    exact ⟨rfl, rfl⟩
set_option maxHeartbeats 800000 in
set_option maxRecDepth 100000 in
theorem hold51_idle (R : Nat) (w : World) (h1 : w.cell? ⟨R, 14, none⟩ = some (.slice none 0 0)) :
    Calls Tryd.prog 51 #[.pointer (some ⟨R, 0, none⟩)] w fun e w' => e = .returned (.bool true) ∧ w' = w := by
  go_enter Tryd.func51, Tryd.ntmps51
  go_wp2
  go_loopw [3] (fun i wr => i = .int .i64 0 ∧ wr = w) (fun _ _ => 0)
  case atStart => exact ⟨rfl, rfl⟩
  case round =>
    obtain ⟨rfl, rfl⟩ := hrel
    go_wp2
    go_ret
    exact ⟨rfl, rfl⟩
set_option maxHeartbeats 800000 in
set_option maxRecDepth 100000 in
theorem hold52_idle (R : Nat) (w : World) (h1 : w.cell? ⟨R, 16, none⟩ = some (.slice none 0 0)) :
    Calls Tryd.prog 52 #[.pointer (some ⟨R, 0, none⟩)] w fun e w' => e = .returned (.bool true) ∧ w' = w := by
  go_enter Tryd.func52, Tryd.ntmps52
  go_wp2
  go_loopw [3] (fun i wr => i = .int .i64 0 ∧ wr = w) (fun _ _ => 0)
  case atStart => exact ⟨rfl, rfl⟩
  case round =>
    obtain ⟨rfl, rfl⟩ := hrel
    go_wp2
    go_ret
    exact ⟨rfl, rfl⟩
set_option maxHeartbeats 800000 in
set_option maxRecDepth 100000 in
theorem hold53_idle (R : Nat) (w : World) (h1 : w.cell? ⟨R, 18, none⟩ = some (.slice none 0 0)) :
    Calls Tryd.prog 53 #[.pointer (some ⟨R, 0, none⟩)] w fun e w' => e = .returned (.bool true) ∧ w' = w := by
  go_enter Tryd.func53, Tryd.ntmps53
  go_wp2
  go_loopw [3] (fun i wr => i = .int .i64 0 ∧ wr = w) (fun _ _ => 0)
  case atStart => exact ⟨rfl, rfl⟩
  case round =>
    obtain ⟨rfl, rfl⟩ := hrel
    go_wp2
    go_ret
    exact ⟨rfl, rfl⟩
set_option maxHeartbeats 800000 in
set_option maxRecDepth 100000 in
theorem hold54_idle (R : Nat) (w : World) (h1 : w.cell? ⟨R, 20, none⟩ = some (.slice none 0 0)) :
    Calls Tryd.prog 54 #[.pointer (some ⟨R, 0, none⟩)] w fun e w' => e = .returned (.bool true) ∧ w' = w := by
  go_enter Tryd.func54, Tryd.ntmps54
  go_wp2
  go_loopw [3] (fun i wr => i = .int .i64 0 ∧ wr = w) (fun _ _ => 0)
  case atStart => exact ⟨rfl, rfl⟩
  case round =>
    obtain ⟨rfl, rfl⟩ := hrel
    go_wp2
    go_ret
    exact ⟨rfl, rfl⟩
set_option maxHeartbeats 800000 in
set_option maxRecDepth 100000 in
theorem hold55_idle (R : Nat) (w : World) (h1 : w.cell? ⟨R, 22, none⟩ = some (.slice none 0 0)) :
    Calls Tryd.prog 55 #[.pointer (some ⟨R, 0, none⟩)] w fun e w' => e = .returned (.bool true) ∧ w' = w := by
  go_enter Tryd.func55, Tryd.ntmps55
  go_wp2
  go_loopw [3] (fun i wr => i = .int .i64 0 ∧ wr = w) (fun _ _ => 0)
  case atStart => exact ⟨rfl, rfl⟩
  case round =>
    obtain ⟨rfl, rfl⟩ := hrel
    go_wp2
    go_ret
    exact ⟨rfl, rfl⟩
set_option maxHeartbeats 800000 in
set_option maxRecDepth 100000 in
theorem hold56_idle (R : Nat) (w : World) (h1 : w.cell? ⟨R, 24, none⟩ = some (.slice none 0 0)) :
    Calls Tryd.prog 56 #[.pointer (some ⟨R, 0, none⟩)] w fun e w' => e = .returned (.bool true) ∧ w' = w := by
  go_enter Tryd.func56, Tryd.ntmps56
  go_wp2
  go_loopw [3] (fun i wr => i = .int .i64 0 ∧ wr = w) (fun _ _ => 0)
  case atStart => exact ⟨rfl, rfl⟩
  case round =>
    obtain ⟨rfl, rfl⟩ := hrel
    go_wp2
    go_ret
    exact ⟨rfl, rfl⟩
/-- the Room at block R, with one list of n bytes at block g, and the marks behind it -/
structure RoomB (w : World) (R g n : Nat) : Prop where
  idle : ∀ i, i < 26 → i ≠ 0 → i ≠ 1 → w.cell? ⟨R, i, none⟩ = some (.slice none 0 0)
  rows : ∃ b1 c1 b2 c2 cap, w.cell? ⟨R, 0, none⟩ = some (.slice (some ⟨b1, 0, none⟩) 1 c1) ∧ w.cell? ⟨R, 1, none⟩ = some (.slice (some ⟨b2, 0, none⟩) 1 c2) ∧
    w.cell? ⟨b1, 0, none⟩ = some (.slice (some ⟨g, 0, none⟩) (n + 600) cap) ∧ w.cell? ⟨b2, 0, none⟩ = some (.int .i64 n) ∧ b1 ≠ g ∧ b2 ≠ g ∧ R ≤ b1 ∧ R ≤ b2
  ne : R ≠ g
  fz : ∀ i, i < n → w.frozen? ⟨g, i, none⟩ = false
  marks : ∀ i, i < 600 → w.cell? ⟨g, n + i, none⟩ = some (vb (lotB i))

theorem RoomB.cells {w w' : World} {R g n : Nat} (h : RoomB w R g n) (hc : ∀ (a : Addr) (x : Value), w.cell? a = some x → w'.cell? a = some x) (hf : ∀ i, i < n → w'.frozen? ⟨g, i, none⟩ = false) : RoomB w' R g n := by
  obtain ⟨h1, ⟨b1, c1, b2, c2, cap, q1, q2, q3, q4, q5, q6⟩, h3, h4, h5⟩ := h
  exact ⟨fun i a b c => hc _ _ (h1 i a b c), ⟨b1, c1, b2, c2, cap, hc _ _ q1, hc _ _ q2, hc _ _ q3, hc _ _ q4, q5, q6⟩, h3, hf, fun i hi => hc _ _ (h5 i hi)⟩
theorem RoomB.below {w w' : World} {R g n : Nat} (h : RoomB w R g n) (hb : Below w.heap.size w w') : RoomB w' R g n := by
  refine h.cells (fun a x hx => by rw [hb.cell (World.block_lt_of_cell? w _ hx)]; exact hx) (fun i hi => ?_)
  have hg : g < w.heap.size := World.block_lt_of_cell? w ⟨g, n + 0, none⟩ (h.marks 0 (by omega))
  rw [hb.frozen (p := ⟨g, i, none⟩) hg]
  exact h.fz i hi
/-- What lies from the Room on is as it was: so is the Room. -/
theorem RoomB.high {w w' : World} {R g n : Nat} (h : RoomB w R g n) (hg : R ≤ g) (hb : ∀ k, R ≤ k → k < w.heap.size → w'.heap[k]? = w.heap[k]?) : RoomB w' R g n := by
  have hc : ∀ (k i : Nat) (x : Value), R ≤ k → w.cell? ⟨k, i, none⟩ = some x → w'.cell? ⟨k, i, none⟩ = some x := fun k i x hk hx => by
    rw [World.cell?_of_block (hb k hk (World.block_lt_of_cell? w ⟨k, i, none⟩ hx))]; exact hx
  obtain ⟨h1, ⟨b1, c1, b2, c2, cap, q1, q2, q3, q4, q5, q6, q7, q8⟩, h3, h4, h5⟩ := h
  have hgl : g < w.heap.size := World.block_lt_of_cell? w ⟨g, n + 0, none⟩ (h5 0 (by omega))
  exact ⟨fun i a b c => hc R i _ (Nat.le_refl _) (h1 i a b c), ⟨b1, c1, b2, c2, cap, hc R 0 _ (Nat.le_refl _) q1, hc R 1 _ (Nat.le_refl _) q2, hc b1 0 _ q7 q3, hc b2 0 _ q8 q4, q5, q6, q7, q8⟩, h3, fun i hi => by rw [World.frozen?_of_block (hb g hg hgl)]; exact h4 i hi, fun i hi => hc g _ _ hg (h5 i hi)⟩
theorem frozen_setG (w : World) (g k i : Nat) (x : Value) : (w.setCell ⟨g, k, none⟩ x).frozen? ⟨g, i, none⟩ = w.frozen? ⟨g, i, none⟩ := by
  simp only [World.frozen?, World.setCell, Array.getElem?_modify, if_true]
  cases hh : w.heap[g]? with
  | none => rfl
  | some ob => cases ob <;> rfl
theorem RoomB.set {w : World} {R g n k : Nat} (h : RoomB w R g n) (hk : k < n) (x : Value) : RoomB (w.setCell ⟨g, k, none⟩ x) R g n := by
  have ho : ∀ (b i : Nat), b ≠ g → (w.setCell ⟨g, k, none⟩ x).cell? ⟨b, i, none⟩ = w.cell? ⟨b, i, none⟩ := fun b i hb => World.cell?_setCell_other _ _ _ _ (fun e => hb (congrArg Addr.block e).symm)
  obtain ⟨h1, ⟨b1, c1, b2, c2, cap, q1, q2, q3, q4, q5, q6⟩, h3, h4, h5⟩ := h
  refine ⟨fun i a b c => (ho R i h3).trans (h1 i a b c), ⟨b1, c1, b2, c2, cap, (ho R 0 h3).trans q1, (ho R 1 h3).trans q2, (ho b1 0 q5).trans q3, (ho b2 0 q6.1).trans q4, q5, q6⟩, h3, fun i hi => (frozen_setG w g k i x).trans (h4 i hi), fun i hi => ?_⟩
  rw [World.cell?_setCell_other _ _ _ _ (fun e => by have := congrArg Addr.off e; simp at this; omega)]
  exact h5 i hi

set_option maxHeartbeats 1600000 in
set_option maxRecDepth 100000 in
theorem holdBytes_any (R g n : Nat) (w : World) (h : RoomB w R g n) (hn : n ≤ 1048576) :
    Calls Tryd.prog 44 #[.pointer (some ⟨R, 0, none⟩)] w fun e w' => e = .returned (.bool true) ∧ w' = w := by
  obtain ⟨b1, c1, b2, c2, cap, q1, q2, q3, q4, _, _⟩ := h.rows
  have HM : Hid (∀ i, i < 600 → w.cell? ⟨g, n + i, none⟩ = some (vb (lotB i))) := h.marks
  have C := fun i W hi => lot_any i W hi
  clear h
  go_enter Tryd.func44, Tryd.ntmps44
  go_wp2
  go_loopw [3] (fun i wr => ∃ k : Nat, k ≤ 1 ∧ i = .int .i64 k ∧ wr = w) (fun i _ => 1 - iOf i)
  case atStart => exact ⟨0, by omega, rfl, rfl⟩
  case round =>
    obtain ⟨k, hk, rfl, rfl⟩ := hrel
    by_cases hk0 : k = 0
    · subst hk0
      rw [show ((0 : Nat) : Int) = 0 from rfl]
      go_wp2
      go_loopw [5] (fun y wz => ∃ m : Nat, m ≤ 600 ∧ y = .int .i64 ((n + m : Nat) : Int) ∧ wz = wr) (fun y _ => n + 600 - iOf y)
      case atStart => exact ⟨0, by omega, rfl, rfl⟩
      case round =>
        obtain ⟨m, hm, rfl, rfl⟩ := hrel
        by_cases hm4 : m < 600
        · have i1 : (m : Int) < 600 := by omega
          have hc := HM.out m hm4
          have CW := C m wr (by omega)
          have e1 : (n : Int) + (m : Int) - (n : Int) = (m : Int) := by omega
          unfold vb at hc
          generalize lotB m = x at *
          go_wp2_with (go_at_call 63; refine CW.mono ?_; rintro e w2 ⟨z, rfl, e2, hz⟩; subst e2)
          go_roundw
          case rel => exact ⟨m + 1, by omega, by go_num, by simp⟩
          case measure => simp; omega
        · have i1 : ¬ ((m : Int) < 600) := by omega
          go_wp2
          go_roundw
          case rel => exact ⟨1, by omega, by go_num, by simp⟩
          case measure => simp
    · obtain rfl : k = 1 := by omega
      go_wp2
      go_ret
      exact ⟨rfl, rfl⟩
set_option maxHeartbeats 1600000 in
set_option maxRecDepth 100000 in
theorem roomHold_any (R g n : Nat) (w : World) (h : RoomB w R g n) (hn : n ≤ 1048576) :
    Calls Tryd.prog 16 #[.pointer (some ⟨R, 0, none⟩)] w fun e w' => e = .returned (.bool true) ∧ w' = w := by
  have C44 := holdBytes_any R g n w h hn
  have C45 := hold45_idle R w (h.idle 2 (by decide) (by decide) (by decide))
  have C46 := hold46_idle R w (h.idle 4 (by decide) (by decide) (by decide))
  have C47 := hold47_idle R w (h.idle 6 (by decide) (by decide) (by decide))
  have C48 := hold48_idle R w (h.idle 8 (by decide) (by decide) (by decide))
  have C49 := hold49_idle R w (h.idle 10 (by decide) (by decide) (by decide))
  have C50 := hold50_idle R w (h.idle 12 (by decide) (by decide) (by decide))
  have C51 := hold51_idle R w (h.idle 14 (by decide) (by decide) (by decide))
  have C52 := hold52_idle R w (h.idle 16 (by decide) (by decide) (by decide))
  have C53 := hold53_idle R w (h.idle 18 (by decide) (by decide) (by decide))
  have C54 := hold54_idle R w (h.idle 20 (by decide) (by decide) (by decide))
  have C55 := hold55_idle R w (h.idle 22 (by decide) (by decide) (by decide))
  have C56 := hold56_idle R w (h.idle 24 (by decide) (by decide) (by decide))
  clear h
  go_enter Tryd.func16, Tryd.ntmps16
  go_wp2_with (first
    | (go_at_call 44; refine C44.mono ?_; rintro e w2 ⟨rfl, e2⟩; subst e2)
    | (go_at_call 45; refine C45.mono ?_; rintro e w2 ⟨rfl, e2⟩; subst e2)
    | (go_at_call 46; refine C46.mono ?_; rintro e w2 ⟨rfl, e2⟩; subst e2)
    | (go_at_call 47; refine C47.mono ?_; rintro e w2 ⟨rfl, e2⟩; subst e2)
    | (go_at_call 48; refine C48.mono ?_; rintro e w2 ⟨rfl, e2⟩; subst e2)
    | (go_at_call 49; refine C49.mono ?_; rintro e w2 ⟨rfl, e2⟩; subst e2)
    | (go_at_call 50; refine C50.mono ?_; rintro e w2 ⟨rfl, e2⟩; subst e2)
    | (go_at_call 51; refine C51.mono ?_; rintro e w2 ⟨rfl, e2⟩; subst e2)
    | (go_at_call 52; refine C52.mono ?_; rintro e w2 ⟨rfl, e2⟩; subst e2)
    | (go_at_call 53; refine C53.mono ?_; rintro e w2 ⟨rfl, e2⟩; subst e2)
    | (go_at_call 54; refine C54.mono ?_; rintro e w2 ⟨rfl, e2⟩; subst e2)
    | (go_at_call 55; refine C55.mono ?_; rintro e w2 ⟨rfl, e2⟩; subst e2)
    | (go_at_call 56; refine C56.mono ?_; rintro e w2 ⟨rfl, e2⟩; subst e2))
  go_ret
  exact ⟨rfl, rfl⟩
end Go.Proofs.YtmglopfjjbnfiaaDoor
