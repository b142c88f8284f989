import Derived.Test.YtbjjbgaomoihaaaGreatDoorCount
set_option maxRecDepth 100000
set_option maxHeartbeats 800000
namespace Go.Proofs.YtbjjbgaomoihaaaGreatDoor.Bk
open Go.RowKit
theorem set_same {w : World} {b o : Nat} {x : Value} (h : w.cell? ⟨b, o, none⟩ = some x) : w.setCell ⟨b, o, none⟩ x = w := by
  unfold World.cell? at h
  unfold World.setCell
  have : (w.heap.modify b fun
      | .cells c elem frozen => .cells (if (none : Option Nat).isSome then c else c.setIfInBounds o x) elem frozen
      | y => y) = w.heap := by
    apply Array.ext
    · simp
    · intro i h1 h2
      rw [Array.getElem_modify]
      by_cases e : b = i
      · subst e
        simp only [if_true]
        rw [Array.getElem?_eq_getElem h2] at h
        split
        · rename_i c elem frozen hc
          rw [hc] at h ⊢
          simp at h ⊢
          apply Array.ext
          · simp
          · intro j g1 g2
            rw [Array.getElem_setIfInBounds]
            split
            · rename_i ej
              subst ej
              rw [Array.getElem?_eq_getElem g2] at h
              exact (Option.some.inj h).symm
            · rfl
        · rfl
      · simp [e]
  exact congrArg (fun h => ({ w with heap := h } : World)) this
def idle (i : Nat) : Value := if (i - 4) % 9 = 8 then .int .i64 0 else .slice none 0 0
def Idle (w : World) (K : Nat) : Prop := ∀ i, 4 ≤ i → i < 148 → ¬ (22 ≤ i ∧ i < 31) → w.cell? ⟨K, i, none⟩ = some (idle i)
theorem markBytes_idle (K : Nat) (w : World) (hi : Idle w K) :
    Calls Tryz.prog 102 #[.pointer (some ⟨K, 0, none⟩)] w fun e w' => e = .returned (.tuple #[]) ∧ w' = w := by
  have h1 : w.cell? ⟨K, 6, none⟩ = some (.slice none 0 0) := hi 6 (by decide) (by decide) (by decide)
  have h2 : w.cell? ⟨K, 7, none⟩ = some (.slice none 0 0) := hi 7 (by decide) (by decide) (by decide)
  have h3 : w.cell? ⟨K, 9, none⟩ = some (.slice none 0 0) := hi 9 (by decide) (by decide) (by decide)
  have h4 : w.cell? ⟨K, 10, none⟩ = some (.slice none 0 0) := hi 10 (by decide) (by decide) (by decide)
  clear hi
  go_enter Tryz.func102, Tryz.ntmps102
  go_wp2
  (try simp only [Exit.inBlock, Exit.then])
  refine bodyPost_ret (results_none rfl _ _ _) rfl ?_
  exact ⟨rfl, rfl⟩
theorem growBytes_idle (K : Nat) (w : World) (hi : Idle w K) (hf : ∀ o, w.frozen? ⟨K, o, none⟩ = false) :
    Calls Tryz.prog 118 #[.pointer (some ⟨K, 0, none⟩)] w fun e w' => e = .returned (.tuple #[]) ∧ w' = w := by
  have h1 : w.cell? ⟨K, 8, none⟩ = some (.slice none 0 0) := hi 8 (by decide) (by decide) (by decide)
  have h2 : w.cell? ⟨K, 11, none⟩ = some (.slice none 0 0) := hi 11 (by decide) (by decide) (by decide)
  have e1 : w.setCell ⟨K, 8, none⟩ (.slice none 0 0) = w := set_same h1
  have e2 : w.setCell ⟨K, 11, none⟩ (.slice none 0 0) = w := set_same h2
  have HE : Hid ((w.setCell ⟨K, 8, none⟩ (.slice none 0 0)).setCell ⟨K, 11, none⟩ (.slice none 0 0) = w) := by
    show _ = _
    rw [e1, e2]
  clear hi e1 e2
  go_enter Tryz.func118, Tryz.ntmps118
  go_wp2
  go_loopw [2] (fun i wr => i = .int .i64 0 ∧ wr = w) (fun _ _ => 0)
  case atStart => exact ⟨rfl, rfl⟩
  case round =>
    obtain ⟨rfl, rfl⟩ := hrel
    go_wp2
    go_end0
    exact ⟨rfl, HE.out⟩
theorem holdBytes_idle (K : Nat) (w : World) (hi : Idle w K) :
    Calls Tryz.prog 40 #[.pointer (some ⟨K, 0, none⟩)] w fun e w' => e = .returned (.bool true) ∧ w' = w := by
  have h1 : w.cell? ⟨K, 4, none⟩ = some (.slice none 0 0) := hi 4 (by decide) (by decide) (by decide)
  have h2 : w.cell? ⟨K, 6, none⟩ = some (.slice none 0 0) := hi 6 (by decide) (by decide) (by decide)
  clear hi
  go_enter Tryz.func40, Tryz.ntmps40
  go_wp2
  go_loopw [3] (fun i wr => i = .int .i64 0 ∧ wr = w) (fun _ _ => 0)
  case atStart => exact ⟨rfl, rfl⟩
  case round =>
    obtain ⟨rfl, rfl⟩ := hrel
    go_wp2
    go_loopw [4] (fun i wz => i = .int .i64 0 ∧ wz = wr) (fun _ _ => 0)
    case atStart => exact ⟨rfl, rfl⟩
    case round =>
      obtain ⟨rfl, rfl⟩ := hrel
      go_wp2
      go_ret
      exact ⟨rfl, rfl⟩
theorem markInts_idle (K : Nat) (w : World) (hi : Idle w K) :
    Calls Tryz.prog 103 #[.pointer (some ⟨K, 0, none⟩)] w fun e w' => e = .returned (.tuple #[]) ∧ w' = w := by
  have h1 : w.cell? ⟨K, 15, none⟩ = some (.slice none 0 0) := hi 15 (by decide) (by decide) (by decide)
  have h2 : w.cell? ⟨K, 16, none⟩ = some (.slice none 0 0) := hi 16 (by decide) (by decide) (by decide)
  have h3 : w.cell? ⟨K, 18, none⟩ = some (.slice none 0 0) := hi 18 (by decide) (by decide) (by decide)
  have h4 : w.cell? ⟨K, 19, none⟩ = some (.slice none 0 0) := hi 19 (by decide) (by decide) (by decide)
  clear hi
  go_enter Tryz.func103, Tryz.ntmps103
  go_wp2
  (try simp only [Exit.inBlock, Exit.then])
  refine bodyPost_ret (results_none rfl _ _ _) rfl ?_
  exact ⟨rfl, rfl⟩
theorem growInts_idle (K : Nat) (w : World) (hi : Idle w K) (hf : ∀ o, w.frozen? ⟨K, o, none⟩ = false) :
    Calls Tryz.prog 119 #[.pointer (some ⟨K, 0, none⟩)] w fun e w' => e = .returned (.tuple #[]) ∧ w' = w := by
  have h1 : w.cell? ⟨K, 17, none⟩ = some (.slice none 0 0) := hi 17 (by decide) (by decide) (by decide)
  have h2 : w.cell? ⟨K, 20, none⟩ = some (.slice none 0 0) := hi 20 (by decide) (by decide) (by decide)
  have e1 : w.setCell ⟨K, 17, none⟩ (.slice none 0 0) = w := set_same h1
  have e2 : w.setCell ⟨K, 20, none⟩ (.slice none 0 0) = w := set_same h2
  have HE : Hid ((w.setCell ⟨K, 17, none⟩ (.slice none 0 0)).setCell ⟨K, 20, none⟩ (.slice none 0 0) = w) := by
    show _ = _
    rw [e1, e2]
  clear hi e1 e2
  go_enter Tryz.func119, Tryz.ntmps119
  go_wp2
  go_loopw [2] (fun i wr => i = .int .i64 0 ∧ wr = w) (fun _ _ => 0)
  case atStart => exact ⟨rfl, rfl⟩
  case round =>
    obtain ⟨rfl, rfl⟩ := hrel
    go_wp2
    go_end0
    exact ⟨rfl, HE.out⟩
theorem holdInts_idle (K : Nat) (w : World) (hi : Idle w K) :
    Calls Tryz.prog 41 #[.pointer (some ⟨K, 0, none⟩)] w fun e w' => e = .returned (.bool true) ∧ w' = w := by
  have h1 : w.cell? ⟨K, 13, none⟩ = some (.slice none 0 0) := hi 13 (by decide) (by decide) (by decide)
  have h2 : w.cell? ⟨K, 15, none⟩ = some (.slice none 0 0) := hi 15 (by decide) (by decide) (by decide)
  clear hi
  go_enter Tryz.func41, Tryz.ntmps41
  go_wp2
  go_loopw [3] (fun i wr => i = .int .i64 0 ∧ wr = w) (fun _ _ => 0)
  case atStart => exact ⟨rfl, rfl⟩
  case round =>
    obtain ⟨rfl, rfl⟩ := hrel
    go_wp2
    go_loopw [4] (fun i wz => i = .int .i64 0 ∧ wz = wr) (fun _ _ => 0)
    case atStart => exact ⟨rfl, rfl⟩
    case round =>
      obtain ⟨rfl, rfl⟩ := hrel
      go_wp2
      go_ret
      exact ⟨rfl, rfl⟩
theorem markLosts_idle (K : Nat) (w : World) (hi : Idle w K) :
    Calls Tryz.prog 105 #[.pointer (some ⟨K, 0, none⟩)] w fun e w' => e = .returned (.tuple #[]) ∧ w' = w := by
  have h1 : w.cell? ⟨K, 33, none⟩ = some (.slice none 0 0) := hi 33 (by decide) (by decide) (by decide)
  have h2 : w.cell? ⟨K, 34, none⟩ = some (.slice none 0 0) := hi 34 (by decide) (by decide) (by decide)
  have h3 : w.cell? ⟨K, 36, none⟩ = some (.slice none 0 0) := hi 36 (by decide) (by decide) (by decide)
  have h4 : w.cell? ⟨K, 37, none⟩ = some (.slice none 0 0) := hi 37 (by decide) (by decide) (by decide)
  clear hi
  go_enter Tryz.func105, Tryz.ntmps105
  go_wp2
  (try simp only [Exit.inBlock, Exit.then])
  refine bodyPost_ret (results_none rfl _ _ _) rfl ?_
  exact ⟨rfl, rfl⟩
theorem growLosts_idle (K : Nat) (w : World) (hi : Idle w K) (hf : ∀ o, w.frozen? ⟨K, o, none⟩ = false) :
    Calls Tryz.prog 121 #[.pointer (some ⟨K, 0, none⟩)] w fun e w' => e = .returned (.tuple #[]) ∧ w' = w := by
  have h1 : w.cell? ⟨K, 35, none⟩ = some (.slice none 0 0) := hi 35 (by decide) (by decide) (by decide)
  have h2 : w.cell? ⟨K, 38, none⟩ = some (.slice none 0 0) := hi 38 (by decide) (by decide) (by decide)
  have e1 : w.setCell ⟨K, 35, none⟩ (.slice none 0 0) = w := set_same h1
  have e2 : w.setCell ⟨K, 38, none⟩ (.slice none 0 0) = w := set_same h2
  have HE : Hid ((w.setCell ⟨K, 35, none⟩ (.slice none 0 0)).setCell ⟨K, 38, none⟩ (.slice none 0 0) = w) := by
    show _ = _
    rw [e1, e2]
  clear hi e1 e2
  go_enter Tryz.func121, Tryz.ntmps121
  go_wp2
  go_loopw [2] (fun i wr => i = .int .i64 0 ∧ wr = w) (fun _ _ => 0)
  case atStart => exact ⟨rfl, rfl⟩
  case round =>
    obtain ⟨rfl, rfl⟩ := hrel
    go_wp2
    go_end0
    exact ⟨rfl, HE.out⟩
theorem holdLosts_idle (K : Nat) (w : World) (hi : Idle w K) :
    Calls Tryz.prog 43 #[.pointer (some ⟨K, 0, none⟩)] w fun e w' => e = .returned (.bool true) ∧ w' = w := by
  have h1 : w.cell? ⟨K, 31, none⟩ = some (.slice none 0 0) := hi 31 (by decide) (by decide) (by decide)
  have h2 : w.cell? ⟨K, 33, none⟩ = some (.slice none 0 0) := hi 33 (by decide) (by decide) (by decide)
  clear hi
  go_enter Tryz.func43, Tryz.ntmps43
  go_wp2
  go_loopw [3] (fun i wr => i = .int .i64 0 ∧ wr = w) (fun _ _ => 0)
  case atStart => exact ⟨rfl, rfl⟩
  case round =>
    obtain ⟨rfl, rfl⟩ := hrel
    go_wp2
    go_loopw [4] (fun i wz => i = .int .i64 0 ∧ wz = wr) (fun _ _ => 0)
    case atStart => exact ⟨rfl, rfl⟩
    case round =>
      obtain ⟨rfl, rfl⟩ := hrel
      go_wp2
      go_ret
      exact ⟨rfl, rfl⟩
theorem markChanges_idle (K : Nat) (w : World) (hi : Idle w K) :
    Calls Tryz.prog 106 #[.pointer (some ⟨K, 0, none⟩)] w fun e w' => e = .returned (.tuple #[]) ∧ w' = w := by
  have h1 : w.cell? ⟨K, 42, none⟩ = some (.slice none 0 0) := hi 42 (by decide) (by decide) (by decide)
  have h2 : w.cell? ⟨K, 43, none⟩ = some (.slice none 0 0) := hi 43 (by decide) (by decide) (by decide)
  have h3 : w.cell? ⟨K, 45, none⟩ = some (.slice none 0 0) := hi 45 (by decide) (by decide) (by decide)
  have h4 : w.cell? ⟨K, 46, none⟩ = some (.slice none 0 0) := hi 46 (by decide) (by decide) (by decide)
  clear hi
  go_enter Tryz.func106, Tryz.ntmps106
  go_wp2
  (try simp only [Exit.inBlock, Exit.then])
  refine bodyPost_ret (results_none rfl _ _ _) rfl ?_
  exact ⟨rfl, rfl⟩
theorem growChanges_idle (K : Nat) (w : World) (hi : Idle w K) (hf : ∀ o, w.frozen? ⟨K, o, none⟩ = false) :
    Calls Tryz.prog 122 #[.pointer (some ⟨K, 0, none⟩)] w fun e w' => e = .returned (.tuple #[]) ∧ w' = w := by
  have h1 : w.cell? ⟨K, 44, none⟩ = some (.slice none 0 0) := hi 44 (by decide) (by decide) (by decide)
  have h2 : w.cell? ⟨K, 47, none⟩ = some (.slice none 0 0) := hi 47 (by decide) (by decide) (by decide)
  have e1 : w.setCell ⟨K, 44, none⟩ (.slice none 0 0) = w := set_same h1
  have e2 : w.setCell ⟨K, 47, none⟩ (.slice none 0 0) = w := set_same h2
  have HE : Hid ((w.setCell ⟨K, 44, none⟩ (.slice none 0 0)).setCell ⟨K, 47, none⟩ (.slice none 0 0) = w) := by
    show _ = _
    rw [e1, e2]
  clear hi e1 e2
  go_enter Tryz.func122, Tryz.ntmps122
  go_wp2
  go_loopw [2] (fun i wr => i = .int .i64 0 ∧ wr = w) (fun _ _ => 0)
  case atStart => exact ⟨rfl, rfl⟩
  case round =>
    obtain ⟨rfl, rfl⟩ := hrel
    go_wp2
    go_end0
    exact ⟨rfl, HE.out⟩
theorem holdChanges_idle (K : Nat) (w : World) (hi : Idle w K) :
    Calls Tryz.prog 44 #[.pointer (some ⟨K, 0, none⟩)] w fun e w' => e = .returned (.bool true) ∧ w' = w := by
  have h1 : w.cell? ⟨K, 40, none⟩ = some (.slice none 0 0) := hi 40 (by decide) (by decide) (by decide)
  have h2 : w.cell? ⟨K, 42, none⟩ = some (.slice none 0 0) := hi 42 (by decide) (by decide) (by decide)
  clear hi
  go_enter Tryz.func44, Tryz.ntmps44
  go_wp2
  go_loopw [3] (fun i wr => i = .int .i64 0 ∧ wr = w) (fun _ _ => 0)
  case atStart => exact ⟨rfl, rfl⟩
  case round =>
    obtain ⟨rfl, rfl⟩ := hrel
    go_wp2
    go_loopw [4] (fun i wz => i = .int .i64 0 ∧ wz = wr) (fun _ _ => 0)
    case atStart => exact ⟨rfl, rfl⟩
    case round =>
      obtain ⟨rfl, rfl⟩ := hrel
      go_wp2
      go_ret
      exact ⟨rfl, rfl⟩
theorem markCells_idle (K : Nat) (w : World) (hi : Idle w K) :
    Calls Tryz.prog 107 #[.pointer (some ⟨K, 0, none⟩)] w fun e w' => e = .returned (.tuple #[]) ∧ w' = w := by
  have h1 : w.cell? ⟨K, 51, none⟩ = some (.slice none 0 0) := hi 51 (by decide) (by decide) (by decide)
  have h2 : w.cell? ⟨K, 52, none⟩ = some (.slice none 0 0) := hi 52 (by decide) (by decide) (by decide)
  have h3 : w.cell? ⟨K, 54, none⟩ = some (.slice none 0 0) := hi 54 (by decide) (by decide) (by decide)
  have h4 : w.cell? ⟨K, 55, none⟩ = some (.slice none 0 0) := hi 55 (by decide) (by decide) (by decide)
  clear hi
  go_enter Tryz.func107, Tryz.ntmps107
  go_wp2
  (try simp only [Exit.inBlock, Exit.then])
  refine bodyPost_ret (results_none rfl _ _ _) rfl ?_
  exact ⟨rfl, rfl⟩
theorem growCells_idle (K : Nat) (w : World) (hi : Idle w K) (hf : ∀ o, w.frozen? ⟨K, o, none⟩ = false) :
    Calls Tryz.prog 123 #[.pointer (some ⟨K, 0, none⟩)] w fun e w' => e = .returned (.tuple #[]) ∧ w' = w := by
  have h1 : w.cell? ⟨K, 53, none⟩ = some (.slice none 0 0) := hi 53 (by decide) (by decide) (by decide)
  have h2 : w.cell? ⟨K, 56, none⟩ = some (.slice none 0 0) := hi 56 (by decide) (by decide) (by decide)
  have e1 : w.setCell ⟨K, 53, none⟩ (.slice none 0 0) = w := set_same h1
  have e2 : w.setCell ⟨K, 56, none⟩ (.slice none 0 0) = w := set_same h2
  have HE : Hid ((w.setCell ⟨K, 53, none⟩ (.slice none 0 0)).setCell ⟨K, 56, none⟩ (.slice none 0 0) = w) := by
    show _ = _
    rw [e1, e2]
  clear hi e1 e2
  go_enter Tryz.func123, Tryz.ntmps123
  go_wp2
  go_loopw [2] (fun i wr => i = .int .i64 0 ∧ wr = w) (fun _ _ => 0)
  case atStart => exact ⟨rfl, rfl⟩
  case round =>
    obtain ⟨rfl, rfl⟩ := hrel
    go_wp2
    go_end0
    exact ⟨rfl, HE.out⟩
theorem holdCells_idle (K : Nat) (w : World) (hi : Idle w K) :
    Calls Tryz.prog 45 #[.pointer (some ⟨K, 0, none⟩)] w fun e w' => e = .returned (.bool true) ∧ w' = w := by
  have h1 : w.cell? ⟨K, 49, none⟩ = some (.slice none 0 0) := hi 49 (by decide) (by decide) (by decide)
  have h2 : w.cell? ⟨K, 51, none⟩ = some (.slice none 0 0) := hi 51 (by decide) (by decide) (by decide)
  clear hi
  go_enter Tryz.func45, Tryz.ntmps45
  go_wp2
  go_loopw [3] (fun i wr => i = .int .i64 0 ∧ wr = w) (fun _ _ => 0)
  case atStart => exact ⟨rfl, rfl⟩
  case round =>
    obtain ⟨rfl, rfl⟩ := hrel
    go_wp2
    go_loopw [4] (fun i wz => i = .int .i64 0 ∧ wz = wr) (fun _ _ => 0)
    case atStart => exact ⟨rfl, rfl⟩
    case round =>
      obtain ⟨rfl, rfl⟩ := hrel
      go_wp2
      go_ret
      exact ⟨rfl, rfl⟩
theorem markItems_idle (K : Nat) (w : World) (hi : Idle w K) :
    Calls Tryz.prog 108 #[.pointer (some ⟨K, 0, none⟩)] w fun e w' => e = .returned (.tuple #[]) ∧ w' = w := by
  have h1 : w.cell? ⟨K, 60, none⟩ = some (.slice none 0 0) := hi 60 (by decide) (by decide) (by decide)
  have h2 : w.cell? ⟨K, 61, none⟩ = some (.slice none 0 0) := hi 61 (by decide) (by decide) (by decide)
  have h3 : w.cell? ⟨K, 63, none⟩ = some (.slice none 0 0) := hi 63 (by decide) (by decide) (by decide)
  have h4 : w.cell? ⟨K, 64, none⟩ = some (.slice none 0 0) := hi 64 (by decide) (by decide) (by decide)
  clear hi
  go_enter Tryz.func108, Tryz.ntmps108
  go_wp2
  (try simp only [Exit.inBlock, Exit.then])
  refine bodyPost_ret (results_none rfl _ _ _) rfl ?_
  exact ⟨rfl, rfl⟩
theorem growItems_idle (K : Nat) (w : World) (hi : Idle w K) (hf : ∀ o, w.frozen? ⟨K, o, none⟩ = false) :
    Calls Tryz.prog 124 #[.pointer (some ⟨K, 0, none⟩)] w fun e w' => e = .returned (.tuple #[]) ∧ w' = w := by
  have h1 : w.cell? ⟨K, 62, none⟩ = some (.slice none 0 0) := hi 62 (by decide) (by decide) (by decide)
  have h2 : w.cell? ⟨K, 65, none⟩ = some (.slice none 0 0) := hi 65 (by decide) (by decide) (by decide)
  have e1 : w.setCell ⟨K, 62, none⟩ (.slice none 0 0) = w := set_same h1
  have e2 : w.setCell ⟨K, 65, none⟩ (.slice none 0 0) = w := set_same h2
  have HE : Hid ((w.setCell ⟨K, 62, none⟩ (.slice none 0 0)).setCell ⟨K, 65, none⟩ (.slice none 0 0) = w) := by
    show _ = _
    rw [e1, e2]
  clear hi e1 e2
  go_enter Tryz.func124, Tryz.ntmps124
  go_wp2
  go_loopw [2] (fun i wr => i = .int .i64 0 ∧ wr = w) (fun _ _ => 0)
  case atStart => exact ⟨rfl, rfl⟩
  case round =>
    obtain ⟨rfl, rfl⟩ := hrel
    go_wp2
    go_end0
    exact ⟨rfl, HE.out⟩
theorem holdItems_idle (K : Nat) (w : World) (hi : Idle w K) :
    Calls Tryz.prog 46 #[.pointer (some ⟨K, 0, none⟩)] w fun e w' => e = .returned (.bool true) ∧ w' = w := by
  have h1 : w.cell? ⟨K, 58, none⟩ = some (.slice none 0 0) := hi 58 (by decide) (by decide) (by decide)
  have h2 : w.cell? ⟨K, 60, none⟩ = some (.slice none 0 0) := hi 60 (by decide) (by decide) (by decide)
  clear hi
  go_enter Tryz.func46, Tryz.ntmps46
  go_wp2
  go_loopw [3] (fun i wr => i = .int .i64 0 ∧ wr = w) (fun _ _ => 0)
  case atStart => exact ⟨rfl, rfl⟩
  case round =>
    obtain ⟨rfl, rfl⟩ := hrel
    go_wp2
    go_loopw [4] (fun i wz => i = .int .i64 0 ∧ wz = wr) (fun _ _ => 0)
    case atStart => exact ⟨rfl, rfl⟩
    case round =>
      obtain ⟨rfl, rfl⟩ := hrel
      go_wp2
      go_ret
      exact ⟨rfl, rfl⟩
theorem markEntries_idle (K : Nat) (w : World) (hi : Idle w K) :
    Calls Tryz.prog 109 #[.pointer (some ⟨K, 0, none⟩)] w fun e w' => e = .returned (.tuple #[]) ∧ w' = w := by
  have h1 : w.cell? ⟨K, 69, none⟩ = some (.slice none 0 0) := hi 69 (by decide) (by decide) (by decide)
  have h2 : w.cell? ⟨K, 70, none⟩ = some (.slice none 0 0) := hi 70 (by decide) (by decide) (by decide)
  have h3 : w.cell? ⟨K, 72, none⟩ = some (.slice none 0 0) := hi 72 (by decide) (by decide) (by decide)
  have h4 : w.cell? ⟨K, 73, none⟩ = some (.slice none 0 0) := hi 73 (by decide) (by decide) (by decide)
  clear hi
  go_enter Tryz.func109, Tryz.ntmps109
  go_wp2
  (try simp only [Exit.inBlock, Exit.then])
  refine bodyPost_ret (results_none rfl _ _ _) rfl ?_
  exact ⟨rfl, rfl⟩
theorem growEntries_idle (K : Nat) (w : World) (hi : Idle w K) (hf : ∀ o, w.frozen? ⟨K, o, none⟩ = false) :
    Calls Tryz.prog 125 #[.pointer (some ⟨K, 0, none⟩)] w fun e w' => e = .returned (.tuple #[]) ∧ w' = w := by
  have h1 : w.cell? ⟨K, 71, none⟩ = some (.slice none 0 0) := hi 71 (by decide) (by decide) (by decide)
  have h2 : w.cell? ⟨K, 74, none⟩ = some (.slice none 0 0) := hi 74 (by decide) (by decide) (by decide)
  have e1 : w.setCell ⟨K, 71, none⟩ (.slice none 0 0) = w := set_same h1
  have e2 : w.setCell ⟨K, 74, none⟩ (.slice none 0 0) = w := set_same h2
  have HE : Hid ((w.setCell ⟨K, 71, none⟩ (.slice none 0 0)).setCell ⟨K, 74, none⟩ (.slice none 0 0) = w) := by
    show _ = _
    rw [e1, e2]
  clear hi e1 e2
  go_enter Tryz.func125, Tryz.ntmps125
  go_wp2
  go_loopw [2] (fun i wr => i = .int .i64 0 ∧ wr = w) (fun _ _ => 0)
  case atStart => exact ⟨rfl, rfl⟩
  case round =>
    obtain ⟨rfl, rfl⟩ := hrel
    go_wp2
    go_end0
    exact ⟨rfl, HE.out⟩
theorem holdEntries_idle (K : Nat) (w : World) (hi : Idle w K) :
    Calls Tryz.prog 47 #[.pointer (some ⟨K, 0, none⟩)] w fun e w' => e = .returned (.bool true) ∧ w' = w := by
  have h1 : w.cell? ⟨K, 67, none⟩ = some (.slice none 0 0) := hi 67 (by decide) (by decide) (by decide)
  have h2 : w.cell? ⟨K, 69, none⟩ = some (.slice none 0 0) := hi 69 (by decide) (by decide) (by decide)
  clear hi
  go_enter Tryz.func47, Tryz.ntmps47
  go_wp2
  go_loopw [3] (fun i wr => i = .int .i64 0 ∧ wr = w) (fun _ _ => 0)
  case atStart => exact ⟨rfl, rfl⟩
  case round =>
    obtain ⟨rfl, rfl⟩ := hrel
    go_wp2
    go_loopw [4] (fun i wz => i = .int .i64 0 ∧ wz = wr) (fun _ _ => 0)
    case atStart => exact ⟨rfl, rfl⟩
    case round =>
      obtain ⟨rfl, rfl⟩ := hrel
      go_wp2
      go_ret
      exact ⟨rfl, rfl⟩
theorem markPlaceds_idle (K : Nat) (w : World) (hi : Idle w K) :
    Calls Tryz.prog 110 #[.pointer (some ⟨K, 0, none⟩)] w fun e w' => e = .returned (.tuple #[]) ∧ w' = w := by
  have h1 : w.cell? ⟨K, 78, none⟩ = some (.slice none 0 0) := hi 78 (by decide) (by decide) (by decide)
  have h2 : w.cell? ⟨K, 79, none⟩ = some (.slice none 0 0) := hi 79 (by decide) (by decide) (by decide)
  have h3 : w.cell? ⟨K, 81, none⟩ = some (.slice none 0 0) := hi 81 (by decide) (by decide) (by decide)
  have h4 : w.cell? ⟨K, 82, none⟩ = some (.slice none 0 0) := hi 82 (by decide) (by decide) (by decide)
  clear hi
  go_enter Tryz.func110, Tryz.ntmps110
  go_wp2
  (try simp only [Exit.inBlock, Exit.then])
  refine bodyPost_ret (results_none rfl _ _ _) rfl ?_
  exact ⟨rfl, rfl⟩
theorem growPlaceds_idle (K : Nat) (w : World) (hi : Idle w K) (hf : ∀ o, w.frozen? ⟨K, o, none⟩ = false) :
    Calls Tryz.prog 126 #[.pointer (some ⟨K, 0, none⟩)] w fun e w' => e = .returned (.tuple #[]) ∧ w' = w := by
  have h1 : w.cell? ⟨K, 80, none⟩ = some (.slice none 0 0) := hi 80 (by decide) (by decide) (by decide)
  have h2 : w.cell? ⟨K, 83, none⟩ = some (.slice none 0 0) := hi 83 (by decide) (by decide) (by decide)
  have e1 : w.setCell ⟨K, 80, none⟩ (.slice none 0 0) = w := set_same h1
  have e2 : w.setCell ⟨K, 83, none⟩ (.slice none 0 0) = w := set_same h2
  have HE : Hid ((w.setCell ⟨K, 80, none⟩ (.slice none 0 0)).setCell ⟨K, 83, none⟩ (.slice none 0 0) = w) := by
    show _ = _
    rw [e1, e2]
  clear hi e1 e2
  go_enter Tryz.func126, Tryz.ntmps126
  go_wp2
  go_loopw [2] (fun i wr => i = .int .i64 0 ∧ wr = w) (fun _ _ => 0)
  case atStart => exact ⟨rfl, rfl⟩
  case round =>
    obtain ⟨rfl, rfl⟩ := hrel
    go_wp2
    go_end0
    exact ⟨rfl, HE.out⟩
theorem holdPlaceds_idle (K : Nat) (w : World) (hi : Idle w K) :
    Calls Tryz.prog 48 #[.pointer (some ⟨K, 0, none⟩)] w fun e w' => e = .returned (.bool true) ∧ w' = w := by
  have h1 : w.cell? ⟨K, 76, none⟩ = some (.slice none 0 0) := hi 76 (by decide) (by decide) (by decide)
  have h2 : w.cell? ⟨K, 78, none⟩ = some (.slice none 0 0) := hi 78 (by decide) (by decide) (by decide)
  clear hi
  go_enter Tryz.func48, Tryz.ntmps48
  go_wp2
  go_loopw [3] (fun i wr => i = .int .i64 0 ∧ wr = w) (fun _ _ => 0)
  case atStart => exact ⟨rfl, rfl⟩
  case round =>
    obtain ⟨rfl, rfl⟩ := hrel
    go_wp2
    go_loopw [4] (fun i wz => i = .int .i64 0 ∧ wz = wr) (fun _ _ => 0)
    case atStart => exact ⟨rfl, rfl⟩
    case round =>
      obtain ⟨rfl, rfl⟩ := hrel
      go_wp2
      go_ret
      exact ⟨rfl, rfl⟩
theorem markRules_idle (K : Nat) (w : World) (hi : Idle w K) :
    Calls Tryz.prog 111 #[.pointer (some ⟨K, 0, none⟩)] w fun e w' => e = .returned (.tuple #[]) ∧ w' = w := by
  have h1 : w.cell? ⟨K, 87, none⟩ = some (.slice none 0 0) := hi 87 (by decide) (by decide) (by decide)
  have h2 : w.cell? ⟨K, 88, none⟩ = some (.slice none 0 0) := hi 88 (by decide) (by decide) (by decide)
  have h3 : w.cell? ⟨K, 90, none⟩ = some (.slice none 0 0) := hi 90 (by decide) (by decide) (by decide)
  have h4 : w.cell? ⟨K, 91, none⟩ = some (.slice none 0 0) := hi 91 (by decide) (by decide) (by decide)
  clear hi
  go_enter Tryz.func111, Tryz.ntmps111
  go_wp2
  (try simp only [Exit.inBlock, Exit.then])
  refine bodyPost_ret (results_none rfl _ _ _) rfl ?_
  exact ⟨rfl, rfl⟩
theorem growRules_idle (K : Nat) (w : World) (hi : Idle w K) (hf : ∀ o, w.frozen? ⟨K, o, none⟩ = false) :
    Calls Tryz.prog 127 #[.pointer (some ⟨K, 0, none⟩)] w fun e w' => e = .returned (.tuple #[]) ∧ w' = w := by
  have h1 : w.cell? ⟨K, 89, none⟩ = some (.slice none 0 0) := hi 89 (by decide) (by decide) (by decide)
  have h2 : w.cell? ⟨K, 92, none⟩ = some (.slice none 0 0) := hi 92 (by decide) (by decide) (by decide)
  have e1 : w.setCell ⟨K, 89, none⟩ (.slice none 0 0) = w := set_same h1
  have e2 : w.setCell ⟨K, 92, none⟩ (.slice none 0 0) = w := set_same h2
  have HE : Hid ((w.setCell ⟨K, 89, none⟩ (.slice none 0 0)).setCell ⟨K, 92, none⟩ (.slice none 0 0) = w) := by
    show _ = _
    rw [e1, e2]
  clear hi e1 e2
  go_enter Tryz.func127, Tryz.ntmps127
  go_wp2
  go_loopw [2] (fun i wr => i = .int .i64 0 ∧ wr = w) (fun _ _ => 0)
  case atStart => exact ⟨rfl, rfl⟩
  case round =>
    obtain ⟨rfl, rfl⟩ := hrel
    go_wp2
    go_end0
    exact ⟨rfl, HE.out⟩
theorem holdRules_idle (K : Nat) (w : World) (hi : Idle w K) :
    Calls Tryz.prog 49 #[.pointer (some ⟨K, 0, none⟩)] w fun e w' => e = .returned (.bool true) ∧ w' = w := by
  have h1 : w.cell? ⟨K, 85, none⟩ = some (.slice none 0 0) := hi 85 (by decide) (by decide) (by decide)
  have h2 : w.cell? ⟨K, 87, none⟩ = some (.slice none 0 0) := hi 87 (by decide) (by decide) (by decide)
  clear hi
  go_enter Tryz.func49, Tryz.ntmps49
  go_wp2
  go_loopw [3] (fun i wr => i = .int .i64 0 ∧ wr = w) (fun _ _ => 0)
  case atStart => exact ⟨rfl, rfl⟩
  case round =>
    obtain ⟨rfl, rfl⟩ := hrel
    go_wp2
    go_loopw [4] (fun i wz => i = .int .i64 0 ∧ wz = wr) (fun _ _ => 0)
    case atStart => exact ⟨rfl, rfl⟩
    case round =>
      obtain ⟨rfl, rfl⟩ := hrel
      go_wp2
      go_ret
      exact ⟨rfl, rfl⟩
theorem markFaults_idle (K : Nat) (w : World) (hi : Idle w K) :
    Calls Tryz.prog 112 #[.pointer (some ⟨K, 0, none⟩)] w fun e w' => e = .returned (.tuple #[]) ∧ w' = w := by
  have h1 : w.cell? ⟨K, 96, none⟩ = some (.slice none 0 0) := hi 96 (by decide) (by decide) (by decide)
  have h2 : w.cell? ⟨K, 97, none⟩ = some (.slice none 0 0) := hi 97 (by decide) (by decide) (by decide)
  have h3 : w.cell? ⟨K, 99, none⟩ = some (.slice none 0 0) := hi 99 (by decide) (by decide) (by decide)
  have h4 : w.cell? ⟨K, 100, none⟩ = some (.slice none 0 0) := hi 100 (by decide) (by decide) (by decide)
  clear hi
  go_enter Tryz.func112, Tryz.ntmps112
  go_wp2
  (try simp only [Exit.inBlock, Exit.then])
  refine bodyPost_ret (results_none rfl _ _ _) rfl ?_
  exact ⟨rfl, rfl⟩
theorem growFaults_idle (K : Nat) (w : World) (hi : Idle w K) (hf : ∀ o, w.frozen? ⟨K, o, none⟩ = false) :
    Calls Tryz.prog 128 #[.pointer (some ⟨K, 0, none⟩)] w fun e w' => e = .returned (.tuple #[]) ∧ w' = w := by
  have h1 : w.cell? ⟨K, 98, none⟩ = some (.slice none 0 0) := hi 98 (by decide) (by decide) (by decide)
  have h2 : w.cell? ⟨K, 101, none⟩ = some (.slice none 0 0) := hi 101 (by decide) (by decide) (by decide)
  have e1 : w.setCell ⟨K, 98, none⟩ (.slice none 0 0) = w := set_same h1
  have e2 : w.setCell ⟨K, 101, none⟩ (.slice none 0 0) = w := set_same h2
  have HE : Hid ((w.setCell ⟨K, 98, none⟩ (.slice none 0 0)).setCell ⟨K, 101, none⟩ (.slice none 0 0) = w) := by
    show _ = _
    rw [e1, e2]
  clear hi e1 e2
  go_enter Tryz.func128, Tryz.ntmps128
  go_wp2
  go_loopw [2] (fun i wr => i = .int .i64 0 ∧ wr = w) (fun _ _ => 0)
  case atStart => exact ⟨rfl, rfl⟩
  case round =>
    obtain ⟨rfl, rfl⟩ := hrel
    go_wp2
    go_end0
    exact ⟨rfl, HE.out⟩
theorem holdFaults_idle (K : Nat) (w : World) (hi : Idle w K) :
    Calls Tryz.prog 50 #[.pointer (some ⟨K, 0, none⟩)] w fun e w' => e = .returned (.bool true) ∧ w' = w := by
  have h1 : w.cell? ⟨K, 94, none⟩ = some (.slice none 0 0) := hi 94 (by decide) (by decide) (by decide)
  have h2 : w.cell? ⟨K, 96, none⟩ = some (.slice none 0 0) := hi 96 (by decide) (by decide) (by decide)
  clear hi
  go_enter Tryz.func50, Tryz.ntmps50
  go_wp2
  go_loopw [3] (fun i wr => i = .int .i64 0 ∧ wr = w) (fun _ _ => 0)
  case atStart => exact ⟨rfl, rfl⟩
  case round =>
    obtain ⟨rfl, rfl⟩ := hrel
    go_wp2
    go_loopw [4] (fun i wz => i = .int .i64 0 ∧ wz = wr) (fun _ _ => 0)
    case atStart => exact ⟨rfl, rfl⟩
    case round =>
      obtain ⟨rfl, rfl⟩ := hrel
      go_wp2
      go_ret
      exact ⟨rfl, rfl⟩
theorem markChunks_idle (K : Nat) (w : World) (hi : Idle w K) :
    Calls Tryz.prog 113 #[.pointer (some ⟨K, 0, none⟩)] w fun e w' => e = .returned (.tuple #[]) ∧ w' = w := by
  have h1 : w.cell? ⟨K, 105, none⟩ = some (.slice none 0 0) := hi 105 (by decide) (by decide) (by decide)
  have h2 : w.cell? ⟨K, 106, none⟩ = some (.slice none 0 0) := hi 106 (by decide) (by decide) (by decide)
  have h3 : w.cell? ⟨K, 108, none⟩ = some (.slice none 0 0) := hi 108 (by decide) (by decide) (by decide)
  have h4 : w.cell? ⟨K, 109, none⟩ = some (.slice none 0 0) := hi 109 (by decide) (by decide) (by decide)
  clear hi
  go_enter Tryz.func113, Tryz.ntmps113
  go_wp2
  (try simp only [Exit.inBlock, Exit.then])
  refine bodyPost_ret (results_none rfl _ _ _) rfl ?_
  exact ⟨rfl, rfl⟩
theorem growChunks_idle (K : Nat) (w : World) (hi : Idle w K) (hf : ∀ o, w.frozen? ⟨K, o, none⟩ = false) :
    Calls Tryz.prog 129 #[.pointer (some ⟨K, 0, none⟩)] w fun e w' => e = .returned (.tuple #[]) ∧ w' = w := by
  have h1 : w.cell? ⟨K, 107, none⟩ = some (.slice none 0 0) := hi 107 (by decide) (by decide) (by decide)
  have h2 : w.cell? ⟨K, 110, none⟩ = some (.slice none 0 0) := hi 110 (by decide) (by decide) (by decide)
  have e1 : w.setCell ⟨K, 107, none⟩ (.slice none 0 0) = w := set_same h1
  have e2 : w.setCell ⟨K, 110, none⟩ (.slice none 0 0) = w := set_same h2
  have HE : Hid ((w.setCell ⟨K, 107, none⟩ (.slice none 0 0)).setCell ⟨K, 110, none⟩ (.slice none 0 0) = w) := by
    show _ = _
    rw [e1, e2]
  clear hi e1 e2
  go_enter Tryz.func129, Tryz.ntmps129
  go_wp2
  go_loopw [2] (fun i wr => i = .int .i64 0 ∧ wr = w) (fun _ _ => 0)
  case atStart => exact ⟨rfl, rfl⟩
  case round =>
    obtain ⟨rfl, rfl⟩ := hrel
    go_wp2
    go_end0
    exact ⟨rfl, HE.out⟩
theorem holdChunks_idle (K : Nat) (w : World) (hi : Idle w K) :
    Calls Tryz.prog 51 #[.pointer (some ⟨K, 0, none⟩)] w fun e w' => e = .returned (.bool true) ∧ w' = w := by
  have h1 : w.cell? ⟨K, 103, none⟩ = some (.slice none 0 0) := hi 103 (by decide) (by decide) (by decide)
  have h2 : w.cell? ⟨K, 105, none⟩ = some (.slice none 0 0) := hi 105 (by decide) (by decide) (by decide)
  clear hi
  go_enter Tryz.func51, Tryz.ntmps51
  go_wp2
  go_loopw [3] (fun i wr => i = .int .i64 0 ∧ wr = w) (fun _ _ => 0)
  case atStart => exact ⟨rfl, rfl⟩
  case round =>
    obtain ⟨rfl, rfl⟩ := hrel
    go_wp2
    go_loopw [4] (fun i wz => i = .int .i64 0 ∧ wz = wr) (fun _ _ => 0)
    case atStart => exact ⟨rfl, rfl⟩
    case round =>
      obtain ⟨rfl, rfl⟩ := hrel
      go_wp2
      go_ret
      exact ⟨rfl, rfl⟩
theorem markThings_idle (K : Nat) (w : World) (hi : Idle w K) :
    Calls Tryz.prog 114 #[.pointer (some ⟨K, 0, none⟩)] w fun e w' => e = .returned (.tuple #[]) ∧ w' = w := by
  have h1 : w.cell? ⟨K, 114, none⟩ = some (.slice none 0 0) := hi 114 (by decide) (by decide) (by decide)
  have h2 : w.cell? ⟨K, 115, none⟩ = some (.slice none 0 0) := hi 115 (by decide) (by decide) (by decide)
  have h3 : w.cell? ⟨K, 117, none⟩ = some (.slice none 0 0) := hi 117 (by decide) (by decide) (by decide)
  have h4 : w.cell? ⟨K, 118, none⟩ = some (.slice none 0 0) := hi 118 (by decide) (by decide) (by decide)
  clear hi
  go_enter Tryz.func114, Tryz.ntmps114
  go_wp2
  (try simp only [Exit.inBlock, Exit.then])
  refine bodyPost_ret (results_none rfl _ _ _) rfl ?_
  exact ⟨rfl, rfl⟩
theorem growThings_idle (K : Nat) (w : World) (hi : Idle w K) (hf : ∀ o, w.frozen? ⟨K, o, none⟩ = false) :
    Calls Tryz.prog 130 #[.pointer (some ⟨K, 0, none⟩)] w fun e w' => e = .returned (.tuple #[]) ∧ w' = w := by
  have h1 : w.cell? ⟨K, 116, none⟩ = some (.slice none 0 0) := hi 116 (by decide) (by decide) (by decide)
  have h2 : w.cell? ⟨K, 119, none⟩ = some (.slice none 0 0) := hi 119 (by decide) (by decide) (by decide)
  have e1 : w.setCell ⟨K, 116, none⟩ (.slice none 0 0) = w := set_same h1
  have e2 : w.setCell ⟨K, 119, none⟩ (.slice none 0 0) = w := set_same h2
  have HE : Hid ((w.setCell ⟨K, 116, none⟩ (.slice none 0 0)).setCell ⟨K, 119, none⟩ (.slice none 0 0) = w) := by
    show _ = _
    rw [e1, e2]
  clear hi e1 e2
  go_enter Tryz.func130, Tryz.ntmps130
  go_wp2
  go_loopw [2] (fun i wr => i = .int .i64 0 ∧ wr = w) (fun _ _ => 0)
  case atStart => exact ⟨rfl, rfl⟩
  case round =>
    obtain ⟨rfl, rfl⟩ := hrel
    go_wp2
    go_end0
    exact ⟨rfl, HE.out⟩
theorem holdThings_idle (K : Nat) (w : World) (hi : Idle w K) :
    Calls Tryz.prog 52 #[.pointer (some ⟨K, 0, none⟩)] w fun e w' => e = .returned (.bool true) ∧ w' = w := by
  have h1 : w.cell? ⟨K, 112, none⟩ = some (.slice none 0 0) := hi 112 (by decide) (by decide) (by decide)
  have h2 : w.cell? ⟨K, 114, none⟩ = some (.slice none 0 0) := hi 114 (by decide) (by decide) (by decide)
  clear hi
  go_enter Tryz.func52, Tryz.ntmps52
  go_wp2
  go_loopw [3] (fun i wr => i = .int .i64 0 ∧ wr = w) (fun _ _ => 0)
  case atStart => exact ⟨rfl, rfl⟩
  case round =>
    obtain ⟨rfl, rfl⟩ := hrel
    go_wp2
    go_loopw [4] (fun i wz => i = .int .i64 0 ∧ wz = wr) (fun _ _ => 0)
    case atStart => exact ⟨rfl, rfl⟩
    case round =>
      obtain ⟨rfl, rfl⟩ := hrel
      go_wp2
      go_ret
      exact ⟨rfl, rfl⟩
theorem markDones_idle (K : Nat) (w : World) (hi : Idle w K) :
    Calls Tryz.prog 115 #[.pointer (some ⟨K, 0, none⟩)] w fun e w' => e = .returned (.tuple #[]) ∧ w' = w := by
  have h1 : w.cell? ⟨K, 123, none⟩ = some (.slice none 0 0) := hi 123 (by decide) (by decide) (by decide)
  have h2 : w.cell? ⟨K, 124, none⟩ = some (.slice none 0 0) := hi 124 (by decide) (by decide) (by decide)
  have h3 : w.cell? ⟨K, 126, none⟩ = some (.slice none 0 0) := hi 126 (by decide) (by decide) (by decide)
  have h4 : w.cell? ⟨K, 127, none⟩ = some (.slice none 0 0) := hi 127 (by decide) (by decide) (by decide)
  clear hi
  go_enter Tryz.func115, Tryz.ntmps115
  go_wp2
  (try simp only [Exit.inBlock, Exit.then])
  refine bodyPost_ret (results_none rfl _ _ _) rfl ?_
  exact ⟨rfl, rfl⟩
theorem growDones_idle (K : Nat) (w : World) (hi : Idle w K) (hf : ∀ o, w.frozen? ⟨K, o, none⟩ = false) :
    Calls Tryz.prog 131 #[.pointer (some ⟨K, 0, none⟩)] w fun e w' => e = .returned (.tuple #[]) ∧ w' = w := by
  have h1 : w.cell? ⟨K, 125, none⟩ = some (.slice none 0 0) := hi 125 (by decide) (by decide) (by decide)
  have h2 : w.cell? ⟨K, 128, none⟩ = some (.slice none 0 0) := hi 128 (by decide) (by decide) (by decide)
  have e1 : w.setCell ⟨K, 125, none⟩ (.slice none 0 0) = w := set_same h1
  have e2 : w.setCell ⟨K, 128, none⟩ (.slice none 0 0) = w := set_same h2
  have HE : Hid ((w.setCell ⟨K, 125, none⟩ (.slice none 0 0)).setCell ⟨K, 128, none⟩ (.slice none 0 0) = w) := by
    show _ = _
    rw [e1, e2]
  clear hi e1 e2
  go_enter Tryz.func131, Tryz.ntmps131
  go_wp2
  go_loopw [2] (fun i wr => i = .int .i64 0 ∧ wr = w) (fun _ _ => 0)
  case atStart => exact ⟨rfl, rfl⟩
  case round =>
    obtain ⟨rfl, rfl⟩ := hrel
    go_wp2
    go_end0
    exact ⟨rfl, HE.out⟩
theorem holdDones_idle (K : Nat) (w : World) (hi : Idle w K) :
    Calls Tryz.prog 53 #[.pointer (some ⟨K, 0, none⟩)] w fun e w' => e = .returned (.bool true) ∧ w' = w := by
  have h1 : w.cell? ⟨K, 121, none⟩ = some (.slice none 0 0) := hi 121 (by decide) (by decide) (by decide)
  have h2 : w.cell? ⟨K, 123, none⟩ = some (.slice none 0 0) := hi 123 (by decide) (by decide) (by decide)
  clear hi
  go_enter Tryz.func53, Tryz.ntmps53
  go_wp2
  go_loopw [3] (fun i wr => i = .int .i64 0 ∧ wr = w) (fun _ _ => 0)
  case atStart => exact ⟨rfl, rfl⟩
  case round =>
    obtain ⟨rfl, rfl⟩ := hrel
    go_wp2
    go_loopw [4] (fun i wz => i = .int .i64 0 ∧ wz = wr) (fun _ _ => 0)
    case atStart => exact ⟨rfl, rfl⟩
    case round =>
      obtain ⟨rfl, rfl⟩ := hrel
      go_wp2
      go_ret
      exact ⟨rfl, rfl⟩
theorem markNodes_idle (K : Nat) (w : World) (hi : Idle w K) :
    Calls Tryz.prog 116 #[.pointer (some ⟨K, 0, none⟩)] w fun e w' => e = .returned (.tuple #[]) ∧ w' = w := by
  have h1 : w.cell? ⟨K, 132, none⟩ = some (.slice none 0 0) := hi 132 (by decide) (by decide) (by decide)
  have h2 : w.cell? ⟨K, 133, none⟩ = some (.slice none 0 0) := hi 133 (by decide) (by decide) (by decide)
  have h3 : w.cell? ⟨K, 135, none⟩ = some (.slice none 0 0) := hi 135 (by decide) (by decide) (by decide)
  have h4 : w.cell? ⟨K, 136, none⟩ = some (.slice none 0 0) := hi 136 (by decide) (by decide) (by decide)
  clear hi
  go_enter Tryz.func116, Tryz.ntmps116
  go_wp2
  (try simp only [Exit.inBlock, Exit.then])
  refine bodyPost_ret (results_none rfl _ _ _) rfl ?_
  exact ⟨rfl, rfl⟩
theorem growNodes_idle (K : Nat) (w : World) (hi : Idle w K) (hf : ∀ o, w.frozen? ⟨K, o, none⟩ = false) :
    Calls Tryz.prog 132 #[.pointer (some ⟨K, 0, none⟩)] w fun e w' => e = .returned (.tuple #[]) ∧ w' = w := by
  have h1 : w.cell? ⟨K, 134, none⟩ = some (.slice none 0 0) := hi 134 (by decide) (by decide) (by decide)
  have h2 : w.cell? ⟨K, 137, none⟩ = some (.slice none 0 0) := hi 137 (by decide) (by decide) (by decide)
  have e1 : w.setCell ⟨K, 134, none⟩ (.slice none 0 0) = w := set_same h1
  have e2 : w.setCell ⟨K, 137, none⟩ (.slice none 0 0) = w := set_same h2
  have HE : Hid ((w.setCell ⟨K, 134, none⟩ (.slice none 0 0)).setCell ⟨K, 137, none⟩ (.slice none 0 0) = w) := by
    show _ = _
    rw [e1, e2]
  clear hi e1 e2
  go_enter Tryz.func132, Tryz.ntmps132
  go_wp2
  go_loopw [2] (fun i wr => i = .int .i64 0 ∧ wr = w) (fun _ _ => 0)
  case atStart => exact ⟨rfl, rfl⟩
  case round =>
    obtain ⟨rfl, rfl⟩ := hrel
    go_wp2
    go_end0
    exact ⟨rfl, HE.out⟩
theorem holdNodes_idle (K : Nat) (w : World) (hi : Idle w K) :
    Calls Tryz.prog 54 #[.pointer (some ⟨K, 0, none⟩)] w fun e w' => e = .returned (.bool true) ∧ w' = w := by
  have h1 : w.cell? ⟨K, 130, none⟩ = some (.slice none 0 0) := hi 130 (by decide) (by decide) (by decide)
  have h2 : w.cell? ⟨K, 132, none⟩ = some (.slice none 0 0) := hi 132 (by decide) (by decide) (by decide)
  clear hi
  go_enter Tryz.func54, Tryz.ntmps54
  go_wp2
  go_loopw [3] (fun i wr => i = .int .i64 0 ∧ wr = w) (fun _ _ => 0)
  case atStart => exact ⟨rfl, rfl⟩
  case round =>
    obtain ⟨rfl, rfl⟩ := hrel
    go_wp2
    go_loopw [4] (fun i wz => i = .int .i64 0 ∧ wz = wr) (fun _ _ => 0)
    case atStart => exact ⟨rfl, rfl⟩
    case round =>
      obtain ⟨rfl, rfl⟩ := hrel
      go_wp2
      go_ret
      exact ⟨rfl, rfl⟩
theorem markSteps_idle (K : Nat) (w : World) (hi : Idle w K) :
    Calls Tryz.prog 117 #[.pointer (some ⟨K, 0, none⟩)] w fun e w' => e = .returned (.tuple #[]) ∧ w' = w := by
  have h1 : w.cell? ⟨K, 141, none⟩ = some (.slice none 0 0) := hi 141 (by decide) (by decide) (by decide)
  have h2 : w.cell? ⟨K, 142, none⟩ = some (.slice none 0 0) := hi 142 (by decide) (by decide) (by decide)
  have h3 : w.cell? ⟨K, 144, none⟩ = some (.slice none 0 0) := hi 144 (by decide) (by decide) (by decide)
  have h4 : w.cell? ⟨K, 145, none⟩ = some (.slice none 0 0) := hi 145 (by decide) (by decide) (by decide)
  clear hi
  go_enter Tryz.func117, Tryz.ntmps117
  go_wp2
  (try simp only [Exit.inBlock, Exit.then])
  refine bodyPost_ret (results_none rfl _ _ _) rfl ?_
  exact ⟨rfl, rfl⟩
theorem growSteps_idle (K : Nat) (w : World) (hi : Idle w K) (hf : ∀ o, w.frozen? ⟨K, o, none⟩ = false) :
    Calls Tryz.prog 133 #[.pointer (some ⟨K, 0, none⟩)] w fun e w' => e = .returned (.tuple #[]) ∧ w' = w := by
  have h1 : w.cell? ⟨K, 143, none⟩ = some (.slice none 0 0) := hi 143 (by decide) (by decide) (by decide)
  have h2 : w.cell? ⟨K, 146, none⟩ = some (.slice none 0 0) := hi 146 (by decide) (by decide) (by decide)
  have e1 : w.setCell ⟨K, 143, none⟩ (.slice none 0 0) = w := set_same h1
  have e2 : w.setCell ⟨K, 146, none⟩ (.slice none 0 0) = w := set_same h2
  have HE : Hid ((w.setCell ⟨K, 143, none⟩ (.slice none 0 0)).setCell ⟨K, 146, none⟩ (.slice none 0 0) = w) := by
    show _ = _
    rw [e1, e2]
  clear hi e1 e2
  go_enter Tryz.func133, Tryz.ntmps133
  go_wp2
  go_loopw [2] (fun i wr => i = .int .i64 0 ∧ wr = w) (fun _ _ => 0)
  case atStart => exact ⟨rfl, rfl⟩
  case round =>
    obtain ⟨rfl, rfl⟩ := hrel
    go_wp2
    go_end0
    exact ⟨rfl, HE.out⟩
theorem holdSteps_idle (K : Nat) (w : World) (hi : Idle w K) :
    Calls Tryz.prog 55 #[.pointer (some ⟨K, 0, none⟩)] w fun e w' => e = .returned (.bool true) ∧ w' = w := by
  have h1 : w.cell? ⟨K, 139, none⟩ = some (.slice none 0 0) := hi 139 (by decide) (by decide) (by decide)
  have h2 : w.cell? ⟨K, 141, none⟩ = some (.slice none 0 0) := hi 141 (by decide) (by decide) (by decide)
  clear hi
  go_enter Tryz.func55, Tryz.ntmps55
  go_wp2
  go_loopw [3] (fun i wr => i = .int .i64 0 ∧ wr = w) (fun _ _ => 0)
  case atStart => exact ⟨rfl, rfl⟩
  case round =>
    obtain ⟨rfl, rfl⟩ := hrel
    go_wp2
    go_loopw [4] (fun i wz => i = .int .i64 0 ∧ wz = wr) (fun _ _ => 0)
    case atStart => exact ⟨rfl, rfl⟩
    case round =>
      obtain ⟨rfl, rfl⟩ := hrel
      go_wp2
      go_ret
      exact ⟨rfl, rfl⟩
end Go.Proofs.YtbjjbgaomoihaaaGreatDoor.Bk
