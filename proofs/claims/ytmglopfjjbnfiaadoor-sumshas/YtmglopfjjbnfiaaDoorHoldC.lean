/-
  THE ROOM'S Hold with many lists of bytes and one list of lists.
-/
import Derived.Test.YtmglopfjjbnfiaaDoorLayC
namespace Go.Proofs.YtmglopfjjbnfiaaDoor
open Go.RowKit

set_option maxHeartbeats 1600000 in
set_option maxRecDepth 100000 in
theorem holdBytesM_any (lo R : Nat) (z : Nat → Value) (ls : List Rl) (hB hA : Value) (w : World) (h : RoomM w lo R z ls hB hA) (hn : ls.length ≤ 1048576) :
    Calls Tryd.prog 44 #[.pointer (some ⟨R, 0, none⟩)] w fun e w' => e = .returned (.bool true) ∧ w' = w := by
  obtain ⟨oB, cB, eB⟩ := row_form h.rows
  obtain ⟨oA, cA, eA⟩ := row_form h.ats
  subst eB eA
  have q0 := h.c0
  have q1 := h.c1
  have HR : Hid (RoomM w lo R z ls (.slice oB ls.length cB) (.slice oA ls.length cA)) := h
  have C := fun i W hi => lot_any i W hi
  obtain ⟨n, hnn⟩ : ∃ n, n = ls.length := ⟨_, rfl⟩
  have HN : Hid (n = ls.length) := hnn
  rw [← hnn] at hn q0 q1
  clear h hnn
  go_enter Tryd.func44, Tryd.ntmps44
  go_wp2
  go_loopw [3] (fun i wr => ∃ k : Nat, k ≤ n ∧ i = .int .i64 k ∧ wr = w) (fun i _ => n - iOf i)
  case atStart => exact ⟨0, by omega, rfl, rfl⟩
  case round =>
    obtain ⟨k, hk, rfl, rfl⟩ := hrel
    by_cases hlt : k < n
    · have hkI : (k : Int) < (n : Int) := by omega
      have hkl : k < ls.length := by have := HN.out; omega
      obtain ⟨gB, cB', e1, b1⟩ := row_atM (xs := ls.map Rl.row) (by rw [List.length_map]; exact HR.out.rows) (j := k) (by simpa using hkl)
      obtain ⟨gA, cA', e2, b2⟩ := row_atM (xs := ls.map Rl.at) (by rw [List.length_map]; exact HR.out.ats) (j := k) (by simpa using hkl)
      rw [List.getElem_map] at b1 b2
      obtain ⟨_, _, _, _, _, e6, e7, HM0⟩ := HR.out.each _ (List.getElem_mem hkl)
      obtain ⟨x, hx⟩ : ∃ x, x = ls[k] := ⟨_, rfl⟩
      rw [← hx] at b1 b2 e6 e7 HM0
      obtain ⟨g, m, c⟩ := x
      simp only [Rl.row, Rl.at] at b1 b2 e6 e7 HM0
      simp only [Value.slice.injEq] at e1 e2
      obtain ⟨rfl, _⟩ := e1
      obtain ⟨rfl, _⟩ := e2
      have HM : Hid (∀ i, i < 4 → wr.cell? ⟨g, m + i, none⟩ = some (vb (lotB i))) := HM0
      clear HM0 hx
      go_wp2
      go_loopw [5] (fun y wz => ∃ p : Nat, p ≤ 4 ∧ y = .int .i64 ((m + p : Nat) : Int) ∧ wz = wr) (fun y _ => m + 4 - iOf y)
      case atStart => exact ⟨0, by omega, rfl, rfl⟩
      case round =>
        obtain ⟨p, hp, rfl, rfl⟩ := hrel
        by_cases hp4 : p < 4
        · have i1 : (p : Int) < 4 := by omega
          have hc := HM.out p hp4
          have CW := C p wr (by omega)
          have e1 : (m : Int) + (p : Int) - (m : Int) = (p : Int) := by omega
          unfold vb at hc
          generalize lotB p = x at *
          go_wp2_with (go_at_call 63; refine CW.mono ?_; rintro e w2 ⟨z, rfl, e2, hz⟩; subst e2)
          go_roundw
          case rel => exact ⟨p + 1, by omega, by go_num, by simp⟩
          case measure => simp; omega
        · have i1 : ¬ ((p : Int) < 4) := by omega
          go_wp2
          go_roundw
          case rel => exact ⟨k + 1, by omega, by go_num, by simp⟩
          case measure => simp; omega
    · have hkI : ¬ (k : Int) < (n : Int) := by omega
      go_wp2
      go_ret
      exact ⟨rfl, rfl⟩

def lotZ (i : Nat) : Int := if i % 2 = 0 then -7701 else -7702
theorem lotZ_mod (i : Nat) : lotZ i % 256 = (lotB i : Int) := by unfold lotZ lotB; split <;> decide
set_option maxHeartbeats 800000 in
set_option maxRecDepth 100000 in
theorem lot_at (i : Nat) (w : World) (hi : i ≤ 1000000) :
    Calls Tryd.prog 63 #[.int .i64 i] w fun e w' => e = .returned (.int .i64 (lotZ i)) ∧ w' = w := by
  by_cases c : i % 2 = 0
  · have e : lotZ i = -7701 := by unfold lotZ; rw [if_pos c]
    rw [e]
    go_enter Tryd.func63, Tryd.ntmps63
    go_wp2
    go_ret
    exact ⟨rfl, rfl⟩
  · have e : lotZ i = -7702 := by unfold lotZ; rw [if_neg c]
    rw [e]
    go_enter Tryd.func63, Tryd.ntmps63
    go_wp2
    go_ret
    exact ⟨rfl, rfl⟩

set_option maxHeartbeats 1600000 in
set_option maxRecDepth 100000 in
theorem holdChunks_any (R gv n capv bc cc ba ca : Nat) (w : World) (h16 : w.cell? ⟨R, 16, none⟩ = some (.slice (some ⟨bc, 0, none⟩) 1 cc)) (h17 : w.cell? ⟨R, 17, none⟩ = some (.slice (some ⟨ba, 0, none⟩) 1 ca))
    (hbc : w.cell? ⟨bc, 0, none⟩ = some (.slice (some ⟨gv, 0, none⟩) (n + 40) capv)) (hba : w.cell? ⟨ba, 0, none⟩ = some (.int .i64 n)) (hm : ∀ i, i < 40 → ∃ m, w.cell? ⟨gv, n + i, none⟩ = some (.slice (some ⟨m, 0, none⟩) 1 1) ∧ w.cell? ⟨m, 0, none⟩ = some (vb (lotB i))) (hn : n ≤ 1048576) :
    Calls Tryd.prog 52 #[.pointer (some ⟨R, 0, none⟩)] w fun e w' => e = .returned (.bool true) ∧ ∃ j, w' = w.drewN j := by
  have HM : Hid (∀ wr : World, wr.heap = w.heap → wr.cell? ⟨R, 16, none⟩ = some (.slice (some ⟨bc, 0, none⟩) 1 cc) ∧ wr.cell? ⟨R, 17, none⟩ = some (.slice (some ⟨ba, 0, none⟩) 1 ca) ∧ wr.cell? ⟨bc, 0, none⟩ = some (.slice (some ⟨gv, 0, none⟩) (n + 40) capv) ∧ wr.cell? ⟨ba, 0, none⟩ = some (.int .i64 n) ∧
      ∀ i, i < 40 → ∃ m, wr.cell? ⟨gv, n + i, none⟩ = some (.slice (some ⟨m, 0, none⟩) 1 1) ∧ wr.cell? ⟨m, 0, none⟩ = some (vb (lotB i))) := fun wr he => by
    have e : ∀ (b o : Nat) x, w.cell? ⟨b, o, none⟩ = some x → wr.cell? ⟨b, o, none⟩ = some x := fun b o x h => cell_block (by rw [he]) h
    exact ⟨e _ _ _ h16, e _ _ _ h17, e _ _ _ hbc, e _ _ _ hba, fun i hi => by obtain ⟨m, a, b⟩ := hm i hi; exact ⟨m, e _ _ _ a, e _ _ _ b⟩⟩
  clear hm h16 h17 hbc hba
  obtain ⟨h16, h17, hbc, hba, _⟩ := HM.out w rfl
  go_enter Tryd.func52, Tryd.ntmps52
  go_wp2
  go_loopw [3] (fun i wr => ∃ k : Nat, k ≤ 1 ∧ i = .int .i64 k ∧ Hid (∃ m, wr = w.drewN m)) (fun i _ => 1 - iOf i)
  case atStart => exact ⟨0, by omega, rfl, ⟨0, rfl⟩⟩
  case round =>
    obtain ⟨k, hk, rfl, HW⟩ := hrel
    clear h16 h17 hbc hba
    obtain ⟨h16, h17, hbc, hba, _⟩ := HM.out wr (by obtain ⟨m, hm⟩ := HW.out; rw [hm]; rfl)
    by_cases hk0 : k = 0
    · subst hk0
      rw [show ((0 : Nat) : Int) = 0 from rfl]
      go_wp2
      go_loopw [5] (fun y wz => ∃ p : Nat, p ≤ 40 ∧ y = .int .i64 ((n + p : Nat) : Int) ∧ Hid (∃ m, wz = w.drewN m)) (fun y _ => n + 40 - iOf y)
      case atStart => exact ⟨0, by omega, rfl, HW.out⟩
      case round =>
        obtain ⟨p, hp, rfl, HW⟩ := hrel
        clear h16 h17 hbc hba
        obtain ⟨h16, h17, hbc, hba, hmm⟩ := HM.out wr (by obtain ⟨m, hm⟩ := HW.out; rw [hm]; rfl)
        by_cases hp4 : p < 40
        · have i1 : (p : Int) < 40 := by omega
          obtain ⟨m, hc1, hc⟩ := hmm p hp4
          clear hmm
          have e1 : (n : Int) + (p : Int) - (n : Int) = (p : Int) := by omega
          unfold vb at hc
          have hz := lotZ_mod p
          have K63 : Hid (∀ j, Calls Tryd.prog 63 #[.int .i64 p] (wr.drewN j) fun e w' => e = .returned (.int .i64 (lotZ p)) ∧ ∃ i, w' = (wr.drewN j).drewN i) := fun j => (lot_at p _ (by omega)).mono fun e w' ⟨q1, q2⟩ => ⟨q1, 0, q2⟩
          generalize lotZ p = zz at *
          generalize lotB p = x at *
          have hne : ((x : Int) != (x : Int)) = false := by simp
          go_upto_region 9 with fail
          go_quiet ((go_at_call 63; exact Calls.quiet_of (K63.out _)))
          go_wp2_with fail
          go_roundw
          case rel => exact ⟨p + 1, by omega, by go_num, by obtain ⟨i, hi⟩ := HW.out; exact ⟨i + nq, by rw [hi, World.drewN_drewN]⟩⟩
          case measure => simp; omega
        · have i1 : ¬ ((p : Int) < 40) := by omega
          clear hmm
          go_wp2
          go_roundw
          case rel => exact ⟨1, by omega, by go_num, HW.out⟩
          case measure => simp
    · obtain rfl : k = 1 := by omega
      go_wp2
      go_ret
      exact ⟨rfl, HW.out⟩
end Go.Proofs.YtmglopfjjbnfiaaDoor
