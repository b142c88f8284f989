/-
  The Book's Hold; its done by the contracts of marks and grows.
-/
import Derived.Test.YtnhnggnldhmepabGreatDoorMarks
import Derived.Test.YtnhnggnldhmepabGreatDoorSameT
namespace Go.Proofs.YtnhnggnldhmepabGreatDoor
open Go.RowKit

/-- A list that is kept: its value, the value of what it must hold, what that is. -/
structure Ot where
  v : Value
  tv : Value
  c : List ByteArray

/-- It holds what it must. -/
def Ot.ok (w : World) (x : Ot) : Prop := HasT w x.v x.c ∧ HasT w x.tv x.c ∧ x.c.length ≤ 1048576

theorem row_form {w : World} {lo e n : Nat} {v : Value} {xs : List Value} (h : w.ownsRow lo e 1 v n xs) : ∃ o c, v = .slice o n c := by
  obtain ⟨_, h | ⟨g, cap, cur, hv, _⟩⟩ := h
  · exact ⟨none, 0, by rw [h.1, h.2]⟩
  · exact ⟨_, cap, hv⟩
theorem row_at {w : World} {lo e : Nat} {v : Value} {xs : List Value} (h : w.ownsRow lo e 1 v xs.length xs) {j : Nat} (hj : j < xs.length) :
    ∃ g cap, v = .slice (some ⟨g, 0, none⟩) xs.length cap ∧ w.cell? ⟨g, j, none⟩ = some (xs[j]) := by
  have h0 := h
  obtain ⟨_, h | ⟨g, cap, cur, hv, _⟩⟩ := h
  · omega
  · subst hv
    refine ⟨g, cap, rfl, ?_⟩
    have := World.ownsRow.cells h0 (g := g) rfl j xs[j] (List.getElem?_eq_getElem hj)
    rwa [show (⟨g, 0, none⟩ : Addr).add j = ⟨g, j, none⟩ from by
      unfold Addr.add; split
      · rename_i e; rw [e]
      · simp] at this

set_option maxHeartbeats 1600000 in
set_option maxRecDepth 100000 in
theorem bookHold_texts (lo K : Nat) (os ws : List Ot) (hO hT hW hN : Value) (w : World) (c4 : w.cell? ⟨K, 22, none⟩ = some hO) (c5 : w.cell? ⟨K, 23, none⟩ = some hT) (c6 : w.cell? ⟨K, 24, none⟩ = some hW) (c7 : w.cell? ⟨K, 25, none⟩ = some hN)
    (rO : w.ownsRow lo 27 1 hO os.length (os.map Ot.v)) (rT : w.ownsRow lo 27 1 hT os.length (os.map Ot.tv)) (rW : w.ownsRow lo 27 1 hW ws.length (ws.map Ot.v)) (rN : w.ownsRow lo 27 1 hN ws.length (ws.map Ot.tv))
    (hos : ∀ x ∈ os, x.ok w) (hws : ∀ x ∈ ws, x.ok w) (hol : os.length ≤ 1000000) (hwl : ws.length ≤ 1000000) :
    Calls Tryz.prog 25 #[.pointer (some ⟨K, 0, none⟩)] w fun e w' => e = .returned (.bool true) ∧ ∃ n, w' = w.drewN n := by
  obtain ⟨oO, kO, eO⟩ := row_form rO
  obtain ⟨oT, kT, eT⟩ := row_form rT
  obtain ⟨oW, kW, eW⟩ := row_form rW
  obtain ⟨oN, kN, eN⟩ := row_form rN
  subst eO eT eW eN
  have RO : Hid (w.ownsRow lo 27 1 (.slice oO os.length kO) os.length (os.map Ot.v)) := rO
  have RT : Hid (w.ownsRow lo 27 1 (.slice oT os.length kT) os.length (os.map Ot.tv)) := rT
  have RW : Hid (w.ownsRow lo 27 1 (.slice oW ws.length kW) ws.length (ws.map Ot.v)) := rW
  have RN : Hid (w.ownsRow lo 27 1 (.slice oN ws.length kN) ws.length (ws.map Ot.tv)) := rN
  have HS : Hid (∀ x ∈ os, x.ok w) := hos
  have HS2 : Hid (∀ x ∈ ws, x.ok w) := hws
  clear rO rT rW rN hos hws
  go_enter Tryz.func25, Tryz.ntmps25
  go_wp2
  go_loopw [3] (fun i wr => ∃ k : Nat, k ≤ os.length ∧ i = .int .i64 k ∧ Hid (∃ n, wr = w.drewN n)) (fun i _ => os.length - iOf i)
  case atStart => exact ⟨0, Nat.zero_le _, rfl, ⟨0, rfl⟩⟩
  case round =>
    obtain ⟨k, hk, rfl, HW⟩ := hrel
    have hz : wr.heap = w.heap := by
      obtain ⟨n, hn⟩ := HW.out
      rw [hn]; rfl
    have HZ : Hid (wr.heap = w.heap) := hz
    have cc : ∀ o y, w.cell? ⟨K, o, none⟩ = some y → wr.cell? ⟨K, o, none⟩ = some y := fun o y h => by
      simp only [World.cell?, hz] at h ⊢; exact h
    have d4 := cc _ _ c4
    have d5 := cc _ _ c5
    have d6 := cc _ _ c6
    have d7 := cc _ _ c7
    clear cc hz
    by_cases hlt : k < os.length
    · obtain ⟨gB, cB, eB, qB⟩ := row_at (xs := os.map Ot.v) (by simpa using RO.out) (j := k) (by simpa using hlt)
      obtain ⟨gA, cA, eA, qA⟩ := row_at (xs := os.map Ot.tv) (by simpa using RT.out) (j := k) (by simpa using hlt)
      simp at eB eA
      obtain ⟨rfl, rfl⟩ := eB
      obtain ⟨rfl, rfl⟩ := eA
      obtain ⟨x, hx⟩ : ∃ x, os[k] = x := ⟨_, rfl⟩
      obtain ⟨hv, ht, hl⟩ := HS.out x (hx ▸ List.getElem_mem hlt)
      simp [hx] at qB qA
      have qB' : wr.cell? ⟨gB, k, none⟩ = some x.v := by simp only [World.cell?, HZ.out] at qB ⊢; exact qB
      have qA' : wr.cell? ⟨gA, k, none⟩ = some x.tv := by simp only [World.cell?, HZ.out] at qA ⊢; exact qA
      have C : Hid (∀ wz : World, wz.heap = w.heap → Calls Tryz.prog 60 #[x.v, x.tv] wz fun e w' => e = .returned (.bool true) ∧ w' = wz) := fun wz hz => by
        exact sameTexts_eq x.v x.tv x.c wz (hv.block fun a _ => by simp [World.cell?, hz]) (ht.block fun a _ => by simp [World.cell?, hz]) hl
      clear hv ht hl hx
      go_wp2_with fail
      go_quiet ((go_at_call 60; exact Calls.quiet_of_same (C.out _ (by exact HZ.out))))
      go_wp2
      go_roundw
      case rel => exact ⟨k + 1, by omega, by go_num, by obtain ⟨n, hn⟩ := HW.out; subst hn; exact ⟨_, World.drewN_drewN _ _ _⟩⟩
      case measure => simp; omega
    · go_wp2
      go_loopw [4] (fun i wz => ∃ k : Nat, k ≤ ws.length ∧ i = .int .i64 k ∧ Hid (∃ n, wz = w.drewN n)) (fun i _ => ws.length - iOf i)
      case atStart => exact ⟨0, Nat.zero_le _, rfl, HW⟩
      case round =>
        obtain ⟨k, hk, rfl, HW⟩ := hrel
        have hz : wr.heap = w.heap := by
          obtain ⟨n, hn⟩ := HW.out
          rw [hn]; rfl
        have HZ : Hid (wr.heap = w.heap) := hz
        have cc : ∀ o y, w.cell? ⟨K, o, none⟩ = some y → wr.cell? ⟨K, o, none⟩ = some y := fun o y h => by
          simp only [World.cell?, hz] at h ⊢; exact h
        have d4 := cc _ _ c4
        have d5 := cc _ _ c5
        have d6 := cc _ _ c6
        have d7 := cc _ _ c7
        clear cc hz
        by_cases hlt : k < ws.length
        · obtain ⟨gB, cB, eB, qB⟩ := row_at (xs := ws.map Ot.v) (by simpa using RW.out) (j := k) (by simpa using hlt)
          obtain ⟨gA, cA, eA, qA⟩ := row_at (xs := ws.map Ot.tv) (by simpa using RN.out) (j := k) (by simpa using hlt)
          simp at eB eA
          obtain ⟨rfl, rfl⟩ := eB
          obtain ⟨rfl, rfl⟩ := eA
          obtain ⟨x, hx⟩ : ∃ x, ws[k] = x := ⟨_, rfl⟩
          obtain ⟨hv, ht, hl⟩ := HS2.out x (hx ▸ List.getElem_mem hlt)
          simp [hx] at qB qA
          have qB' : wr.cell? ⟨gB, k, none⟩ = some x.v := by simp only [World.cell?, HZ.out] at qB ⊢; exact qB
          have qA' : wr.cell? ⟨gA, k, none⟩ = some x.tv := by simp only [World.cell?, HZ.out] at qA ⊢; exact qA
          have C : Hid (∀ wz : World, wz.heap = w.heap → Calls Tryz.prog 60 #[x.v, x.tv] wz fun e w' => e = .returned (.bool true) ∧ w' = wz) := fun wz hz => by
            exact sameTexts_eq x.v x.tv x.c wz (hv.block fun a _ => by simp [World.cell?, hz]) (ht.block fun a _ => by simp [World.cell?, hz]) hl
          clear hv ht hl hx
          go_wp2_with fail
          go_quiet ((go_at_call 60; exact Calls.quiet_of_same (C.out _ (by exact HZ.out))))
          go_wp2
          go_roundw
          case rel => exact ⟨k + 1, by omega, by go_num, by obtain ⟨n, hn⟩ := HW.out; subst hn; exact ⟨_, World.drewN_drewN _ _ _⟩⟩
          case measure => simp; omega
        · go_wp2
          go_ret
          exact ⟨rfl, HW.out⟩

theorem bookHold_any (lo K : Nat) (os ws : List Ot) (hO hT hW hN : Value) (w : World) (hbad : w.cell? ⟨K, 1, none⟩ = some (.bool false)) (hi : Idle w K)
    (c4 : w.cell? ⟨K, 22, none⟩ = some hO) (c5 : w.cell? ⟨K, 23, none⟩ = some hT) (c6 : w.cell? ⟨K, 24, none⟩ = some hW) (c7 : w.cell? ⟨K, 25, none⟩ = some hN)
    (rO : w.ownsRow lo 27 1 hO os.length (os.map Ot.v)) (rT : w.ownsRow lo 27 1 hT os.length (os.map Ot.tv)) (rW : w.ownsRow lo 27 1 hW ws.length (ws.map Ot.v)) (rN : w.ownsRow lo 27 1 hN ws.length (ws.map Ot.tv))
    (hos : ∀ x ∈ os, x.ok w) (hws : ∀ x ∈ ws, x.ok w) (hol : os.length ≤ 1000000) (hwl : ws.length ≤ 1000000) :
    Calls Tryz.prog 9 #[.pointer (some ⟨K, 0, none⟩)] w fun e w' => e = .returned (.bool true) ∧ ∃ n, w' = w.drewN n :=
  hold_by K w (fun w' => ∃ n, w' = w.drewN n) (bookHold_texts lo K os ws hO hT hW hN w c4 c5 c6 c7 rO rT rW rN hos hws hol hwl) (fun w' h => by obtain ⟨n, rfl⟩ := h; exact hi) hi hbad

set_option maxHeartbeats 1600000 in
set_option maxRecDepth 100000 in
theorem done_by (K turn : Nat) (w : World) (Q1 Q2 : World → Prop) (h3 : w.cell? ⟨K, 3, none⟩ = some (.int .i64 1)) (hf : ∀ o, w.frozen? ⟨K, o, none⟩ = false) (ht : turn ≤ 1000000)
    (hM : Calls Tryz.prog 77 #[.pointer (some ⟨K, 0, none⟩)] (w.setCell ⟨K, 3, none⟩ (.int .i64 0)) fun e w' => e = .returned (.tuple #[]) ∧ Q1 w')
    (hG : ∀ w1, Q1 w1 → Calls Tryz.prog 78 #[.pointer (some ⟨K, 0, none⟩)] w1 fun e w' => e = .returned (.tuple #[]) ∧ Q2 w')
    (hT : ∀ w2, Q2 w2 → w2.cell? ⟨K, 2, none⟩ = some (.int .i64 turn) ∧ ∀ o, w2.frozen? ⟨K, o, none⟩ = false) :
    Calls Tryz.prog 47 #[.pointer (some ⟨K, 0, none⟩)] w fun e w' => e = .returned (.tuple #[]) ∧ ∃ w2, Q2 w2 ∧ w' = w2.setCell ⟨K, 2, none⟩ (.int .i64 (turn + 1 : Nat)) := by
  have HG : Hid (∀ w1, Q1 w1 → Calls Tryz.prog 78 #[.pointer (some ⟨K, 0, none⟩)] w1 fun e w' => e = .returned (.tuple #[]) ∧ Q2 w') := hG
  have HT : Hid (∀ w2, Q2 w2 → w2.cell? ⟨K, 2, none⟩ = some (.int .i64 turn) ∧ ∀ o, w2.frozen? ⟨K, o, none⟩ = false) := hT
  have HM : Hid (Calls Tryz.prog 77 #[.pointer (some ⟨K, 0, none⟩)] (w.setCell ⟨K, 3, none⟩ (.int .i64 0)) fun e w' => e = .returned (.tuple #[]) ∧ Q1 w') := hM
  clear hM hG hT
  go_enter Tryz.func47, Tryz.ntmps47
  go_wp2_with fail
  refine HM.out.mono ?_
  rintro e w1 ⟨rfl, hq1⟩
  have C := HG.out w1 hq1
  have HC : Hid (Calls Tryz.prog 78 #[.pointer (some ⟨K, 0, none⟩)] w1 fun e w' => e = .returned (.tuple #[]) ∧ Q2 w') := C
  clear C hq1
  go_wp2_with fail
  refine HC.out.mono ?_
  rintro e w2 ⟨rfl, hq2⟩
  obtain ⟨k2, kf⟩ := HT.out w2 hq2
  have HQ : Hid (Q2 w2) := hq2
  clear hq2 h3 hf
  go_wp2
  go_end0
  exact ⟨rfl, w2, HQ.out, by simp⟩
end Go.Proofs.YtnhnggnldhmepabGreatDoor
