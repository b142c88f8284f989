/-
  the statements' same.
-/
import Derived.Test.YtnhnggnldhmepabGreatDoorTexts
import Derived.Test.YtnhnggnldhmepabGreatDoorRefPieces
namespace Go.Proofs.YtnhnggnldhmepabGreatDoor
open Go.RowKit

theorem all_take {α : Type} {a b : List α} (h : a.length = b.length) (ht : a.take a.length = b.take a.length) : a = b := by
  rw [List.take_length, h, List.take_length] at ht; exact ht

set_option maxHeartbeats 1000000 in
set_option maxRecDepth 100000 in
theorem same_any (va vb : Value) (A B : List ByteArray) (w : World) (ha : HasT w va A) (hb : HasT w vb B) (hal : A.length ≤ 1048577) (_hbl : B.length ≤ 1048577) :
    Calls Tryz.prog 15 #[va, vb] w fun e w' => e = .returned (.bool (decide (A.map tl = B.map tl))) ∧ Drew w w' := by
  have HA : Hid (HasT w va A) := ha
  have HB : Hid (HasT w vb B) := hb
  obtain ⟨ao, ca, rfl, _⟩ := ha.form
  obtain ⟨bo, cb, rfl, _⟩ := hb.form
  clear ha hb
  obtain ⟨q, hq⟩ : ∃ q, decide (A.map tl = B.map tl) = q := ⟨_, rfl⟩
  have HQ : Hid (decide (A.map tl = B.map tl) = q) := hq
  rw [hq]
  clear hq
  by_cases hl : A.length = B.length
  · have HL : Hid (A.length = B.length) := hl
    have hlb : ((A.length : Int) != (B.length : Int)) = false := by simp; omega
    clear hl
    go_enter Tryz.func15, Tryz.ntmps15
    go_wp2
    go_loopw [5] (fun i wr => ∃ k : Nat, Hid (Drew w wr) ∧ k ≤ A.length ∧ i = .int .i64 k ∧ Hid ((A.map tl).take k = (B.map tl).take k)) (fun i _ => A.length - iOf i)
    case atStart => exact ⟨0, Drew.refl _, Nat.zero_le _, rfl, by show _ = _; simp⟩
    case round =>
      obtain ⟨k, HW, hk, rfl, HT⟩ := hrel
      by_cases hlt : k < A.length
      · have hlt2 : k < B.length := by have := HL.out; omega
        have i1 : (k : Int) < (A.length : Int) := by omega
        have i2 : (k : Int) < (B.length : Int) := by omega
        obtain ⟨x, hx⟩ : ∃ x, A[k]? = some x := ⟨_, List.getElem?_eq_getElem hlt⟩
        obtain ⟨y, hy⟩ : ∃ y, B[k]? = some y := ⟨_, List.getElem?_eq_getElem hlt2⟩
        have fx : (A.map tl)[k]? = some (tl x) := by simp [hx]
        have fy : (B.map tl)[k]? = some (tl y) := by simp [hy]
        obtain ⟨a0, _, hva, hca⟩ := (HA.out.drew HW.out).at hx
        obtain ⟨b0, _, hvb, hcb⟩ := (HB.out.drew HW.out).at hy
        simp at hva hvb
        obtain ⟨rfl, rfl⟩ := hva
        obtain ⟨rfl, rfl⟩ := hvb
        by_cases hxy : x.toList = y.toList
        · have hq : (x.toList == y.toList) = true := by simpa using hxy
          have T2 : Hid ((A.map tl).take (k + 1) = (B.map tl).take (k + 1)) := take_more HT.out fx (by rw [show tl x = tl y from hxy]; exact fy)
          clear hxy fx fy hx hy
          go_wp2_with fail
          go_quiet (fail)
          go_wp2
          go_roundw
          case rel => exact ⟨k + 1, HW.out.more _, by omega, by go_num, T2⟩
          case measure => simp; omega
        · have hq : (x.toList == y.toList) = false := by simpa using hxy
          have HF : Hid (q = false) := by
            show _ = _
            rw [← HQ.out]
            refine decide_eq_false (fun e => hxy ?_)
            rw [e, fy] at fx
            exact (Option.some.inj fx).symm
          clear hxy fx fy hx hy
          go_wp2_with fail
          go_quiet (fail)
          go_wp2
          go_ret
          exact ⟨by rw [HF.out]; rfl, HW.out.more _⟩
      · have i1 : ¬ ((k : Int) < (A.length : Int)) := by omega
        have HF : Hid (q = true) := by
          show _ = _
          rw [← HQ.out]
          refine decide_eq_true (all_take (by simp only [List.length_map]; exact HL.out) ?_)
          have := HT.out
          rw [show k = A.length from by omega] at this
          rw [List.length_map]; exact this
        go_wp2
        go_ret
        exact ⟨by rw [HF.out]; rfl, HW.out⟩
  · have hlb : ((A.length : Int) != (B.length : Int)) = true := by simp; omega
    have HF : Hid (q = false) := by
      show _ = _
      rw [← HQ.out]
      exact decide_eq_false (fun e => hl (by have := congrArg List.length e; simpa using this))
    go_enter Tryz.func15, Tryz.ntmps15
    go_wp2
    go_ret
    exact ⟨by rw [HF.out]; rfl, Drew.refl _⟩

end Go.Proofs.YtnhnggnldhmepabGreatDoor
