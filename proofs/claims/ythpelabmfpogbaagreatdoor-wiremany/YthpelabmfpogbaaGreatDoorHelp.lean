/-
  The statements' own helpers: sameBytes, due, lot; the reference's Number and Words.
-/
import Derived.Test.YthpelabmfpogbaaGreatDoorMarks
namespace Go.Proofs.YthpelabmfpogbaaGreatDoor
open Go.RowKit Wire

set_option maxHeartbeats 800000 in
set_option maxRecDepth 100000 in
theorem sameBytes_any (va vb : Value) (a b : List Int) (w : World) (ha : Has w va a) (hb : Has w vb b) (hal : a.length ≤ 1048576) (_hbl : b.length ≤ 1048576) :
    Calls Tryz.prog 74 #[va, vb] w fun x w' => x = .returned (.bool (decide (a = b))) ∧ w' = w := by
  have HA : Hid (Has w va a) := ha
  have HB : Hid (Has w vb b) := hb
  obtain ⟨ao, ca, hva, _⟩ := ha.form
  obtain ⟨bo, cb, hvb, _⟩ := hb.form
  subst hva hvb
  clear ha hb
  by_cases hl : a.length = b.length
  · have HL : Hid (a.length = b.length) := hl
    have hlb : ((a.length : Int) != (b.length : Int)) = false := by simp; omega
    clear hl
    go_enter Tryz.func74, Tryz.ntmps74
    go_wp2
    go_loopw [5] (fun i wr => ∃ k : Nat, wr = w ∧ k ≤ a.length ∧ i = .int .i64 k ∧ a.take k = b.take k) (fun i _ => a.length - (intOf i).toNat)
    case atStart => exact ⟨0, rfl, Nat.zero_le _, rfl, by simp⟩
    case round =>
      obtain ⟨k, rfl, hk, rfl, htk⟩ := hrel
      have HT : Hid (a.take k = b.take k) := htk
      clear htk
      by_cases hlt : k < a.length
      · have hlt2 : k < b.length := by have := HL.out; omega
        obtain ⟨a0, _, hva, hca⟩ := HA.out.at hlt
        obtain ⟨b0, _, hvb, hcb⟩ := HB.out.at hlt2
        simp at hva hvb
        obtain ⟨rfl, rfl⟩ := hva
        obtain ⟨rfl, rfl⟩ := hvb
        by_cases hab : a[k]?.getD 0 = b[k]?.getD 0
        · have HT2 : Hid (a.take (k + 1) = b.take (k + 1)) := take_same HT.out HL.out hlt hab
          rw [← hab] at hcb
          clear hab
          generalize a[k]?.getD 0 = c at *
          go_wp2
          go_roundw
          case rel => exact ⟨k + 1, by simp, by omega, by go_num, HT2.out⟩
          case measure => simp [intOf]; omega
        · have hne : Hid (decide (a = b) = false) := by
            show _ = _
            simp; intro h; exact hab (by rw [h])
          have hcd : (a[k]?.getD 0 != b[k]?.getD 0) = true := by simpa using hab
          clear hab
          generalize a[k]?.getD 0 = c at *
          generalize b[k]?.getD 0 = d at *
          go_wp2
          go_ret
          exact ⟨by rw [hne.out]; rfl, rfl⟩
      · have heq : Hid (decide (a = b) = true) := by
          show _ = _
          have h := HT.out
          have h2 := HL.out
          rw [List.take_of_length_le (by omega), List.take_of_length_le (by omega)] at h
          simpa using h
        go_wp2
        go_ret
        exact ⟨by rw [heq.out]; rfl, rfl⟩
  · have hne : decide (a = b) = false := by
      simp; intro h; exact hl (by rw [h])
    rw [hne]
    have hlb : ((a.length : Int) != (b.length : Int)) = true := by simp; omega
    go_enter Tryz.func74, Tryz.ntmps74
    go_wp2
    go_ret
    exact ⟨rfl, rfl⟩

/-- The turn at which the n-th list is due. -/
def dueOf (turn n : Nat) : Nat := if n % 3 = 0 then turn else if n % 3 = 1 then turn + 1 + n / 3 % 8 else turn + 1

set_option maxHeartbeats 800000 in
set_option maxRecDepth 100000 in
theorem due_any (K turn n : Nat) (w : World) (h0 : w.cell? ⟨K, 0, none⟩ = some (.bool false)) (h2 : w.cell? ⟨K, 2, none⟩ = some (.int .i64 turn)) (ht : turn ≤ 1000000) (hn : n ≤ 1000000) :
    Calls Tryz.prog 36 #[.pointer (some ⟨K, 0, none⟩), .int .i64 n] w fun e w' => e = .returned (.int .i64 (dueOf turn n)) ∧ w' = w := by
  by_cases c0 : n % 3 = 0
  · have e : dueOf turn n = turn := by simp [dueOf, c0]
    rw [e]
    go_enter Tryz.func36, Tryz.ntmps36
    go_wp2
    go_ret
    exact ⟨rfl, rfl⟩
  by_cases c1 : n % 3 = 1
  · have e : dueOf turn n = turn + 1 + n / 3 % 8 := by simp [dueOf, c1]
    rw [e]
    go_enter Tryz.func36, Tryz.ntmps36
    go_wp2
    go_ret
    exact ⟨rfl, rfl⟩
  · have e : dueOf turn n = turn + 1 := by simp [dueOf, c0, c1]
    rw [e]
    go_enter Tryz.func36, Tryz.ntmps36
    go_wp2
    go_ret
    exact ⟨rfl, rfl⟩

set_option maxHeartbeats 800000 in
set_option maxRecDepth 100000 in
theorem lot_any (i : Nat) (w : World) (hi : i ≤ 1000000) :
    Calls Tryz.prog 69 #[.int .i64 i] w fun e w' => e = .returned (.int .i64 (if i % 2 = 0 then -7701 else -7702)) ∧ w' = w := by
  by_cases c : i % 2 = 0
  · rw [if_pos c]
    go_enter Tryz.func69, Tryz.ntmps69
    go_wp2
    go_ret
    exact ⟨rfl, rfl⟩
  · rw [if_neg c]
    go_enter Tryz.func69, Tryz.ntmps69
    go_wp2
    go_ret
    exact ⟨rfl, rfl⟩

theorem add128 (m : Nat) : (((m % 128 : Nat) : Int) + 128) = ((m % 128 + 128 : Nat) : Int) := by simp

set_option maxHeartbeats 800000 in
set_option maxRecDepth 100000 in
theorem number_any (n : Nat) (w : World) (hn : n < 18446744073709551616) :
    Calls Tryz.prog 11 #[.int .u64 n] w fun e w' => ∃ v, e = .returned v ∧ Owns w' w.heap.size v (enc n) ∧ Below w.heap.size w w' := by
  obtain ⟨i0, hi, hz0, hz1, hz2⟩ := info_parts Tryz.info5
  have hlen := enc_len64 hn
  go_enter Tryz.func11, Tryz.ntmps11
  go_wp2
  go_loopw [0, 3] (fun x v wr => ∃ (m : Nat) (l : List Int), m < 18446744073709551616 ∧ x = .int .u64 m ∧ l ++ enc m = enc n ∧ wr.ownsRow w.heap.size 5 1 v l.length (l.map (Value.int .u8)) ∧ Below w.heap.size w wr) (fun x _ _ => (intOf x).toNat)
  case atStart => exact ⟨n, [], hn, rfl, rfl, World.ownsRow_nil _ _ _ _, Below.refl _ _⟩
  case round =>
    obtain ⟨m, l, hm, rfl, hl, hown, hb⟩ := hrel
    have hll : l.length + (enc m).length = (enc n).length := by rw [← hl]; simp
    have hep := enc_pos m
    have HL : Hid (l ++ enc m = enc n) := hl
    have hlt10 : l.length < 10 := by omega
    clear hl hll
    by_cases hlt : m < 128
    · go_wp2_with (at_builtin; refine wpList_append_own _ rfl _ _ 22 rfl w.heap.size 5 i0 (.int .u8 0) 1 1 Tryz.underlying22 hi hz0 hz1 hz2 rfl (by decide) _ _ _ rfl (hown.alloc _) ⟨wr.heap.size, 0, none⟩ 1 1 [.int .u8 m] rfl rfl ?c1 ?c2 ?c3 ?c4 ?c5 ?_)
      case c1 => exact one_new
      case c2 => intro u hu; simp at hu; subst hu; rfl
      case c3 => unfold maxLen; omega
      case c4 => omega
      case c5 => have := hb.size; simp; omega
      intro v' w1 hown' hgrow _
      have R : ∃ v, Ending.returned v' = .returned v ∧ Owns w1 w.heap.size v (enc n) ∧ Below w.heap.size w w1 := by
        refine ⟨v', rfl, ?_, rel_own hb (fun k hk => (hown.lt k hk).1) hgrow⟩
        rw [← HL.out, enc_lt hlt]
        unfold Owns
        simpa using hown'
      clear hown' hgrow hown
      go_wp2
      go_ret
      exact R
    · go_wp2_with (at_builtin; refine wpList_append_own _ rfl _ _ 22 rfl w.heap.size 5 i0 (.int .u8 0) 1 1 Tryz.underlying22 hi hz0 hz1 hz2 rfl (by decide) _ _ _ rfl (hown.alloc _) ⟨wr.heap.size, 0, none⟩ 1 1 [.int .u8 ((m : Int) % 128 + 128)] rfl rfl ?c1 ?c2 ?c3 ?c4 ?c5 ?_)
      case c1 => exact one_new
      case c2 => intro u hu; simp at hu; subst hu; rfl
      case c3 => unfold maxLen; omega
      case c4 => omega
      case c5 => have := hb.size; simp; omega
      intro v' w1 hown' hgrow _
      have R1 : w1.ownsRow w.heap.size 5 1 v' (l ++ [((m % 128 + 128 : Nat) : Int)]).length ((l ++ [((m % 128 + 128 : Nat) : Int)]).map (Value.int .u8)) := by
        simpa using hown'
      have R2 := rel_own hb (fun k hk => (hown.lt k hk).1) hgrow
      have R3 : Hid ((l ++ [((m % 128 + 128 : Nat) : Int)]) ++ enc (m / 128) = enc n) := by
        have h := HL.out
        rw [enc_ge hlt] at h
        show (l ++ _) ++ _ = _
        rw [← h, List.append_assoc]; rfl
      clear hown' hgrow hown
      go_wp2
      go_roundw
      case rel => exact ⟨m / 128, _, by omega, by go_num, R3.out, R1, R2⟩
      case measure => simp [intOf]; omega
end Go.Proofs.YthpelabmfpogbaaGreatDoor
