/-
  The reference's CRC by contract.
-/
import Derived.Test.YtmglopfjjbnfiaaDoorRefSha
import Derived.Test.YtmglopfjjbnfiaaDoorDam
namespace Go.Proofs.YtmglopfjjbnfiaaDoor
open Go.RowKit

theorem bits_last (n x : Nat) : Crc.bits (n + 1) x = Crc.bit (Crc.bits n x) := by rw [Crc.bits_add n 1]; rfl
theorem bit_lt {x : Nat} (h : x < 4294967296) : Crc.bit x < 4294967296 := by
  unfold Crc.bit
  split
  · exact Nat.xor_lt_two_pow (n := 32) (show x / 2 < 2 ^ 32 by omega) (by decide)
  · omega

set_option maxHeartbeats 2000000 in
set_option maxRecDepth 100000 in
theorem refCrc_any (v : Value) (l : List Nat) (w : World) (hv : Has w v l) (hB : Bytes l) (hl : l.length ≤ 100000) :
    Calls Tryd.prog 21 #[v] w fun e w' => e = .returned (.int .u32 ((Crc.crc l : Nat) : Int)) ∧ w = w' := by
  obtain ⟨ao, cap, rfl, _⟩ := hv.form
  have HV : Hid (Has w (.slice ao l.length cap) l ∧ Bytes l) := ⟨hv, hB⟩
  obtain ⟨n, hn⟩ : ∃ n, n = l.length := ⟨_, rfl⟩
  have HN : Hid (n = l.length) := hn
  rw [← hn] at hl ⊢
  clear hv hB hn
  go_enter Tryd.func21, Tryd.ntmps21
  go_wp2_with fail
  go_loopw [3, 4] (fun x i wr => ∃ (k X : Nat), k ≤ n ∧ i = .int .i64 k ∧ x = .int .u64 (X : Int) ∧ X < 4294967296 ∧ Hid (X = Crc.raw Crc.ones (l.take k)) ∧ wr = w) (fun _ i _ => n - (intOf i).toNat)
  case atStart => exact ⟨0, 4294967295, by omega, rfl, rfl, by omega, rfl, rfl⟩
  case round =>
    obtain ⟨k, X, hk, rfl, rfl, hX, HX, rfl⟩ := hrel
    by_cases hlt : k < n
    · have hkI : (k : Int) < (n : Int) := by omega
      obtain ⟨a, c, rfl, hc, hcl, HCE⟩ : ∃ a1 xa, ao = some a1 ∧ wr.cell? (a1.add k) = some (.int .u8 (xa : Nat)) ∧ xa < 256 ∧ Hid (xa = l.getD k 0) := by
        obtain ⟨a1, xa, h1, h2, h3, h4⟩ := cell_in HV.out.1 HV.out.2 (Below.refl wr.heap.size wr) (show k < l.length by have := HN.out; omega)
        exact ⟨a1, xa, h1, h2.out, h3, h4⟩
      obtain ⟨Y, hY, hYl, HY⟩ : ∃ Y : Nat, bits .xor .u64 (X : Int) (c : Int) = (Y : Int) ∧ Y < 4294967296 ∧ Hid (Y = X ^^^ c) := ⟨X ^^^ c, u64_xor_nat _ _ (by omega) (by omega), Nat.xor_lt_two_pow (n := 32) hX (by omega), rfl⟩
      have HNX : Hid (Crc.bits 8 Y = Crc.raw Crc.ones (l.take (k + 1))) := by
        show _ = _
        have hkl : k < l.length := by have := HN.out; omega
        rw [← take_snoc hkl, Crc.raw_append, ← HX.out, HY.out, HCE.out]
        show _ = Crc.byteStep X (l.getD k 0)
        rw [Crc.byteStep_bits]
      clear HX HY HCE
      go_wp2_with fail
      go_loopw [3, 5] (fun x i wz => ∃ (m Z : Nat), m ≤ 8 ∧ i = .int .i64 m ∧ x = .int .u64 (Z : Int) ∧ Z < 4294967296 ∧ Hid (Z = Crc.bits m Y) ∧ wz = wr) (fun _ i _ => 8 - (intOf i).toNat)
      case atStart => exact ⟨0, Y, by omega, rfl, rfl, hYl, rfl, rfl⟩
      case round =>
        obtain ⟨m, Z, hm, rfl, rfl, hZ, HZ, rfl⟩ := hrel
        by_cases hm8 : m < 8
        · have hmI : (m : Int) < 8 := by omega
          have HZ2 : Hid (Crc.bit Z = Crc.bits (m + 1) Y) := by show _ = _; rw [bits_last, HZ.out]
          by_cases hodd : Z % 2 = 1
          · have h1 : (Z : Int) % 2 = 1 := by omega
            obtain ⟨U, hU, hUl, HU⟩ : ∃ U : Nat, bits .xor .u64 ((Z : Int) / 2) 3988292384 = (U : Int) ∧ U < 4294967296 ∧ Hid (U = Crc.bit Z) := by
              refine ⟨Crc.bit Z, ?_, bit_lt hZ, rfl⟩
              rw [show (Z : Int) / 2 = ((Z / 2 : Nat) : Int) by omega, show (3988292384 : Int) = ((3988292384 : Nat) : Int) from rfl, u64_xor_nat _ _ (by omega) (by omega)]
              unfold Crc.bit
              rw [if_pos hodd]; rfl
            have HU2 : Hid (U = Crc.bits (m + 1) Y) := by show _ = _; rw [HU.out, HZ2.out]
            clear HZ HZ2 HU
            go_wp2_with fail
            go_roundw
            case rel => exact ⟨m + 1, U, by omega, by go_num, rfl, hUl, HU2.out, by simp⟩
            case measure => simp [intOf]; omega
          · have h1 : ¬ ((Z : Int) % 2 = 1) := by omega
            have HU2 : Hid (Z / 2 = Crc.bits (m + 1) Y) := by show _ = _; rw [← HZ2.out]; unfold Crc.bit; rw [if_neg hodd]
            clear HZ HZ2
            go_wp2_with fail
            go_roundw
            case rel => exact ⟨m + 1, Z / 2, by omega, by go_num, by go_num, by omega, HU2.out, by simp⟩
            case measure => simp [intOf]; omega
        · have hmI : ¬ (m : Int) < 8 := by omega
          obtain rfl : m = 8 := by omega
          have HZ2 : Hid (Z = Crc.raw Crc.ones (l.take (k + 1))) := by show _ = _; rw [HZ.out, HNX.out]
          clear HZ
          go_wp2_with fail
          go_roundw
          case rel => exact ⟨k + 1, Z, by omega, by go_num, rfl, hZ, HZ2.out, by simp⟩
          case measure => simp [intOf]; omega
    · have hkI : ¬ (k : Int) < (n : Int) := by omega
      obtain rfl : k = n := by omega
      have HR : Hid (4294967295 - X = Crc.crc l) := by
        show _ = _
        unfold Crc.crc
        rw [HX.out, HN.out, List.take_length]
        have hr := Crc.raw_lt l Crc.ones (by decide) HV.out.2
        generalize Crc.raw Crc.ones l = r at hr
        apply Nat.eq_of_testBit_eq
        intro i
        rw [show 4294967295 - r = 2 ^ 32 - (r + 1) by omega, Nat.testBit_two_pow_sub_succ hr, Nat.testBit_xor, show Crc.ones = 2 ^ 32 - 1 from rfl, Nat.testBit_two_pow_sub_one]
        by_cases hi : i < 32
        · simp [hi]
        · have : r.testBit i = false := Nat.testBit_lt_two_pow (Nat.lt_of_lt_of_le hr (Nat.pow_le_pow_right (n := 2) (by decide) (by omega : 32 ≤ i)))
          simp [hi, this]
      have HF : Hid (4294967295 - (X : Int) = ((Crc.crc l : Nat) : Int)) := by show _ = _; rw [← HR.out]; omega
      clear HX HR
      go_wp2
      go_ret
      exact ⟨by show Ending.returned (Value.int .u32 (4294967295 - (X : Int))) = _; rw [HF.out], rfl⟩

end Go.Proofs.YtmglopfjjbnfiaaDoor
