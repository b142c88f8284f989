/-
  SumDamage: its helpers by contract: place, four, same; and what one turned bit does to the number.
-/
import Derived.Test.YtmglopfjjbnfiaaDoorXor
namespace Go.Proofs.YtmglopfjjbnfiaaDoor
open Go.RowKit

theorem num_set : ∀ (l : List Nat) (k : Nat), k < 8 * l.length → Crc.num (l.set (k / 8) (l.getD (k / 8) 0 ^^^ 2 ^ (k % 8))) = Crc.num l ^^^ 2 ^ k
  | [], k, h => by simp at h
  | c :: l, k, h => by
    by_cases hk : k < 8
    · rw [show k / 8 = 0 by omega, show k % 8 = k by omega]
      show (c ^^^ 2 ^ k) ^^^ Crc.num l * 2 ^ 8 = (c ^^^ Crc.num l * 2 ^ 8) ^^^ 2 ^ k
      ac_rfl
    · obtain ⟨j, rfl⟩ : ∃ j, k = j + 8 := ⟨k - 8, by omega⟩
      have ih := num_set l j (by simp at h; omega)
      rw [show (j + 8) / 8 = j / 8 + 1 by omega, show (j + 8) % 8 = j % 8 by omega]
      show c ^^^ Crc.num (l.set (j / 8) (l.getD (j / 8) 0 ^^^ 2 ^ (j % 8))) * 2 ^ 8 = (c ^^^ Crc.num l * 2 ^ 8) ^^^ 2 ^ (j + 8)
      rw [ih, Crc.mul_xor, ← Nat.pow_add]
      ac_rfl

theorem num_inj : ∀ (l m : List Nat), l.length = m.length → Bytes l → Bytes m → Crc.num l = Crc.num m → l = m
  | [], [], _, _, _, _ => rfl
  | c :: l, d :: m, h, hl, hm, e => by
    have hc : c < 256 := hl c (by simp)
    have hd : d < 256 := hm d (by simp)
    have e' : c ^^^ Crc.num l * 2 ^ 8 = d ^^^ Crc.num m * 2 ^ 8 := e
    have m1 := congrArg (· % 2 ^ 8) e'
    have d1 := congrArg (· / 2 ^ 8) e'
    simp only [Crc.xor_mod, Crc.xor_div, Nat.mul_mod_left, Nat.mul_div_cancel _ (show 0 < 2 ^ 8 by decide), Nat.xor_zero] at m1 d1
    rw [Nat.mod_eq_of_lt (by omega), Nat.mod_eq_of_lt (by omega)] at m1
    rw [Nat.div_eq_of_lt (by omega), Nat.div_eq_of_lt (by omega)] at d1
    simp only [Nat.zero_xor] at d1
    rw [m1, num_inj l m (by simpa using h) (fun x hx => hl x (by simp [hx])) (fun x hx => hm x (by simp [hx])) d1]

theorem bit_next (b i : Nat) : b % 2 ^ (i + 1) = if b / 2 ^ i % 2 = 1 then b % 2 ^ i ^^^ 2 ^ i else b % 2 ^ i := by
  have h : b % 2 ^ (i + 1) = b % 2 ^ i + 2 ^ i * (b / 2 ^ i % 2) := by
    rw [Nat.pow_succ, Nat.mod_mul]
  rw [h]
  rcases Nat.mod_two_eq_zero_or_one (b / 2 ^ i) with h0 | h0
  · rw [h0]; simp
  · rw [h0, if_pos rfl, Nat.mul_one]
    have hlt : b % 2 ^ i < 2 ^ i := Nat.mod_lt _ (Nat.two_pow_pos i)
    have := Crc.split_xor (b % 2 ^ i + 2 ^ i) i
    rw [Nat.add_div_right _ (Nat.two_pow_pos i), Nat.div_eq_of_lt hlt, Nat.add_mod_right, Nat.mod_eq_of_lt hlt] at this
    rw [this]
    simp [Nat.xor_comm]

set_option maxHeartbeats 1000000 in
set_option maxRecDepth 100000 in
theorem place_any (k : Int) (n : Nat) (hn : 0 < n) (hn2 : n < 4611686018427387904) :
    ∃ p : Nat, p < n ∧ ∀ w, Calls Tryd.prog 59 #[.int .i64 k, .int .i64 n] w fun e w' => e = .returned (.int .i64 p) ∧ w = w' := by
  have hz : ¬ ((n : Int) = 0) := by omega
  have b1 := Int.tmod_lt_of_pos k (show (0 : Int) < n by omega)
  have b2 : -(n : Int) < Int.tmod k n := by
    have := Int.lt_tmod_of_pos k (show (0 : Int) < n by omega)
    omega
  obtain ⟨r, hr⟩ : ∃ r, Int.tmod k n = r := ⟨_, rfl⟩
  rw [hr] at b1 b2
  by_cases h : r < 0
  · refine ⟨(r + n).toNat, by omega, fun w => ?_⟩
    have e : ((r + n).toNat : Int) = r + n := Int.toNat_of_nonneg (by omega)
    rw [e]
    have hw : IntKind.i64.wrap (r + n) = r + n := by rw [IntKind.wrap_i64]; omega
    clear e b1 b2
    go_enter Tryd.func59, Tryd.ntmps59
    go_wp2
    go_ret
    exact ⟨rfl, rfl⟩
  · refine ⟨r.toNat, by omega, fun w => ?_⟩
    have e : (r.toNat : Int) = r := Int.toNat_of_nonneg (by omega)
    rw [e]
    clear e b1 b2
    go_enter Tryd.func59, Tryd.ntmps59
    go_wp2
    go_ret
    exact ⟨rfl, rfl⟩

set_option maxHeartbeats 1000000 in
set_option maxRecDepth 100000 in
theorem four_any (x : Nat) (w : World) (hx : x < 4294967296) :
    Calls Tryd.prog 37 #[vw x] w fun e w' => e = .returned (.slice (some ⟨w.heap.size, 0, none⟩) 4 4) ∧ Has w' (.slice (some ⟨w.heap.size, 0, none⟩) 4 4) (Crc.four x) ∧ Below w.heap.size w w' := by
  have R : Hid (Has (w.alloc (.cells #[.int .u8 ((x : Int) % 256), .int .u8 ((x : Int) / 256 % 256), .int .u8 ((x : Int) / 65536 % 256), .int .u8 ((x : Int) / 16777216)] 5)) (.slice (some ⟨w.heap.size, 0, none⟩) 4 4) (Crc.four x)) := by
    have h := has_fr (W := w.alloc (.cells #[.int .u8 ((x : Int) % 256), .int .u8 ((x : Int) / 256 % 256), .int .u8 ((x : Int) / 65536 % 256), .int .u8 ((x : Int) / 16777216)] 5)) (g := w.heap.size) (T := 5) (fr := (0, 0)) _ (Crc.four x) ?_ (heap_alloc_new _ _)
    · exact h
    · have e4 : (x : Int) / 16777216 = ((x / 16777216 % 256 : Nat) : Int) := by omega
      have e3 : (x : Int) / 65536 % 256 = ((x / 65536 % 256 : Nat) : Int) := by omega
      have e2 : (x : Int) / 256 % 256 = ((x / 256 % 256 : Nat) : Int) := by omega
      have e1 : (x : Int) % 256 = ((x % 256 : Nat) : Int) := by omega
      rw [e1, e2, e3, e4]; rfl
  unfold vw
  go_enter Tryd.func37, Tryd.ntmps37
  go_wp2
  go_ret
  exact ⟨rfl, R.out, (Below.refl _ w).alloc (Nat.le_refl _) _⟩
theorem Has.at {w : World} {v : Value} {l : List Nat} (h : Has w v l) {k : Nat} (hk : k < l.length) : ∃ a cap, v = .slice (some a) l.length cap ∧ w.cell? (a.add k) = some (.int .u8 ((l[k]?.getD 0 : Nat) : Int)) := by
  rcases h with ⟨_, rfl⟩ | ⟨a, cap, rfl, _, hc⟩
  · simp at hk
  · exact ⟨a, cap, rfl, by simpa [List.getD, vb] using hc k hk⟩

theorem take_same {a b : List Nat} {k : Nat} (h : a.take k = b.take k) (hl : a.length = b.length) (hk : k < a.length) (he : a[k]?.getD 0 = b[k]?.getD 0) : a.take (k + 1) = b.take (k + 1) := by
  rw [List.take_succ_eq_append_getElem hk, List.take_succ_eq_append_getElem (by omega), h]
  rw [List.getElem?_eq_getElem hk, List.getElem?_eq_getElem (by omega)] at he
  simp at he
  rw [he]

set_option maxHeartbeats 800000 in
set_option maxRecDepth 100000 in
theorem same_any (va vb' : Value) (a b : List Nat) (w : World) (ha : Has w va a) (hb : Has w vb' b) (hal : a.length ≤ 1048576) (_hbl : b.length ≤ 1048576) :
    Calls Tryd.prog 22 #[va, vb'] w fun x w' => x = .returned (.bool (decide (a = b))) ∧ ∃ n, w' = w.drewN n := by
  have HA : Hid (Has w va a) := ha
  have HB : Hid (Has w vb' b) := hb
  obtain ⟨ao, ca, hva, _⟩ := ha.form
  obtain ⟨bo, cb, hvb, _⟩ := hb.form
  subst hva hvb
  clear ha hb
  by_cases hl : a.length = b.length
  · have HL : Hid (a.length = b.length) := hl
    have hlb : ((a.length : Int) != (b.length : Int)) = false := by simp; omega
    clear hl
    go_enter Tryd.func22, Tryd.ntmps22
    go_wp2
    go_loopw [5] (fun i wr => ∃ k m : Nat, wr = w.drewN m ∧ k ≤ a.length ∧ i = .int .i64 k ∧ a.take k = b.take k) (fun i _ => a.length - (intOf i).toNat)
    case atStart => exact ⟨0, 0, rfl, Nat.zero_le _, rfl, by simp⟩
    case round =>
      obtain ⟨k, m, rfl, hk, rfl, htk⟩ := hrel
      have HT : Hid (a.take k = b.take k) := htk
      clear htk
      by_cases hlt : k < a.length
      · have hlt2 : k < b.length := by have := HL.out; omega
        obtain ⟨a0, _, hva, hca⟩ := HA.out.at hlt
        obtain ⟨b0, _, hvb, hcb⟩ := HB.out.at hlt2
        simp at hva hvb
        obtain ⟨rfl, rfl⟩ := hva
        obtain ⟨rfl, rfl⟩ := hvb
        by_cases hab : a[k]?.getD 0 = b[k]?.getD 0
        · have HT2 : Hid (a.take (k + 1) = b.take (k + 1)) := take_same HT.out HL.out hlt hab
          rw [← hab] at hcb
          clear hab
          generalize a[k]?.getD 0 = c at *
          go_wp2_with fail
          go_quiet (fail)
          go_wp2
          go_roundw
          case rel => exact ⟨k + 1, _, rfl, by omega, by go_num, HT2.out⟩
          case measure => simp [intOf]; omega
        · have hne : Hid (decide (a = b) = false) := by
            show _ = _
            simp; intro h; exact hab (by rw [h])
          have hcd : (((a[k]?.getD 0 : Nat) : Int) != ((b[k]?.getD 0 : Nat) : Int)) = true := by simp; omega
          clear hab
          generalize a[k]?.getD 0 = c at *
          generalize b[k]?.getD 0 = d at *
          go_wp2_with fail
          go_quiet (fail)
          go_wp2
          go_ret
          exact ⟨by rw [hne.out]; rfl, _, World.drewN_drewN _ _ _⟩
      · have heq : Hid (decide (a = b) = true) := by
          show _ = _
          have h := HT.out
          have h2 := HL.out
          rw [List.take_of_length_le (by omega), List.take_of_length_le (by omega)] at h
          simpa using h
        go_wp2
        go_ret
        exact ⟨by rw [heq.out]; rfl, _, rfl⟩
  · have hne : decide (a = b) = false := by
      simp; intro h; exact hl (by rw [h])
    rw [hne]
    have hlb : ((a.length : Int) != (b.length : Int)) = true := by simp; omega
    go_enter Tryd.func22, Tryd.ntmps22
    go_wp2
    go_ret
    exact ⟨rfl, 0, rfl⟩


end Go.Proofs.YtmglopfjjbnfiaaDoor
