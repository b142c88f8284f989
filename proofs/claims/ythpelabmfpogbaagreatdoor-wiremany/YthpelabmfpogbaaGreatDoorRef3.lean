/-
  The reference's reader: number.
-/
import Derived.Test.YthpelabmfpogbaaGreatDoorRef2
namespace Go.Proofs.YthpelabmfpogbaaGreatDoor
open Go.RowKit Wire Bk

/-- What number comes to. -/
def NumEnd (w : World) (lo M : Nat) (l : List Int) (p : Nat) (fa : Int) : Rd → Ending → World → Prop
  | .ok n k, e, w' => e = .returned (.tuple #[.int .u64 n, .int .i64 k, .bool true]) ∧ RfS w' lo M l ⟨p, fa, 0⟩ ∧ w.grownBy w' (some M)
  | .form i, e, w' => e = .returned (.tuple #[.int .u64 0, .int .i64 0, .bool false]) ∧ RfS w' lo M l ⟨p, (p + i : Nat), 11⟩ ∧ w.grownBy w' (some M)
  | .short, e, w' => e = .returned (.tuple #[.int .u64 0, .int .i64 0, .bool false]) ∧ RfS w' lo M l ⟨p, l.length, 10⟩ ∧ w.grownBy w' (some M)

theorem orshift2 (acc k : Nat) (c : Int) (hk : k ≤ 9) (hacc : acc < 128 ^ k) (h0 : 0 ≤ c) (h1 : c < 256) (h9 : k = 9 → c = 1) :
    bits .or .u64 (acc : Int) (IntKind.u64.wrap (c % 128 * 2 ^ (7 * k))) = ((acc + c.toNat % 128 * 128 ^ k : Nat) : Int) := by
  have h := orshift acc k c hk hacc h0 h1 h9
  have e1 : IntKind.u64.wrap (bits .and .u8 c 127) = c % 128 := by
    rw [and127 c h0 h1, IntKind.wrap_u64]
    omega
  rw [e1] at h
  exact h

set_option maxHeartbeats 1600000 in
set_option maxRecDepth 100000 in
theorem refNumber_any (lo M : Nat) (l : List Int) (p : Nat) (fa : Int) (w : World) (hr : RfS w lo M l ⟨p, fa, 0⟩) (hB : Bytes l) :
    Calls Tryz.prog 97 #[.pointer (some ⟨M, 0, none⟩)] w fun e w' => NumEnd w lo M l p fa (rd 0 (l.drop p)) e w' := by
  have HR : Hid (RfS w lo M l ⟨p, fa, 0⟩) := hr
  have HB : Hid (Bytes l) := hB
  obtain ⟨v, hh, ho, hk, hl, hp, hn⟩ := hr
  obtain ⟨ao, cap, hv, hcap, hat⟩ := ownAt ho
  subst hv
  simp only at hh hp
  have HAT : Hid (∀ i, i < l.length → ∃ g, ao = some ⟨g, 0, none⟩ ∧ w.cell? ⟨g, i, none⟩ = some (.int .u8 (l[i]?.getD 0))) := hat
  obtain ⟨h0, h1, h2, h3, hfz⟩ := rcells_of hh
  obtain ⟨r, er⟩ : ∃ r, rd 0 (l.drop p) = r := ⟨_, rfl⟩
  rw [er]
  have HER : Hid (rd 0 (l.drop p) = r) := er
  clear hh ho hk hat hB h2 h3 er
  go_enter Tryz.func97, Tryz.ntmps97
  go_wp2_with fail
  go_loopw [5, 6] (fun n i wr => ∃ k acc : Nat, k ≤ 9 ∧ p + k ≤ l.length ∧ acc < 128 ^ k ∧ i = .int .i64 k ∧ n = .int .u64 acc ∧ Hid (r = (rd k (l.drop (p + k))).plus acc ∧ ∃ m, wr = w.drewN m)) (fun _ i _ => 10 - (intOf i).toNat)
  case atStart => exact ⟨0, 0, by omega, by omega, by simp, rfl, rfl, by rw [← HER.out]; cases rd 0 (l.drop p) <;> simp [Rd.plus], 0, rfl⟩
  case round =>
    obtain ⟨k, acc, hk9, hak, hacc, rfl, rfl, HX⟩ := hrel
    have HRD : Hid (r = (rd k (l.drop (p + k))).plus acc) := HX.out.1
    have hz : wr.heap = w.heap := by obtain ⟨m, hm⟩ := HX.out.2; rw [hm]; rfl
    have HRW : Hid (RfS wr lo M l ⟨p, fa, 0⟩) := by
      obtain ⟨m, hm⟩ := HX.out.2
      rw [hm]; exact RfS.drewN HR.out m
    have HGW : Hid (∀ w', wr.grownBy w' (some M) → w.grownBy w' (some M)) := fun w' h => by
      obtain ⟨m, hm⟩ := HX.out.2
      subst hm
      exact ⟨h.os, h.tape, h.output, h.size, h.block⟩
    have HDW : Hid (∀ j, ∃ m, wr.drewN j = w.drewN m) := fun j => by
      obtain ⟨m, hm⟩ := HX.out.2
      subst hm
      exact ⟨_, World.drewN_drewN _ _ _⟩
    have d0 : wr.cell? ⟨M, 0, none⟩ = some (.slice ao l.length cap) := by simp only [World.cell?, hz] at h0 ⊢; exact h0
    have d1 : wr.cell? ⟨M, 1, none⟩ = some (.int .i64 p) := by simp only [World.cell?, hz] at h1 ⊢; exact h1
    have q6 : IntKind.i64.wrap (p : Int) = (p : Int) := by rw [IntKind.wrap_i64]; omega
    have q5 : IntKind.i64.wrap ((p : Int) + (k : Int)) = (p : Int) + (k : Int) := by rw [IntKind.wrap_i64]; omega
    clear HX
    by_cases hlt : p + k < l.length
    · obtain ⟨g, hao, hcg'⟩ := HAT.out (p + k) hlt
      have hcg : wr.cell? ⟨g, p + k, none⟩ = some (.int .u8 (l[p + k]?.getD 0)) := by simp only [World.cell?, hz] at hcg' ⊢; exact hcg'
      have hcb := HB.out.at hlt
      have HR2 : Hid (r = (rd k ((l[p + k]?.getD 0) :: l.drop (p + k + 1))).plus acc) := by
        have e : l.drop (p + k) = (l[p + k]?.getD 0) :: l.drop (p + k + 1) := by
          rw [List.drop_eq_getElem_cons hlt]; simp [List.getElem?_eq_getElem hlt]
        show _ = _
        rw [← e]; exact HRD.out
      clear HRD hcg' hz h0 h1
      generalize l[p + k]?.getD 0 = c at *
      subst hao
      by_cases hbad : bad k c = true
      · have HE : Hid (∀ (e : Ending) w', e = .returned (.tuple #[.int .u64 0, .int .i64 0, .bool false]) → RfS w' lo M l ⟨p, (p + k : Nat), 11⟩ → wr.grownBy w' (some M) → NumEnd w lo M l p fa r e w') := fun e w' h1 h2 h3 => by
          rw [HR2.out]
          simp only [rd, hbad, if_true, Rd.plus, NumEnd]
          exact ⟨h1, h2, HGW.out _ h3⟩
        by_cases hc0 : c ≤ 0
        · have hkp : 0 < k := by
            rcases Nat.eq_zero_or_pos k with h | h
            · subst h; simp [bad] at hbad
            · exact h
          have hcz : (c == 0) = true := by simp; omega
          have hkz : (0 : Int) < (k : Int) := by omega
          go_wp2_with fail
          go_quiet (fail)
          go_wp2_with fail
          go_quiet (fail)
          go_wp2_with (go_at_call 98; refine (refFail_any lo M l _ _ _ _ (by first | exact RfS.drewN HRW.out _ | exact RfS.drewN (RfS.drewN HRW.out _) _)).mono ?_; rintro e w1 ⟨rfl, hr1, hg1⟩)
          go_ret3
          exact HE.out _ _ rfl (by simpa using hr1) ⟨hg1.os, hg1.tape, hg1.output, hg1.size, hg1.block⟩
        · have hk' : k = 9 ∧ c ≠ 1 := by
            simp [bad] at hbad
            rcases hbad with h | h
            · omega
            · exact h
          obtain ⟨rfl, hc1⟩ := hk'
          have hc2 : 2 ≤ c := by omega
          have hb1 : (c != 1) = true := by simp; omega
          have hb0 : (c == 0) = false := by simp; omega
          clear hc1
          go_wp2_with fail
          go_quiet (fail)
          go_wp2_with fail
          go_quiet (fail)
          go_wp2_with (go_at_call 98; refine (refFail_any lo M l _ _ _ _ (by first | exact RfS.drewN HRW.out _ | exact RfS.drewN (RfS.drewN HRW.out _) _)).mono ?_; rintro e w1 ⟨rfl, hr1, hg1⟩)
          go_ret3
          exact HE.out _ _ rfl (by simpa using hr1) ⟨hg1.os, hg1.tape, hg1.output, hg1.size, hg1.block⟩
      · by_cases hc : c < 128
        · have hk3 : k = 0 ∨ (0 < k ∧ k < 9 ∧ 0 < c) ∨ (k = 9 ∧ c = 1) := by
            simp [bad] at hbad; omega
          have h9 : k = 9 → c = 1 := by omega
          have e1 : c.toNat % 128 = c.toNat := by omega
          have HE : Hid (∀ (e : Ending) w', e = .returned (.tuple #[.int .u64 (bits .or .u64 (acc : Int) (IntKind.u64.wrap (c % 128 * 2 ^ (7 * k)))), .int .i64 ((k : Int) + 1), .bool true]) → RfS w' lo M l ⟨p, fa, 0⟩ → wr.grownBy w' (some M) → NumEnd w lo M l p fa r e w') := fun e w' h1 h2 h3 => by
            rw [orshift2 acc k c hk9 hacc hcb.1 hcb.2 h9] at h1
            rw [HR2.out]
            simp only [rd, hbad, Bool.false_eq_true, if_false, hc, if_true, Rd.plus, NumEnd]
            rw [e1] at h1
            exact ⟨by rw [h1]; simp, h2, HGW.out _ h3⟩
          clear hbad HR2 h9 e1
          have HFR : Hid (∀ j, RfS (wr.drewN j) lo M l ⟨p, fa, 0⟩ ∧ wr.grownBy (wr.drewN j) (some M)) := fun j => ⟨RfS.drewN HRW.out j, grown_drewN _ _ _⟩
          rcases hk3 with rfl | ⟨hk1, hk2, hc0⟩ | ⟨rfl, rfl⟩
          · have hltI : (p : Int) < (l.length : Int) := by omega
            have hcg0 : wr.cell? ⟨g, p, none⟩ = some (.int .u8 c) := hcg
            have HE0 : Hid (∀ (e : Ending) w', e = .returned (.tuple #[.int .u64 (bits .or .u64 (acc : Int) (c % 128)), .int .i64 1, .bool true]) → RfS w' lo M l ⟨p, fa, 0⟩ → wr.grownBy w' (some M) → NumEnd w lo M l p fa r e w') := fun e w' h1 h2 h3 => HE.out e w' (by
              have hw : IntKind.u64.wrap (c % 128) = c % 128 := by rw [IntKind.wrap_u64]; omega
              simpa [hw] using h1) h2 h3
            clear HE q5 hcg hlt hak
            go_wp2_with fail
            go_quiet (fail)
            go_wp2_with fail
            go_quiet (fail)
            go_wp2
            go_ret3
            exact HE0.out _ _ rfl (HFR.out _).1 (HFR.out _).2
          · go_wp2_with fail
            go_quiet (fail)
            go_wp2_with fail
            go_quiet (fail)
            go_wp2
            go_ret3
            exact HE.out _ _ rfl (HFR.out _).1 (HFR.out _).2
          · have HE0 : Hid (∀ (e : Ending) w', e = .returned (.tuple #[.int .u64 (bits .or .u64 (acc : Int) 9223372036854775808), .int .i64 10, .bool true]) → RfS w' lo M l ⟨p, fa, 0⟩ → wr.grownBy w' (some M) → NumEnd w lo M l p fa r e w') := fun e w' h1 h2 h3 => HE.out e w' (by rw [h1]; rfl) h2 h3
            clear HE
            go_wp2_with fail
            go_quiet (fail)
            go_wp2_with fail
            go_quiet (fail)
            go_wp2
            go_ret3
            exact HE0.out _ _ rfl (HFR.out _).1 (HFR.out _).2
        · have hk3 : k < 9 ∧ (k = 0 ∨ 0 < k) := by
            simp [bad] at hbad; omega
          obtain ⟨hk8, hk3⟩ := hk3
          have R1 : Hid (r = (rd (k + 1) (l.drop (p + (k + 1)))).plus (acc + c.toNat % 128 * 128 ^ k)) := step_ok hbad hc HR2.out
          have R2 : Hid (acc + c.toNat % 128 * 128 ^ k < 128 ^ (k + 1)) := step_lt (c := c) hacc
          have R3 : Hid (bits .or .u64 (acc : Int) (IntKind.u64.wrap (c % 128 * 2 ^ (7 * k))) = ((acc + c.toNat % 128 * 128 ^ k : Nat) : Int)) := orshift2 acc k c hk9 hacc hcb.1 hcb.2 (by omega)
          clear hbad HR2
          rcases hk3 with rfl | hk1
          · have hltI : (p : Int) < (l.length : Int) := by omega
            have hcg0 : wr.cell? ⟨g, p, none⟩ = some (.int .u8 c) := hcg
            have R4 : Hid (bits .or .u64 (acc : Int) (c % 128) = ((acc + c.toNat % 128 * 128 ^ 0 : Nat) : Int)) := by
              have hw : IntKind.u64.wrap (c % 128) = c % 128 := by rw [IntKind.wrap_u64]; omega
              have h := R3.out
              simp only [Nat.mul_zero, Int.pow_zero, Int.mul_one, hw] at h
              exact h
            clear q5 hcg hlt hak
            go_wp2_with fail
            go_quiet (fail)
            go_wp2_with fail
            go_quiet (fail)
            go_wp2
            go_roundw
            case rel => exact ⟨1, _, by omega, by omega, R2.out, by go_num, congrArg (Value.int .u64) R4.out, R1.out, HDW.out _⟩
            case measure => simp [intOf]
          · go_wp2_with fail
            go_quiet (fail)
            go_wp2_with fail
            go_quiet (fail)
            go_wp2
            go_roundw
            case rel => exact ⟨k + 1, _, by omega, by omega, R2.out, by go_num, congrArg (Value.int .u64) R3.out, R1.out, HDW.out _⟩
            case measure => simp [intOf]; omega
    · have hak' : p + k = l.length := by omega
      have HE : Hid (∀ (e : Ending) w', e = .returned (.tuple #[.int .u64 0, .int .i64 0, .bool false]) → RfS w' lo M l ⟨p, l.length, 10⟩ → wr.grownBy w' (some M) → NumEnd w lo M l p fa r e w') := fun e w' h1 h2 h3 => by
        have e0 : l.drop (p + k) = [] := by rw [hak']; simp
        rw [HRD.out, e0]
        simp only [rd, Rd.plus, NumEnd]
        exact ⟨h1, h2, HGW.out _ h3⟩
      have hgeI : ¬ ((p : Int) + (k : Int) < (l.length : Int)) := by omega
      clear hak' HRD hz h0 h1
      go_wp2_with fail
      go_quiet (fail)
      go_wp2_with (go_at_call 98; refine (refFail_any lo M l _ _ _ _ (by first | exact RfS.drewN HRW.out _ | exact RfS.drewN (RfS.drewN HRW.out _) _)).mono ?_; rintro e w1 ⟨rfl, hr1, hg1⟩)
      go_ret3
      exact HE.out _ _ rfl hr1 ⟨hg1.os, hg1.tape, hg1.output, hg1.size, hg1.block⟩
end Go.Proofs.YthpelabmfpogbaaGreatDoor
