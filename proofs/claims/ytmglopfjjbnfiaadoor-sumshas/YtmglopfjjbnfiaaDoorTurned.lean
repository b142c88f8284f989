/-
  SumDamage: twinelaw2.turned by contract.
-/
import Derived.Test.YtmglopfjjbnfiaaDoorDam
namespace Go.Proofs.YtmglopfjjbnfiaaDoor
open Go.RowKit

/-- A cell of an owned row, written over. -/
theorem Owns.set {w : World} {lo : Nat} {v : Value} {l : List Nat} (h : Owns w lo v l) (i x : Nat) (hi : i < l.length) :
    ∃ g cap, v = .slice (some ⟨g, 0, none⟩) l.length cap ∧ lo ≤ g ∧ w.cell? ⟨g, i, none⟩ = some (vb (l.getD i 0)) ∧ w.frozen? ⟨g, i, none⟩ = false ∧ Owns (w.setCell ⟨g, i, none⟩ (vb x)) lo v (l.set i x) ∧ Below lo w (w.setCell ⟨g, i, none⟩ (vb x)) := by
  obtain ⟨h1, ⟨_, h0⟩ | ⟨g, cap, cur, rfl, hg, hh, hn, hm, hs, ht⟩⟩ := h
  · omega
  · rw [Nat.mul_one] at hs ht
    have hcell : w.cell? ⟨g, i, none⟩ = some (vb (l.getD i 0)) := by
      rw [cell_of_row _ g i _ _ _ hh, ← Array.getElem?_toList]
      have : (cur.toList.take l.length)[i]? = (l.map vb)[i]? := by rw [ht]
      rw [List.getElem?_take, if_pos hi] at this
      rw [this]; simp [List.getD, hi]
    refine ⟨g, cap, rfl, hg, hcell, frozen_of_row _ g i _ _ hh, ?_, ⟨rfl, rfl, rfl, by simp [World.setCell], fun k hk => heap_setCell_other _ _ _ _ (by simp; omega)⟩⟩
    refine ⟨by simp, .inr ⟨g, cap, cur.setIfInBounds i (vb x), by simp, hg, heap_setCell_same _ _ _ _ _ _ hh, by simpa using hn, hm, by simp [hs], ?_⟩⟩
    rw [Nat.mul_one, List.length_set, Array.toList_setIfInBounds, List.take_set, ht, List.map_set]

theorem xor_shift (z i p : Nat) : (z ^^^ 2 ^ i) * 2 ^ p = z * 2 ^ p ^^^ 2 ^ (p + i) := by
  rw [Crc.mul_xor, ← Nat.pow_add, Nat.add_comm]

set_option maxHeartbeats 2000000 in
set_option maxRecDepth 100000 in
theorem turned_fn (ao : Option Addr) (cap : Nat) (L : List Nat) (at0 : Int) (b : Nat) (w : World) (hL : Has w (.slice ao L.length cap) L) (hB : Bytes L) (hl : L.length ≤ 40000) (hb : b < 4294967296) :
    Calls Tryd.prog 36 #[.slice ao L.length cap, .int .i64 at0, .int .u32 (b : Int)] w fun e w' => ∃ (O : List Nat) (oo : Option Addr) (oc : Nat) (z p : Nat), e = .returned (.tuple #[.slice oo O.length oc, .bool (!decide (O = L))]) ∧ Has w' (.slice oo O.length oc) O ∧ Bytes O ∧ O.length = L.length ∧ z < 4294967296 ∧ p ≤ 8 * L.length ∧ Crc.num O ^^^ Crc.num L = z * 2 ^ p ∧ Below w.heap.size w w' := by
  obtain ⟨n, hn⟩ : ∃ n, n = L.length := ⟨_, rfl⟩
  have HL : Hid (Has w (.slice ao n cap) L ∧ Bytes L ∧ n = L.length) := ⟨by rw [hn]; exact hL, hB, hn⟩
  rw [← hn]
  rw [← hn] at hl
  clear hL hB hn
  by_cases h0 : n = 0
  · subst h0
    have HE : Hid (L = []) := List.eq_nil_of_length_eq_zero HL.out.2.2.symm
    go_enter Tryd.func36, Tryd.ntmps36
    go_wp2_with (at_builtin; refine wpList_append_has rfl _ _ rfl w.heap.size _ _ [] L rfl rfl (Owns.nil _ _) HL.out.1 (by have := HL.out.2.2; simp; omega) (Nat.le_refl _) ?_; intro v1 w1 ho1 hb1; rw [List.nil_append] at ho1; have HO1 : Hid (Owns w1 w.heap.size v1 L ∧ Below w.heap.size w w1) := ⟨ho1, hb1⟩; obtain ⟨xo, xc, hv1, _⟩ := ho1.has.form; subst hv1; clear ho1 hb1)
    refine bodyPost_ret (v := .tuple #[.slice xo L.length xc, .bool false]) (by simp [results, Tryd.results36, go_sem]) rfl ?_
    refine ⟨L, xo, xc, 0, 0, ?_, HO1.out.1.has, HL.out.2.1, by rw [HE.out]; rfl, by decide, by decide, by simp, HO1.out.2⟩
    simp
  · have hne : ¬ ((n : Int) = 0) := by omega
    obtain ⟨p, hp, CP⟩ : ∃ p : Nat, p < 8 * n ∧ Hid (∀ wz, Calls Tryd.prog 59 #[.int .i64 at0, .int .i64 (8 * (n : Int))] wz fun e w' => e = .returned (.int .i64 p) ∧ wz = w') := by
      obtain ⟨p, hp, hc⟩ := place_any at0 (8 * n) (by omega) (by omega)
      refine ⟨p, hp, fun wz => ?_⟩
      have h := hc wz
      rw [show ((8 * n : Nat) : Int) = 8 * (n : Int) by omega] at h
      exact h
    go_enter Tryd.func36, Tryd.ntmps36
    go_wp2_with (first | (go_at_call 59; refine (CP.out _).mono ?_; rintro e w' ⟨rfl, rfl⟩) | (at_builtin; refine wpList_append_has rfl _ _ rfl w.heap.size _ _ [] L rfl rfl (Owns.nil _ _) HL.out.1 (by have := HL.out.2.2; simp; omega) (Nat.le_refl _) ?_; intro v1 w1 ho1 hb1; rw [List.nil_append] at ho1; have HO1 : Hid (Owns w1 w.heap.size v1 L ∧ Below w.heap.size w w1) := ⟨ho1, hb1⟩; obtain ⟨xo, xc, hv1, _⟩ := ho1.has.form; rw [← HL.out.2.2] at hv1; subst hv1; clear ho1 hb1))
    go_loopw [9] (fun iv wr => ∃ (i : Nat) (O : List Nat), i ≤ 32 ∧ iv = .int .i64 i ∧ Hid (Owns wr w.heap.size (.slice xo n xc) O ∧ O.length = n ∧ Bytes O ∧ Crc.num O ^^^ Crc.num L = b % 2 ^ i * 2 ^ p ∧ Below w.heap.size w wr)) (fun iv _ => 32 - (intOf iv).toNat)
    case atStart => exact ⟨0, L, by omega, rfl, HO1.out.1, HL.out.2.2.symm, HL.out.2.1, by simp [Nat.mod_one], HO1.out.2⟩
    case round =>
      clear HO1 CP
      obtain ⟨i, O, hi, rfl, HO⟩ := hrel
      by_cases hgo : i < 32 ∧ p + i < 8 * n
      · have hiI : (i : Int) < 32 := by omega
        obtain ⟨k, hk, HK⟩ : ∃ k : Nat, (p : Int) + (i : Int) = (k : Int) ∧ Hid (k = p + i ∧ k < 8 * n) := ⟨p + i, by omega, rfl, hgo.2⟩
        have hkI : (k : Int) < 8 * (n : Int) := by have := HK.out.2; omega
        have ht : Int.tmod ((b : Int) / 2 ^ i) 2 = ((b / 2 ^ i % 2 : Nat) : Int) := by
          rw [show ((b : Int) / 2 ^ i) = ((b / 2 ^ i : Nat) : Int) by rw [Int.natCast_ediv, Int.natCast_pow]; rfl, Int.tmod_eq_emod_of_nonneg (Int.natCast_nonneg _)]; omega
        have hi32 : i < 32 := hgo.1
        clear hgo
        rcases Nat.mod_two_eq_zero_or_one (b / 2 ^ i) with hbit | hbit
        · have HN : Hid (b % 2 ^ (i + 1) = b % 2 ^ i) := by show _ = _; rw [bit_next, if_neg (by omega)]
          rw [hbit] at ht
          clear hbit
          go_wp2
          go_roundw
          case rel => exact ⟨i + 1, O, by omega, by go_num, HO.out.1, HO.out.2.1, HO.out.2.2.1, by rw [HN.out]; exact HO.out.2.2.2.1, HO.out.2.2.2.2⟩
          case measure => simp [intOf]; omega
        · have HN : Hid (b % 2 ^ (i + 1) = b % 2 ^ i ^^^ 2 ^ i) := by show _ = _; rw [bit_next, if_pos hbit]
          rw [hbit] at ht
          clear hbit
          obtain ⟨q, hq, HQ⟩ : ∃ q : Nat, (k : Int) / 8 = (q : Int) ∧ Hid (q = k / 8 ∧ q < n) := ⟨k / 8, by omega, rfl, by have := HK.out.2; omega⟩
          obtain ⟨r, hr, HR⟩ : ∃ r : Nat, (k : Int) % 8 = (r : Int) ∧ Hid (r = k % 8 ∧ r < 8) := ⟨k % 8, by omega, rfl, by omega⟩
          have hqI : (q : Int) < (n : Int) := by have := HQ.out.2; omega
          obtain ⟨g, xc', hv, hg, hcell, hfr, HOW, HBW⟩ := Owns.set HO.out.1 q (O.getD q 0 ^^^ 2 ^ r) (by rw [HO.out.2.1]; exact HQ.out.2)
          rw [HO.out.2.1] at hv
          simp only [Value.slice.injEq, true_and] at hv
          obtain ⟨rfl, rfl⟩ := hv
          obtain ⟨y, hy⟩ : ∃ y, y = O.getD q 0 := ⟨_, rfl⟩
          rw [← hy] at hcell HOW HBW
          have hyl : y < 256 := by rw [hy]; exact HO.out.2.2.1 _ (by simp [List.getD, List.getElem?_eq_getElem (show q < O.length by rw [HO.out.2.1]; exact HQ.out.2)])
          have h2r : 2 ^ r < 256 := by
            have := HR.out.2
            exact Nat.lt_of_le_of_lt (Nat.pow_le_pow_right (by decide) (show r ≤ 7 by omega)) (by decide)
          obtain ⟨x, hx, HX⟩ : ∃ x : Nat, bits .xor .u8 (y : Int) ((2 : Int) ^ r % 256) = (x : Int) ∧ Hid (x = y ^^^ 2 ^ r ∧ x < 256) := ⟨y ^^^ 2 ^ r, by
            rw [show ((2 : Int) ^ r % 256) = ((2 ^ r : Nat) : Int) by rw [Int.natCast_pow]; exact Int.emod_eq_of_lt (Int.pow_nonneg (by decide)) (by exact_mod_cast h2r)]
            exact u8_xor_nat _ _ hyl h2r, rfl, Nat.xor_lt_two_pow (n := 8) hyl h2r⟩
          rw [← HX.out.1] at HOW HBW
          unfold vb at hcell HOW HBW
          have HF : Hid (Owns (wr.setCell ⟨g, q, none⟩ (.int .u8 (x : Int))) w.heap.size (.slice (some ⟨g, 0, none⟩) n xc) (O.set q x) ∧ Below w.heap.size w (wr.setCell ⟨g, q, none⟩ (.int .u8 (x : Int))) ∧ (O.set q x).length = n ∧ Bytes (O.set q x) ∧ Crc.num (O.set q x) ^^^ Crc.num L = b % 2 ^ (i + 1) * 2 ^ p) := by
            refine ⟨HOW, HO.out.2.2.2.2.trans HBW, by rw [List.length_set]; exact HO.out.2.1, ?_, ?_⟩
            · intro u hu
              rcases List.mem_or_eq_of_mem_set hu with h | h
              · exact HO.out.2.2.1 u h
              · rw [h]; exact HX.out.2
            · have hn := num_set O k (by rw [HO.out.2.1]; exact HK.out.2)
              rw [← HQ.out.1, ← HR.out.1, ← hy, ← HX.out.1] at hn
              rw [hn, HN.out, xor_shift, ← HO.out.2.2.2.1, ← HK.out.1]
              ac_rfl
          clear HOW HBW hy h2r
          go_wp2
          go_roundw
          case rel => exact ⟨i + 1, O.set q x, by omega, by go_num, HF.out.1, HF.out.2.2.1, HF.out.2.2.2.1, HF.out.2.2.2.2, HF.out.2.1⟩
          case measure => simp [intOf]; omega
      · have HS : Hid (Calls Tryd.prog 22 #[.slice xo n xc, .slice ao n cap] wr fun e w' => e = .returned (.bool (decide (O = L))) ∧ (Has w' (.slice xo O.length xc) O ∧ Below w.heap.size w w')) := by
          have hO := HO.out.1.has
          have hLw := HL.out.1.below HO.out.2.2.2.2
          refine (same_any _ _ O L wr hO hLw (by rw [HO.out.2.1]; omega) (by rw [← HL.out.2.2]; omega)).mono fun e w' ⟨h1, m, h2⟩ => ⟨h1, ?_, ?_⟩
          · rw [h2, HO.out.2.1]; exact hO
          · rw [h2]; exact HO.out.2.2.2.2.trans ⟨rfl, rfl, rfl, Nat.le_refl _, fun _ _ => rfl⟩
        have HE : Hid (∀ w', Has w' (.slice xo O.length xc) O ∧ Below w.heap.size w w' → ∃ (O' : List Nat) (oo : Option Addr) (oc : Nat) (z p : Nat), Ending.returned (.tuple #[.slice xo n xc, .bool (!decide (O = L))]) = Ending.returned (.tuple #[.slice oo O'.length oc, .bool (!decide (O' = L))]) ∧ Has w' (.slice oo O'.length oc) O' ∧ Bytes O' ∧ O'.length = n ∧ z < 4294967296 ∧ p ≤ 8 * n ∧ Crc.num O' ^^^ Crc.num L = z * 2 ^ p ∧ Below w.heap.size w w') := fun w' h => by
          refine ⟨O, xo, xc, b % 2 ^ i, p, by rw [HO.out.2.1], h.1, HO.out.2.2.1, HO.out.2.1, ?_, by omega, HO.out.2.2.2.1, h.2⟩
          exact Nat.lt_of_le_of_lt (Nat.mod_le _ _) hb
        by_cases h32 : i < 32
        · have hiI : (i : Int) < 32 := by omega
          have hkI : ¬ ((p : Int) + (i : Int) < 8 * (n : Int)) := by omega
          have hkD : decide ((p : Int) + (i : Int) < 8 * (n : Int)) = false := by simp; omega
          clear hgo
          go_wp2_with (go_at_call 22; refine HS.out.mono ?_; rintro e w3 ⟨rfl, h3⟩; have H3 := HE.out _ h3; clear h3)
          refine bodyPost_ret (v := .tuple #[.slice xo n xc, .bool (!decide (O = L))]) (by simp [results, Tryd.results36, go_sem]) rfl H3
        · have hiI : ¬ ((i : Int) < 32) := by omega
          have hiD : decide ((i : Int) < 32) = false := by simp; omega
          clear hgo
          go_wp2_with (go_at_call 22; refine HS.out.mono ?_; rintro e w3 ⟨rfl, h3⟩; have H3 := HE.out _ h3; clear h3)
          refine bodyPost_ret (v := .tuple #[.slice xo n xc, .bool (!decide (O = L))]) (by simp [results, Tryd.results36, go_sem]) rfl H3
end Go.Proofs.YtmglopfjjbnfiaaDoor
