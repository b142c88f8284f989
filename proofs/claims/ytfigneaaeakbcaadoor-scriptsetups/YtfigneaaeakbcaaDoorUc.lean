/-
  THE REFERENCE's READER: numbers.
-/
import Derived.Test.YtfigneaaeakbcaaDoorUb
namespace Go.Proofs.YtfigneaaeakbcaaDoor
open Go.RowKit Hm
attribute [local go_sem] Oper.semAt_some

theorem numR_at (l : By) (i : Nat) (hi : i = if l.head? = some 45 then 1 else 0) : numR l = if l.drop i = [] ∨ 13 < (l.drop i).length ∨ ((l.drop i).head? = some 48 ∧ 1 < (l.drop i).length) ∨ (i = 1 ∧ (l.drop i).head? = some 48) then none
    else match Lib.decFrom 0 (l.drop i) with
    | some n => if 1099511627776 < n then none else some (if i = 1 then -(n : Int) else n)
    | none => none := by
  unfold numR
  by_cases h : l.head? = some 45
  · rw [if_pos h] at hi
    subst hi
    simp [h]
    rfl
  · rw [if_neg h] at hi
    subst hi
    simp [h]
    rfl
def nE (o : Option Int) : Value := match o with
  | some v => .tuple #[.int .i64 v, .bool true]
  | none => .tuple #[.int .i64 0, .bool false]
theorem dec_none {D : By} {j : Nat} {b : UInt8} (h : D[j]? = some b) (hv : b.toNat < 48 ∨ 57 < b.toNat) : Lib.decFrom 0 D = none := by
  cases e : Lib.decFrom 0 D with
  | none => rfl
  | some n =>
    obtain ⟨d, hd⟩ := Lib.digit_of_decFrom D 0 n e j b h
    unfold Lib.digitVal at hd
    split at hd
    · rename_i q
      have : 48 ≤ b.toNat ∧ b.toNat ≤ 57 := by simpa using q
      omega
    · cases hd
theorem head_at (l : By) : l.head? = l[0]? := by cases l <;> rfl
set_option maxRecDepth 100000 in
set_option maxHeartbeats 16000000 in
theorem rnum_any (s : ByteArray) (w : World) (hs : s.size ≤ 1000000) : Calls Tryd.prog 18 #[.string s] w fun E w' => E = .returned (nE (numR (tl s))) ∧ w' = w := by
  have hlen := tl_len s
  by_cases h0 : s.size = 0
  · have hn : Hid (numR (tl s) = none) := by
      have : tl s = [] := List.length_eq_zero_iff.1 (by omega)
      show _ = _; rw [this]; rfl
    have b1 : ((0 : Int) == (s.size : Int)) = true := by simp; omega
    have b0 : ¬ (0 : Int) < (s.size : Int) := by omega
    go_enter Tryd.func18, Tryd.ntmps18
    go_wp2
    refine bodyPost_ret (results_tmp2 rfl _ _ _) rfl ?_
    refine ⟨?_, by first | rfl | trivial⟩
    rw [hn.out]; rfl
  · obtain ⟨c, hc⟩ : ∃ c, (tl s)[0]? = some c := ⟨(tl s)[0]'(by omega), by simp⟩
    have hcl := c.toNat_lt
    have b0 : (0 : Int) < (s.size : Int) := by omega
    by_cases h45 : c.toNat = 45
    · have b45 : ((c.toNat : Int) == 45) = true := by simp; omega
      have HI : Hid (1 = if (tl s).head? = some 45 then 1 else 0) := by show _ = _; rw [if_pos (by rw [head_at, hc]; congr 1; exact UInt8.toNat_inj.1 h45)]
      by_cases h1 : s.size = 1
      · have b1 : ((1 : Int) == (s.size : Int)) = true := by simp; omega
        have hn : Hid (numR (tl s) = none) := by
          show _ = _; rw [numR_at (tl s) 1 HI.out, if_pos]
          exact .inl (List.drop_of_length_le (by omega))
        go_enter Tryd.func18, Tryd.ntmps18
        go_wp2_with (first
          | ((with_reducible refine pl_val 12 (.int .u8 (c.toNat : Int)) w ?_ ?_ ?_ ?_); rfl; kernel_rfl; exact exec_idx (.tmp 11) (.const (.int .i64 0)) rfl s 0 c 0 rfl rfl rfl hc w))
        refine bodyPost_ret (results_tmp2 rfl _ _ _) rfl ?_
        refine ⟨?_, by first | rfl | trivial⟩
        rw [hn.out]; rfl
      · obtain ⟨d, hd⟩ : ∃ d, (tl s)[1]? = some d := ⟨(tl s)[1]'(by omega), by simp⟩
        have hdl := d.toNat_lt
        have hw13 : IntKind.i64.wrap ((1 : Int) + 13) = 14 := by decide
        have hw1 : IntKind.i64.wrap ((1 : Int) + 1) = 2 := by decide
        have hne : ((1 : Int) == (s.size : Int)) = false := by simp; omega
        have NB : Hid ((13 < s.size - 1 ∨ (d.toNat = 48 ∧ 1 < s.size - 1) ∨ (1 = 1 ∧ d.toNat = 48)) → numR (tl s) = none) := by
          intro q
          rw [numR_at (tl s) 1 HI.out, if_pos]
          have hh : ((tl s).drop 1).head? = some d := by rw [head_at, List.getElem?_drop]; exact hd
          rcases q with q | ⟨q1, q2⟩ | ⟨q1, q2⟩
          · exact Or.inr (Or.inl (by rw [List.length_drop]; omega))
          · exact Or.inr (Or.inr (Or.inl ⟨by rw [hh]; congr 1; exact UInt8.toNat_inj.1 q1, by rw [List.length_drop]; omega⟩))
          · exact Or.inr (Or.inr (Or.inr ⟨by omega, by rw [hh]; congr 1; exact UInt8.toNat_inj.1 q2⟩))
        by_cases h13 : 14 < s.size
        · have b13 : (14 : Int) < (s.size : Int) := by omega
          go_enter Tryd.func18, Tryd.ntmps18
          go_wp2_with (first
            | ((with_reducible refine pl_val 12 (.int .u8 (c.toNat : Int)) w ?_ ?_ ?_ ?_); rfl; kernel_rfl; exact exec_idx (.tmp 11) (.const (.int .i64 0)) rfl s 0 c 0 rfl rfl rfl hc w))
          refine bodyPost_ret (results_tmp2 rfl _ _ _) rfl ?_
          refine ⟨?_, by first | rfl | trivial⟩
          rw [NB.out (.inl (by omega))]; rfl
        · have b13 : ¬ (14 : Int) < (s.size : Int) := by omega
          by_cases h48 : d.toNat = 48
          · have b48 : ((d.toNat : Int) == 48) = true := by simp; omega
            by_cases hl1 : 2 < s.size
            · have bl1 : (2 : Int) < (s.size : Int) := by omega
              go_enter Tryd.func18, Tryd.ntmps18
              go_wp2_with (first
                | ((with_reducible refine pl_val 12 (.int .u8 (c.toNat : Int)) w ?_ ?_ ?_ ?_); rfl; kernel_rfl; exact exec_idx (.tmp 11) (.const (.int .i64 0)) rfl s 0 c 0 rfl rfl rfl hc w)
                | ((with_reducible refine pl_val 29 (.int .u8 (d.toNat : Int)) w ?_ ?_ ?_ ?_); rfl; kernel_rfl; exact exec_idx (.tmp 27) (.tmp 28) rfl s 1 d _ rfl rfl (by first | rfl | omega) hd w)
                | ((with_reducible refine pl_val 45 (.int .u8 (d.toNat : Int)) w ?_ ?_ ?_ ?_); rfl; kernel_rfl; exact exec_idx (.tmp 43) (.tmp 44) rfl s 1 d _ rfl rfl (by first | rfl | omega) hd w))
              refine bodyPost_ret (results_tmp2 rfl _ _ _) rfl ?_
              refine ⟨?_, by first | rfl | trivial⟩
              rw [NB.out (.inr (.inl ⟨h48, by omega⟩))]; rfl
            · have bl1 : ¬ (2 : Int) < (s.size : Int) := by omega
              go_enter Tryd.func18, Tryd.ntmps18
              go_wp2_with (first
                | ((with_reducible refine pl_val 12 (.int .u8 (c.toNat : Int)) w ?_ ?_ ?_ ?_); rfl; kernel_rfl; exact exec_idx (.tmp 11) (.const (.int .i64 0)) rfl s 0 c 0 rfl rfl rfl hc w)
                | ((with_reducible refine pl_val 29 (.int .u8 (d.toNat : Int)) w ?_ ?_ ?_ ?_); rfl; kernel_rfl; exact exec_idx (.tmp 27) (.tmp 28) rfl s 1 d _ rfl rfl (by first | rfl | omega) hd w)
                | ((with_reducible refine pl_val 45 (.int .u8 (d.toNat : Int)) w ?_ ?_ ?_ ?_); rfl; kernel_rfl; exact exec_idx (.tmp 43) (.tmp 44) rfl s 1 d _ rfl rfl (by first | rfl | omega) hd w))
              refine bodyPost_ret (results_tmp2 rfl _ _ _) rfl ?_
              refine ⟨?_, by first | rfl | trivial⟩
              rw [NB.out (.inr (.inr ⟨by first | rfl | trivial, h48⟩))]; rfl
          · have b48 : ((d.toNat : Int) == 48) = false := by simp; omega
            have hD : Hid (numR (tl s) = match Lib.decFrom 0 ((tl s).drop 1) with | some n => if 1099511627776 < n then none else some (if 1 = 1 then -(n : Int) else n) | none => none) := by
              show _ = _
              rw [numR_at (tl s) 1 HI.out, if_neg]
              have hh : ((tl s).drop 1).head? = some d := by rw [head_at, List.getElem?_drop]; exact hd
              have hl : ((tl s).drop 1).length = s.size - 1 := by rw [List.length_drop, hlen]
              rintro (q | q | ⟨q1, q2⟩ | ⟨q1, q2⟩)
              · rw [q] at hl; simp at hl; omega
              · omega
              · rw [hh] at q1; exact h48 (by rw [Option.some.inj q1]; rfl)
              · rw [hh] at q2; exact h48 (by rw [Option.some.inj q2]; rfl)
            have h13' : s.size ≤ 14 := by omega
            have HI2 := HI; clear HI NB
            go_enter Tryd.func18, Tryd.ntmps18
            go_upto_region 8 with (first
              | ((with_reducible refine pl_val 12 (.int .u8 (c.toNat : Int)) w ?_ ?_ ?_ ?_); rfl; kernel_rfl; exact exec_idx (.tmp 11) (.const (.int .i64 0)) rfl s 0 c 0 rfl rfl rfl hc w)
              | ((with_reducible refine pl_val 29 (.int .u8 (d.toNat : Int)) w ?_ ?_ ?_ ?_); rfl; kernel_rfl; exact exec_idx (.tmp 27) (.tmp 28) rfl s 1 d _ rfl rfl (by first | rfl | omega) hd w)
              | ((with_reducible refine pl_val 45 (.int .u8 (d.toNat : Int)) w ?_ ?_ ?_ ?_); rfl; kernel_rfl; exact exec_idx (.tmp 43) (.tmp 44) rfl s 1 d _ rfl rfl (by first | rfl | omega) hd w))
            go_loopw [5, 6] (fun x5 x6 w9 => ∃ (k v : Nat), x5 = .int .i64 (v : Int) ∧ x6 = .int .i64 (k : Int) ∧ 1 ≤ k ∧ k ≤ s.size ∧ v < 10000000000000 ∧ w9 = w ∧ Hid (Lib.decFrom 0 (((tl s).drop 1).take (k - 1)) = some v)) (fun _ x6 _ => s.size - iOf x6)
            case atStart => exact ⟨1, 0, rfl, rfl, Nat.le_refl _, by omega, by decide, rfl, by show _ = _; rw [Nat.sub_self, List.take_zero]; rfl⟩
            case round =>
              obtain ⟨k, v, rfl, rfl, hik, hks, hv, rfl, HV⟩ := hrel
              by_cases hk : k < s.size
              · have hkI : (k : Int) < (s.size : Int) := by omega
                obtain ⟨b, hb⟩ : ∃ b, (tl s)[k]? = some b := ⟨(tl s)[k]'(by omega), by simp⟩
                have hbl := b.toNat_lt
                have hdb : ((tl s).drop 1)[k - 1]? = some b := by rw [List.getElem?_drop, show 1 + (k - 1) = k by omega]; exact hb
                by_cases l1 : b.toNat < 48
                · have i1 : (b.toNat : Int) < 48 := by omega
                  have hn : Hid (numR (tl s) = none) := by show _ = _; rw [hD.out, dec_none hdb (.inl l1)]
                  clear hdb
                  go_wp2_with (first
                    | ((with_reducible refine pl_val 58 (.int .u8 (b.toNat : Int)) wr ?_ ?_ ?_ ?_); rfl; kernel_rfl; exact exec_idx (.tmp 56) (.tmp 57) rfl s k b _ rfl rfl (by first | rfl | omega) hb wr)
                    | ((with_reducible refine pl_val 63 (.int .u8 (b.toNat : Int)) wr ?_ ?_ ?_ ?_); rfl; kernel_rfl; exact exec_idx (.tmp 61) (.tmp 62) rfl s k b _ rfl rfl (by first | rfl | omega) hb wr)
                    | ((with_reducible refine pl_val 70 (.int .u8 (b.toNat : Int)) wr ?_ ?_ ?_ ?_); rfl; kernel_rfl; exact exec_idx (.tmp 68) (.tmp 69) rfl s k b _ rfl rfl (by first | rfl | omega) hb wr))
                  refine bodyPost_ret (results_tmp2 rfl _ _ _) rfl ?_
                  refine ⟨?_, by first | rfl | trivial⟩
                  rw [hn.out]; rfl
                · have i1 : ¬ (b.toNat : Int) < 48 := by omega
                  by_cases l2 : 57 < b.toNat
                  · have i2 : (57 : Int) < (b.toNat : Int) := by omega
                    have hn : Hid (numR (tl s) = none) := by show _ = _; rw [hD.out, dec_none hdb (.inr l2)]
                    clear hdb
                    go_wp2_with (first
                      | ((with_reducible refine pl_val 58 (.int .u8 (b.toNat : Int)) wr ?_ ?_ ?_ ?_); rfl; kernel_rfl; exact exec_idx (.tmp 56) (.tmp 57) rfl s k b _ rfl rfl (by first | rfl | omega) hb wr)
                      | ((with_reducible refine pl_val 63 (.int .u8 (b.toNat : Int)) wr ?_ ?_ ?_ ?_); rfl; kernel_rfl; exact exec_idx (.tmp 61) (.tmp 62) rfl s k b _ rfl rfl (by first | rfl | omega) hb wr)
                      | ((with_reducible refine pl_val 70 (.int .u8 (b.toNat : Int)) wr ?_ ?_ ?_ ?_); rfl; kernel_rfl; exact exec_idx (.tmp 68) (.tmp 69) rfl s k b _ rfl rfl (by first | rfl | omega) hb wr))
                    refine bodyPost_ret (results_tmp2 rfl _ _ _) rfl ?_
                    refine ⟨?_, by first | rfl | trivial⟩
                    rw [hn.out]; rfl
                  · have i2 : ¬ (57 : Int) < (b.toNat : Int) := by omega
                    have hN : Hid (Lib.decFrom 0 (((tl s).drop 1).take (k + 1 - 1)) = some (v * 10 + (b.toNat - 48))) := by
                      rw [show k + 1 - 1 = k - 1 + 1 by omega]
                      exact Lib.decFrom_take _ _ _ _ _ _ HV.out hdb (by unfold Lib.digitVal; rw [if_pos (by omega)])
                    have hv2 : v * 10 + (b.toNat - 48) < 10000000000000 := by
                      have := Lib.decFrom_lt _ _ _ hN.out
                      have hle : (((tl s).drop 1).take (k + 1 - 1)).length ≤ 13 := by rw [List.length_take, List.length_drop]; omega
                      have h10 : (10 : Nat) ^ (((tl s).drop 1).take (k + 1 - 1)).length ≤ 10 ^ 13 := Nat.pow_le_pow_right (by decide) hle
                      omega
                    have hw8 : IntKind.u8.wrap ((b.toNat : Int) - 48) = ((b.toNat - 48 : Nat) : Int) := by simp [IntKind.wrap, IntKind.signed, IntKind.bits]; omega
                    have hw9 : IntKind.i64.wrap ((b.toNat - 48 : Nat) : Int) = ((b.toNat - 48 : Nat) : Int) := by rw [IntKind.wrap_i64]; omega
                    have hw10 : IntKind.i64.wrap (10 * (v : Int)) = ((v * 10 : Nat) : Int) := by rw [IntKind.wrap_i64]; omega
                    have hw11 : IntKind.i64.wrap (((v * 10 : Nat) : Int) + ((b.toNat - 48 : Nat) : Int)) = ((v * 10 + (b.toNat - 48) : Nat) : Int) := by rw [IntKind.wrap_i64]; omega
                    have hwk : IntKind.i64.wrap ((k : Int) + 1) = ((k + 1 : Nat) : Int) := by rw [IntKind.wrap_i64]; omega
                    clear hdb
                    go_wp2_with (first
                      | ((with_reducible refine pl_val 58 (.int .u8 (b.toNat : Int)) wr ?_ ?_ ?_ ?_); rfl; kernel_rfl; exact exec_idx (.tmp 56) (.tmp 57) rfl s k b _ rfl rfl (by first | rfl | omega) hb wr)
                      | ((with_reducible refine pl_val 63 (.int .u8 (b.toNat : Int)) wr ?_ ?_ ?_ ?_); rfl; kernel_rfl; exact exec_idx (.tmp 61) (.tmp 62) rfl s k b _ rfl rfl (by first | rfl | omega) hb wr)
                      | ((with_reducible refine pl_val 70 (.int .u8 (b.toNat : Int)) wr ?_ ?_ ?_ ?_); rfl; kernel_rfl; exact exec_idx (.tmp 68) (.tmp 69) rfl s k b _ rfl rfl (by first | rfl | omega) hb wr))
                    go_roundw
                    case rel => exact ⟨k + 1, v * 10 + (b.toNat - 48), by first | rfl | (congr 1; omega), by first | rfl | (congr 1; omega), by omega, by omega, hv2, by first | rfl | trivial, hN⟩
                    case measure => simp; omega
              · have hkI : ¬ (k : Int) < (s.size : Int) := by omega
                have hF : Hid (Lib.decFrom 0 ((tl s).drop 1) = some v) := by
                  have := HV.out
                  rw [List.take_of_length_le (by rw [List.length_drop]; omega)] at this
                  exact this
                by_cases hbig : 1099511627776 < v
                · have ib : (1099511627776 : Int) < (v : Int) := by omega
                  have hn : Hid (numR (tl s) = none) := by show _ = _; rw [hD.out, hF.out]; exact if_pos hbig
                  go_wp2
                  refine bodyPost_ret (results_tmp2 rfl _ _ _) rfl ?_
                  refine ⟨?_, by first | rfl | trivial⟩
                  rw [hn.out]; rfl
                · have ib : ¬ (1099511627776 : Int) < (v : Int) := by omega
                  have hn : Hid (numR (tl s) = some (-(v : Int))) := by show _ = _; rw [hD.out, hF.out]; exact if_neg hbig
                  have hwn : IntKind.i64.wrap (-(v : Int)) = -(v : Int) := by rw [IntKind.wrap_i64]; omega
                  go_wp2
                  refine bodyPost_ret (results_tmp2 rfl _ _ _) rfl ?_
                  refine ⟨?_, by first | rfl | trivial⟩
                  rw [hn.out]; rfl
    · have b45 : ((c.toNat : Int) == 45) = false := by simp; omega
      have HI : Hid (0 = if (tl s).head? = some 45 then 1 else 0) := by show _ = _; rw [if_neg (by rw [head_at, hc]; intro q; exact h45 (by rw [Option.some.inj q]; rfl))]
      have hw13 : IntKind.i64.wrap ((0 : Int) + 13) = 13 := by decide
      have hw1 : IntKind.i64.wrap ((0 : Int) + 1) = 1 := by decide
      have hne : ((0 : Int) == (s.size : Int)) = false := by simp; omega
      have NB : Hid ((13 < s.size - 0 ∨ (c.toNat = 48 ∧ 1 < s.size - 0) ∨ (0 = 1 ∧ c.toNat = 48)) → numR (tl s) = none) := by
        intro q
        rw [numR_at (tl s) 0 HI.out, if_pos]
        have hh : ((tl s).drop 0).head? = some c := by rw [head_at, List.getElem?_drop]; exact hc
        rcases q with q | ⟨q1, q2⟩ | ⟨q1, q2⟩
        · exact Or.inr (Or.inl (by rw [List.length_drop]; omega))
        · exact Or.inr (Or.inr (Or.inl ⟨by rw [hh]; congr 1; exact UInt8.toNat_inj.1 q1, by rw [List.length_drop]; omega⟩))
        · exact Or.inr (Or.inr (Or.inr ⟨by omega, by rw [hh]; congr 1; exact UInt8.toNat_inj.1 q2⟩))
      by_cases h13 : 13 < s.size
      · have b13 : (13 : Int) < (s.size : Int) := by omega
        go_enter Tryd.func18, Tryd.ntmps18
        go_wp2_with (first
          | ((with_reducible refine pl_val 12 (.int .u8 (c.toNat : Int)) w ?_ ?_ ?_ ?_); rfl; kernel_rfl; exact exec_idx (.tmp 11) (.const (.int .i64 0)) rfl s 0 c 0 rfl rfl rfl hc w))
        refine bodyPost_ret (results_tmp2 rfl _ _ _) rfl ?_
        refine ⟨?_, by first | rfl | trivial⟩
        rw [NB.out (.inl (by omega))]; rfl
      · have b13 : ¬ (13 : Int) < (s.size : Int) := by omega
        by_cases h48 : c.toNat = 48
        · have b48 : ((c.toNat : Int) == 48) = true := by simp; omega
          by_cases hl1 : 1 < s.size
          · have bl1 : (1 : Int) < (s.size : Int) := by omega
            go_enter Tryd.func18, Tryd.ntmps18
            go_wp2_with (first
              | ((with_reducible refine pl_val 12 (.int .u8 (c.toNat : Int)) w ?_ ?_ ?_ ?_); rfl; kernel_rfl; exact exec_idx (.tmp 11) (.const (.int .i64 0)) rfl s 0 c 0 rfl rfl rfl hc w)
              | ((with_reducible refine pl_val 29 (.int .u8 (c.toNat : Int)) w ?_ ?_ ?_ ?_); rfl; kernel_rfl; exact exec_idx (.tmp 27) (.tmp 28) rfl s 0 c _ rfl rfl (by first | rfl | omega) hc w)
              | ((with_reducible refine pl_val 45 (.int .u8 (c.toNat : Int)) w ?_ ?_ ?_ ?_); rfl; kernel_rfl; exact exec_idx (.tmp 43) (.tmp 44) rfl s 0 c _ rfl rfl (by first | rfl | omega) hc w))
            refine bodyPost_ret (results_tmp2 rfl _ _ _) rfl ?_
            refine ⟨?_, by first | rfl | trivial⟩
            rw [NB.out (.inr (.inl ⟨h48, by omega⟩))]; rfl
          · have bl1 : ¬ (1 : Int) < (s.size : Int) := by omega
            have GD : Hid (¬ (1 < s.size ∧ c.toNat = 48)) := by show ¬ _; omega
            have hD : Hid (numR (tl s) = match Lib.decFrom 0 ((tl s).drop 0) with | some n => if 1099511627776 < n then none else some (if 0 = 1 then -(n : Int) else n) | none => none) := by
              show _ = _
              rw [numR_at (tl s) 0 HI.out, if_neg]
              have hh : ((tl s).drop 0).head? = some c := by rw [head_at, List.getElem?_drop]; exact hc
              have hl : ((tl s).drop 0).length = s.size - 0 := by rw [List.length_drop, hlen]
              rintro (q | q | ⟨q1, q2⟩ | ⟨q1, q2⟩)
              · rw [q] at hl; simp at hl; omega
              · omega
              · rw [hh] at q1; exact GD.out ⟨by omega, by rw [Option.some.inj q1]; rfl⟩
              · omega
            have h13' : s.size ≤ 13 := by omega
            have HI2 := HI; clear HI NB
            go_enter Tryd.func18, Tryd.ntmps18
            go_upto_region 8 with (first
              | ((with_reducible refine pl_val 12 (.int .u8 (c.toNat : Int)) w ?_ ?_ ?_ ?_); rfl; kernel_rfl; exact exec_idx (.tmp 11) (.const (.int .i64 0)) rfl s 0 c 0 rfl rfl rfl hc w)
              | ((with_reducible refine pl_val 29 (.int .u8 (c.toNat : Int)) w ?_ ?_ ?_ ?_); rfl; kernel_rfl; exact exec_idx (.tmp 27) (.tmp 28) rfl s 0 c _ rfl rfl (by first | rfl | omega) hc w)
              | ((with_reducible refine pl_val 45 (.int .u8 (c.toNat : Int)) w ?_ ?_ ?_ ?_); rfl; kernel_rfl; exact exec_idx (.tmp 43) (.tmp 44) rfl s 0 c _ rfl rfl (by first | rfl | omega) hc w))
            go_loopw [5, 6] (fun x5 x6 w9 => ∃ (k v : Nat), x5 = .int .i64 (v : Int) ∧ x6 = .int .i64 (k : Int) ∧ 0 ≤ k ∧ k ≤ s.size ∧ v < 10000000000000 ∧ w9 = w ∧ Hid (Lib.decFrom 0 (((tl s).drop 0).take (k - 0)) = some v)) (fun _ x6 _ => s.size - iOf x6)
            case atStart => exact ⟨0, 0, rfl, rfl, Nat.le_refl _, by omega, by decide, rfl, by show _ = _; rw [Nat.sub_self, List.take_zero]; rfl⟩
            case round =>
              obtain ⟨k, v, rfl, rfl, hik, hks, hv, rfl, HV⟩ := hrel
              by_cases hk : k < s.size
              · have hkI : (k : Int) < (s.size : Int) := by omega
                obtain ⟨b, hb⟩ : ∃ b, (tl s)[k]? = some b := ⟨(tl s)[k]'(by omega), by simp⟩
                have hbl := b.toNat_lt
                have hdb : ((tl s).drop 0)[k - 0]? = some b := by rw [List.getElem?_drop, show 0 + (k - 0) = k by omega]; exact hb
                by_cases l1 : b.toNat < 48
                · have i1 : (b.toNat : Int) < 48 := by omega
                  have hn : Hid (numR (tl s) = none) := by show _ = _; rw [hD.out, dec_none hdb (.inl l1)]
                  clear hdb
                  go_wp2_with (first
                    | ((with_reducible refine pl_val 58 (.int .u8 (b.toNat : Int)) wr ?_ ?_ ?_ ?_); rfl; kernel_rfl; exact exec_idx (.tmp 56) (.tmp 57) rfl s k b _ rfl rfl (by first | rfl | omega) hb wr)
                    | ((with_reducible refine pl_val 63 (.int .u8 (b.toNat : Int)) wr ?_ ?_ ?_ ?_); rfl; kernel_rfl; exact exec_idx (.tmp 61) (.tmp 62) rfl s k b _ rfl rfl (by first | rfl | omega) hb wr)
                    | ((with_reducible refine pl_val 70 (.int .u8 (b.toNat : Int)) wr ?_ ?_ ?_ ?_); rfl; kernel_rfl; exact exec_idx (.tmp 68) (.tmp 69) rfl s k b _ rfl rfl (by first | rfl | omega) hb wr))
                  refine bodyPost_ret (results_tmp2 rfl _ _ _) rfl ?_
                  refine ⟨?_, by first | rfl | trivial⟩
                  rw [hn.out]; rfl
                · have i1 : ¬ (b.toNat : Int) < 48 := by omega
                  by_cases l2 : 57 < b.toNat
                  · have i2 : (57 : Int) < (b.toNat : Int) := by omega
                    have hn : Hid (numR (tl s) = none) := by show _ = _; rw [hD.out, dec_none hdb (.inr l2)]
                    clear hdb
                    go_wp2_with (first
                      | ((with_reducible refine pl_val 58 (.int .u8 (b.toNat : Int)) wr ?_ ?_ ?_ ?_); rfl; kernel_rfl; exact exec_idx (.tmp 56) (.tmp 57) rfl s k b _ rfl rfl (by first | rfl | omega) hb wr)
                      | ((with_reducible refine pl_val 63 (.int .u8 (b.toNat : Int)) wr ?_ ?_ ?_ ?_); rfl; kernel_rfl; exact exec_idx (.tmp 61) (.tmp 62) rfl s k b _ rfl rfl (by first | rfl | omega) hb wr)
                      | ((with_reducible refine pl_val 70 (.int .u8 (b.toNat : Int)) wr ?_ ?_ ?_ ?_); rfl; kernel_rfl; exact exec_idx (.tmp 68) (.tmp 69) rfl s k b _ rfl rfl (by first | rfl | omega) hb wr))
                    refine bodyPost_ret (results_tmp2 rfl _ _ _) rfl ?_
                    refine ⟨?_, by first | rfl | trivial⟩
                    rw [hn.out]; rfl
                  · have i2 : ¬ (57 : Int) < (b.toNat : Int) := by omega
                    have hN : Hid (Lib.decFrom 0 (((tl s).drop 0).take (k + 1 - 0)) = some (v * 10 + (b.toNat - 48))) := by
                      rw [show k + 1 - 0 = k - 0 + 1 by omega]
                      exact Lib.decFrom_take _ _ _ _ _ _ HV.out hdb (by unfold Lib.digitVal; rw [if_pos (by omega)])
                    have hv2 : v * 10 + (b.toNat - 48) < 10000000000000 := by
                      have := Lib.decFrom_lt _ _ _ hN.out
                      have hle : (((tl s).drop 0).take (k + 1 - 0)).length ≤ 13 := by rw [List.length_take, List.length_drop]; omega
                      have h10 : (10 : Nat) ^ (((tl s).drop 0).take (k + 1 - 0)).length ≤ 10 ^ 13 := Nat.pow_le_pow_right (by decide) hle
                      omega
                    have hw8 : IntKind.u8.wrap ((b.toNat : Int) - 48) = ((b.toNat - 48 : Nat) : Int) := by simp [IntKind.wrap, IntKind.signed, IntKind.bits]; omega
                    have hw9 : IntKind.i64.wrap ((b.toNat - 48 : Nat) : Int) = ((b.toNat - 48 : Nat) : Int) := by rw [IntKind.wrap_i64]; omega
                    have hw10 : IntKind.i64.wrap (10 * (v : Int)) = ((v * 10 : Nat) : Int) := by rw [IntKind.wrap_i64]; omega
                    have hw11 : IntKind.i64.wrap (((v * 10 : Nat) : Int) + ((b.toNat - 48 : Nat) : Int)) = ((v * 10 + (b.toNat - 48) : Nat) : Int) := by rw [IntKind.wrap_i64]; omega
                    have hwk : IntKind.i64.wrap ((k : Int) + 1) = ((k + 1 : Nat) : Int) := by rw [IntKind.wrap_i64]; omega
                    clear hdb
                    go_wp2_with (first
                      | ((with_reducible refine pl_val 58 (.int .u8 (b.toNat : Int)) wr ?_ ?_ ?_ ?_); rfl; kernel_rfl; exact exec_idx (.tmp 56) (.tmp 57) rfl s k b _ rfl rfl (by first | rfl | omega) hb wr)
                      | ((with_reducible refine pl_val 63 (.int .u8 (b.toNat : Int)) wr ?_ ?_ ?_ ?_); rfl; kernel_rfl; exact exec_idx (.tmp 61) (.tmp 62) rfl s k b _ rfl rfl (by first | rfl | omega) hb wr)
                      | ((with_reducible refine pl_val 70 (.int .u8 (b.toNat : Int)) wr ?_ ?_ ?_ ?_); rfl; kernel_rfl; exact exec_idx (.tmp 68) (.tmp 69) rfl s k b _ rfl rfl (by first | rfl | omega) hb wr))
                    go_roundw
                    case rel => exact ⟨k + 1, v * 10 + (b.toNat - 48), by first | rfl | (congr 1; omega), by first | rfl | (congr 1; omega), by omega, by omega, hv2, by first | rfl | trivial, hN⟩
                    case measure => simp; omega
              · have hkI : ¬ (k : Int) < (s.size : Int) := by omega
                have hF : Hid (Lib.decFrom 0 ((tl s).drop 0) = some v) := by
                  have := HV.out
                  rw [List.take_of_length_le (by rw [List.length_drop]; omega)] at this
                  exact this
                by_cases hbig : 1099511627776 < v
                · have ib : (1099511627776 : Int) < (v : Int) := by omega
                  have hn : Hid (numR (tl s) = none) := by show _ = _; rw [hD.out, hF.out]; exact if_pos hbig
                  go_wp2
                  refine bodyPost_ret (results_tmp2 rfl _ _ _) rfl ?_
                  refine ⟨?_, by first | rfl | trivial⟩
                  rw [hn.out]; rfl
                · have ib : ¬ (1099511627776 : Int) < (v : Int) := by omega
                  have hn : Hid (numR (tl s) = some (v : Int)) := by show _ = _; rw [hD.out, hF.out]; exact if_neg hbig
                  go_wp2
                  refine bodyPost_ret (results_tmp2 rfl _ _ _) rfl ?_
                  refine ⟨?_, by first | rfl | trivial⟩
                  rw [hn.out]; rfl
        · have b48 : ((c.toNat : Int) == 48) = false := by simp; omega
          have GD : Hid (¬ (1 < s.size ∧ c.toNat = 48)) := by show ¬ _; omega
          have hD : Hid (numR (tl s) = match Lib.decFrom 0 ((tl s).drop 0) with | some n => if 1099511627776 < n then none else some (if 0 = 1 then -(n : Int) else n) | none => none) := by
            show _ = _
            rw [numR_at (tl s) 0 HI.out, if_neg]
            have hh : ((tl s).drop 0).head? = some c := by rw [head_at, List.getElem?_drop]; exact hc
            have hl : ((tl s).drop 0).length = s.size - 0 := by rw [List.length_drop, hlen]
            rintro (q | q | ⟨q1, q2⟩ | ⟨q1, q2⟩)
            · rw [q] at hl; simp at hl; omega
            · omega
            · rw [hh] at q1; exact GD.out ⟨by omega, by rw [Option.some.inj q1]; rfl⟩
            · omega
          have h13' : s.size ≤ 13 := by omega
          have HI2 := HI; clear HI NB
          go_enter Tryd.func18, Tryd.ntmps18
          go_upto_region 8 with (first
            | ((with_reducible refine pl_val 12 (.int .u8 (c.toNat : Int)) w ?_ ?_ ?_ ?_); rfl; kernel_rfl; exact exec_idx (.tmp 11) (.const (.int .i64 0)) rfl s 0 c 0 rfl rfl rfl hc w)
            | ((with_reducible refine pl_val 29 (.int .u8 (c.toNat : Int)) w ?_ ?_ ?_ ?_); rfl; kernel_rfl; exact exec_idx (.tmp 27) (.tmp 28) rfl s 0 c _ rfl rfl (by first | rfl | omega) hc w)
            | ((with_reducible refine pl_val 45 (.int .u8 (c.toNat : Int)) w ?_ ?_ ?_ ?_); rfl; kernel_rfl; exact exec_idx (.tmp 43) (.tmp 44) rfl s 0 c _ rfl rfl (by first | rfl | omega) hc w))
          go_loopw [5, 6] (fun x5 x6 w9 => ∃ (k v : Nat), x5 = .int .i64 (v : Int) ∧ x6 = .int .i64 (k : Int) ∧ 0 ≤ k ∧ k ≤ s.size ∧ v < 10000000000000 ∧ w9 = w ∧ Hid (Lib.decFrom 0 (((tl s).drop 0).take (k - 0)) = some v)) (fun _ x6 _ => s.size - iOf x6)
          case atStart => exact ⟨0, 0, rfl, rfl, Nat.le_refl _, by omega, by decide, rfl, by show _ = _; rw [Nat.sub_self, List.take_zero]; rfl⟩
          case round =>
            obtain ⟨k, v, rfl, rfl, hik, hks, hv, rfl, HV⟩ := hrel
            by_cases hk : k < s.size
            · have hkI : (k : Int) < (s.size : Int) := by omega
              obtain ⟨b, hb⟩ : ∃ b, (tl s)[k]? = some b := ⟨(tl s)[k]'(by omega), by simp⟩
              have hbl := b.toNat_lt
              have hdb : ((tl s).drop 0)[k - 0]? = some b := by rw [List.getElem?_drop, show 0 + (k - 0) = k by omega]; exact hb
              by_cases l1 : b.toNat < 48
              · have i1 : (b.toNat : Int) < 48 := by omega
                have hn : Hid (numR (tl s) = none) := by show _ = _; rw [hD.out, dec_none hdb (.inl l1)]
                clear hdb
                go_wp2_with (first
                  | ((with_reducible refine pl_val 58 (.int .u8 (b.toNat : Int)) wr ?_ ?_ ?_ ?_); rfl; kernel_rfl; exact exec_idx (.tmp 56) (.tmp 57) rfl s k b _ rfl rfl (by first | rfl | omega) hb wr)
                  | ((with_reducible refine pl_val 63 (.int .u8 (b.toNat : Int)) wr ?_ ?_ ?_ ?_); rfl; kernel_rfl; exact exec_idx (.tmp 61) (.tmp 62) rfl s k b _ rfl rfl (by first | rfl | omega) hb wr)
                  | ((with_reducible refine pl_val 70 (.int .u8 (b.toNat : Int)) wr ?_ ?_ ?_ ?_); rfl; kernel_rfl; exact exec_idx (.tmp 68) (.tmp 69) rfl s k b _ rfl rfl (by first | rfl | omega) hb wr))
                refine bodyPost_ret (results_tmp2 rfl _ _ _) rfl ?_
                refine ⟨?_, by first | rfl | trivial⟩
                rw [hn.out]; rfl
              · have i1 : ¬ (b.toNat : Int) < 48 := by omega
                by_cases l2 : 57 < b.toNat
                · have i2 : (57 : Int) < (b.toNat : Int) := by omega
                  have hn : Hid (numR (tl s) = none) := by show _ = _; rw [hD.out, dec_none hdb (.inr l2)]
                  clear hdb
                  go_wp2_with (first
                    | ((with_reducible refine pl_val 58 (.int .u8 (b.toNat : Int)) wr ?_ ?_ ?_ ?_); rfl; kernel_rfl; exact exec_idx (.tmp 56) (.tmp 57) rfl s k b _ rfl rfl (by first | rfl | omega) hb wr)
                    | ((with_reducible refine pl_val 63 (.int .u8 (b.toNat : Int)) wr ?_ ?_ ?_ ?_); rfl; kernel_rfl; exact exec_idx (.tmp 61) (.tmp 62) rfl s k b _ rfl rfl (by first | rfl | omega) hb wr)
                    | ((with_reducible refine pl_val 70 (.int .u8 (b.toNat : Int)) wr ?_ ?_ ?_ ?_); rfl; kernel_rfl; exact exec_idx (.tmp 68) (.tmp 69) rfl s k b _ rfl rfl (by first | rfl | omega) hb wr))
                  refine bodyPost_ret (results_tmp2 rfl _ _ _) rfl ?_
                  refine ⟨?_, by first | rfl | trivial⟩
                  rw [hn.out]; rfl
                · have i2 : ¬ (57 : Int) < (b.toNat : Int) := by omega
                  have hN : Hid (Lib.decFrom 0 (((tl s).drop 0).take (k + 1 - 0)) = some (v * 10 + (b.toNat - 48))) := by
                    rw [show k + 1 - 0 = k - 0 + 1 by omega]
                    exact Lib.decFrom_take _ _ _ _ _ _ HV.out hdb (by unfold Lib.digitVal; rw [if_pos (by omega)])
                  have hv2 : v * 10 + (b.toNat - 48) < 10000000000000 := by
                    have := Lib.decFrom_lt _ _ _ hN.out
                    have hle : (((tl s).drop 0).take (k + 1 - 0)).length ≤ 13 := by rw [List.length_take, List.length_drop]; omega
                    have h10 : (10 : Nat) ^ (((tl s).drop 0).take (k + 1 - 0)).length ≤ 10 ^ 13 := Nat.pow_le_pow_right (by decide) hle
                    omega
                  have hw8 : IntKind.u8.wrap ((b.toNat : Int) - 48) = ((b.toNat - 48 : Nat) : Int) := by simp [IntKind.wrap, IntKind.signed, IntKind.bits]; omega
                  have hw9 : IntKind.i64.wrap ((b.toNat - 48 : Nat) : Int) = ((b.toNat - 48 : Nat) : Int) := by rw [IntKind.wrap_i64]; omega
                  have hw10 : IntKind.i64.wrap (10 * (v : Int)) = ((v * 10 : Nat) : Int) := by rw [IntKind.wrap_i64]; omega
                  have hw11 : IntKind.i64.wrap (((v * 10 : Nat) : Int) + ((b.toNat - 48 : Nat) : Int)) = ((v * 10 + (b.toNat - 48) : Nat) : Int) := by rw [IntKind.wrap_i64]; omega
                  have hwk : IntKind.i64.wrap ((k : Int) + 1) = ((k + 1 : Nat) : Int) := by rw [IntKind.wrap_i64]; omega
                  clear hdb
                  go_wp2_with (first
                    | ((with_reducible refine pl_val 58 (.int .u8 (b.toNat : Int)) wr ?_ ?_ ?_ ?_); rfl; kernel_rfl; exact exec_idx (.tmp 56) (.tmp 57) rfl s k b _ rfl rfl (by first | rfl | omega) hb wr)
                    | ((with_reducible refine pl_val 63 (.int .u8 (b.toNat : Int)) wr ?_ ?_ ?_ ?_); rfl; kernel_rfl; exact exec_idx (.tmp 61) (.tmp 62) rfl s k b _ rfl rfl (by first | rfl | omega) hb wr)
                    | ((with_reducible refine pl_val 70 (.int .u8 (b.toNat : Int)) wr ?_ ?_ ?_ ?_); rfl; kernel_rfl; exact exec_idx (.tmp 68) (.tmp 69) rfl s k b _ rfl rfl (by first | rfl | omega) hb wr))
                  go_roundw
                  case rel => exact ⟨k + 1, v * 10 + (b.toNat - 48), by first | rfl | (congr 1; omega), by first | rfl | (congr 1; omega), by omega, by omega, hv2, by first | rfl | trivial, hN⟩
                  case measure => simp; omega
            · have hkI : ¬ (k : Int) < (s.size : Int) := by omega
              have hF : Hid (Lib.decFrom 0 ((tl s).drop 0) = some v) := by
                have := HV.out
                rw [List.take_of_length_le (by rw [List.length_drop]; omega)] at this
                exact this
              by_cases hbig : 1099511627776 < v
              · have ib : (1099511627776 : Int) < (v : Int) := by omega
                have hn : Hid (numR (tl s) = none) := by show _ = _; rw [hD.out, hF.out]; exact if_pos hbig
                go_wp2
                refine bodyPost_ret (results_tmp2 rfl _ _ _) rfl ?_
                refine ⟨?_, by first | rfl | trivial⟩
                rw [hn.out]; rfl
              · have ib : ¬ (1099511627776 : Int) < (v : Int) := by omega
                have hn : Hid (numR (tl s) = some (v : Int)) := by show _ = _; rw [hD.out, hF.out]; exact if_neg hbig
                go_wp2
                refine bodyPost_ret (results_tmp2 rfl _ _ _) rfl ?_
                refine ⟨?_, by first | rfl | trivial⟩
                rw [hn.out]; rfl
end Go.Proofs.YtfigneaaeakbcaaDoor
