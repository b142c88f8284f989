/-
  WireForm's walk.
-/
import Derived.Test.YthpelabmfpogbaaDoorFormPlain
import Derived.Deep.DeepCutAuto
import Derived.Deep.RegionWith
namespace Go.Proofs.YthpelabmfpogbaaDoor
open Go.RowKit Wire

theorem Has.first {w : World} {ao : Option Addr} {cap : Nat} {l : List Int} (h : Has w (.slice ao l.length cap) l) {k : Nat} (hk : k ≤ l.length) : Has w (.slice ao k cap) (l.take k) := by
  have hlen : (l.take k).length = k := by simp; omega
  rcases h with ⟨h1, h2⟩ | ⟨x, cp, hv, hc, hcell⟩
  · subst h2
    simp at h1 hk
    subst hk
    obtain ⟨rfl, rfl⟩ := h1
    exact .inl ⟨rfl, by simp⟩
  · simp at hv
    obtain ⟨rfl, rfl⟩ := hv
    refine .inr ⟨x, cap, by rw [hlen], by rw [hlen]; omega, fun i hi => ?_⟩
    rw [hlen] at hi
    rw [hcell i (by omega)]
    simp [List.getD, hi]

/-- A reader is made of a beginning, asked, and its fault told: all above block N. -/
theorem below_read {N : Nat} {w w1 w2 : World} (hb : Below N w w1) (hN : N ≤ w.heap.size) (h : Below w1.heap.size w1 w2) : Below N w w2 := hb.trans (h.mono (Nat.le_trans hN hb.size))

theorem drew_below {w w' : World} (h : Below w.drew.heap.size w.drew w') : Below w.heap.size w w' := ⟨h.os, h.tape, h.output, h.size, h.block⟩

theorem uint_ok_inv {l : List Int} {most u : Nat} {st : St} (h : uintS l ⟨0, 0, 0⟩ most = (u, st)) (hf : st.fe = 0) : ∃ k, rd 0 l = .ok u k ∧ st = ⟨k, 0, 0⟩ := by
  simp only [uintS, ne_eq, not_true_eq_false, if_false, List.drop_zero] at h
  cases hr : rd 0 l with
  | ok n k =>
    rw [hr] at h
    simp only at h
    by_cases hm : n ≤ most
    · rw [if_pos hm] at h
      simp only [Prod.mk.injEq, Nat.zero_add] at h
      exact ⟨k, by rw [h.1], h.2.symm⟩
    · rw [if_neg hm] at h
      simp only [Prod.mk.injEq] at h
      rw [← h.2] at hf
      simp at hf
  | form i =>
    rw [hr] at h
    simp only [Prod.mk.injEq] at h
    rw [← h.2] at hf
    simp at hf
  | short =>
    rw [hr] at h
    simp only [Prod.mk.injEq] at h
    rw [← h.2] at hf
    simp at hf

theorem text_ok_inv {l t : List Int} {most : Int} {st : St} (h : textS l ⟨0, 0, 0⟩ most = (t, st)) (hf : st.fe = 0) :
    ∃ n k, rd 0 l = .ok n k ∧ ¬ most < n ∧ k + n ≤ l.length ∧ t = (l.drop k).take n ∧ st = ⟨k + n, 0, 0⟩ := by
  simp only [textS, ne_eq, not_true_eq_false, if_false, List.drop_zero] at h
  cases hr : rd 0 l with
  | ok n k =>
    rw [hr] at h
    simp only [Nat.zero_add] at h
    by_cases hm : most < n
    · rw [if_pos hm] at h
      simp only [Prod.mk.injEq] at h
      rw [← h.2] at hf
      simp at hf
    · rw [if_neg hm] at h
      by_cases hl : l.length < k + n
      · rw [if_pos hl] at h
        simp only [Prod.mk.injEq] at h
        rw [← h.2] at hf
        simp at hf
      · rw [if_neg hl] at h
        simp only [Prod.mk.injEq] at h
        exact ⟨n, k, rfl, hm, by omega, h.1.symm, h.2.symm⟩
  | form i =>
    rw [hr] at h
    simp only [Prod.mk.injEq] at h
    rw [← h.2] at hf
    simp at hf
  | short =>
    rw [hr] at h
    simp only [Prod.mk.injEq] at h
    rw [← h.2] at hf
    simp at hf

/-- The text that was read, as it was written. -/
theorem form_text {l : List Int} {n k : Nat} (hB : Bytes l) (h : rd 0 l = .ok n k) (hl : k + n ≤ l.length) :
    (mkStr ((l.drop k).take n)).size = n ∧ enc n ++ strB (mkStr ((l.drop k).take n)) = l.take (k + n) := by
  refine ⟨by rw [mkStr_size]; simp; omega, ?_⟩
  rw [strB_mkStr ((hB.drop k).take n), form_enc hB h, List.take_add]

/-- (*Reader).Err, for a test against nil. -/
theorem err_test (lo R : Nat) (l : List Int) (s : St) (w : World) (hr : RdS w lo R l s) :
    Calls Tryd.prog 13 #[.pointer (some ⟨R, 0, none⟩)] w fun e w' => ∃ ev, e = .returned ev ∧ (∀ w2, (binOp .eql 33 ev .nilIface).run Tryd.prog w2 = .ok (.bool (decide (s.fe = 0))) w2) ∧ (∀ (t : Tmp) w2, (eqGuard .eql 33 (.tmp t) (.const .nilIface) ev .nilIface).run Tryd.prog w2 = .ok () w2) ∧ Below w.heap.size w w' := by
  by_cases hf : s.fe = 0
  · obtain ⟨p, fa, fe⟩ := s
    simp only at hf
    subst hf
    refine (err_none lo R l p fa w hr).mono ?_
    rintro e w' ⟨rfl, rfl⟩
    exact ⟨_, rfl, fun w2 => by kernel_rfl, fun t w2 => by kernel_rfl, Below.refl _ _⟩
  · refine (err_some lo R l s w hr hf).mono ?_
    rintro e w' ⟨rfl, rfl⟩
    refine ⟨_, rfl, fun w2 => ?_, fun t w2 => by kernel_rfl, (Below.refl _ _).alloc (Nat.le_refl _) _⟩
    have : decide (s.fe = 0) = false := by simpa using hf
    rw [this]
    exact run_eql_held_nil w2 33 45 _ (by kernel_rfl)

set_option maxHeartbeats 8000000 in
set_option maxRecDepth 100000 in
theorem form_long (n : Int) (ao : Option Addr) (cap : Nat) (b : List Int) (w : World) (hbl : b.length ≤ 9223372036854775807) (hbig : 65536 < b.length)
    (hg0 : w.cell? ⟨0, 0, none⟩ = some (.iface 84 (.agg #[.pointer (some ⟨1, 33, none⟩)]))) :
    Calls Tryd.prog 4 #[.slice ao b.length cap, .int .i64 n] w fun e w' => e = .returned (.bool true) ∧ Below w.heap.size w w' := by
  go_enter Tryd.func4, Tryd.ntmps4
  go_wp2_with (go_at_call 6; refine (known_any _ hg0).mono ?_; rintro e w1 ⟨rfl, hb1⟩)
  go_ret
  exact ⟨rfl, hb1⟩

set_option maxHeartbeats 1000000 in
set_option maxRecDepth 100000 in
theorem form_short (n : Int) (hn : -9223372036854775808 ≤ n ∧ n ≤ 9223372036854775807) (ao : Option Addr) (cap : Nat) (b : List Int) (w : World) (hbl : b.length ≤ 65536) (hm : Has w (.slice ao b.length cap) b) (hB : Bytes b)
    (hg0 : w.cell? ⟨0, 0, none⟩ = some (.iface 84 (.agg #[.pointer (some ⟨1, 33, none⟩)]))) :
    Calls Tryd.prog 4 #[.slice ao b.length cap, .int .i64 n] w fun e w' => e = .returned (.bool true) ∧ Below w.heap.size w w' := by
  have HG : Hid (w.cell? ⟨0, 0, none⟩ = some (.iface 84 (.agg #[.pointer (some ⟨1, 33, none⟩)]))) := hg0
  have hcap : b.length ≤ cap := by
    obtain ⟨_, _, h, hc⟩ := hm.form
    simp at h; omega
  clear hg0
  go_enter Tryd.func4, Tryd.ntmps4
  go_wp2_with fail
  refine (known_any _ HG.out).mono ?_
  rintro e w1 ⟨rfl, hb1⟩
  have HM0 : Hid (Has w (.slice ao b.length cap) b) := hm
  clear hm
  go_wp2_with fail
  refine (read_any _ b _ (HM0.out.below hb1) (by omega)).mono ?_
  rintro e w2 ⟨X, rfl, hX, hx, hb2⟩
  have hXN : w.heap.size ≤ X := Nat.le_trans hb1.size hX
  replace hb2 := Below.up hb1 hb2
  replace hx : RdS w2 w1.heap.size X b ⟨0, 0, 0⟩ := hx
  clear hb1 hX HG
  go_wp2_with fail
  refine (read_any _ b _ (HM0.out.below hb2) (by omega)).mono ?_
  rintro e w3 ⟨Y, rfl, hY, hy, hb3⟩
  have hYN : w.heap.size ≤ Y := Nat.le_trans hb2.size hY
  have hx3 := hx.grown hb3
  have hXY : X < w2.heap.size := Rdr.lt hx
  replace hb3 := Below.up hb2 hb3
  replace hy : RdS w3 w2.heap.size Y b ⟨0, 0, 0⟩ := hy
  clear hb2 hx hY
  have hN : w.heap.size ≤ w.heap.size := Nat.le_refl _
  go_wp2_with fail
  refine (uint_any _ X 18446744073709551615 b _ _ hx3 hB).mono ?_
  obtain ⟨us, hus⟩ : ∃ us, uintS b ⟨0, 0, 0⟩ 18446744073709551615 = us := ⟨_, rfl⟩
  rw [hus]
  obtain ⟨u, st⟩ := us
  have HU : Hid (uintS b ⟨0, 0, 0⟩ 18446744073709551615 = (u, st)) := hus
  clear hus
  rintro e w4 ⟨rfl, hx4, hg4⟩
  simp only at hx4
  have hy4 := hy.other hg4 (.inl hXY)
  have hb4 := below_grown hb3 hN hg4 hXN
  clear hx3 hy hb3 hg4
  go_upto_if 34 with (go_at_call 13; refine (err_test _ _ _ _ _ hx4).mono ?_; rintro e w5 ⟨ev, rfl, hev, hevg, hb5⟩)
  go_cut [] (fun wc => Below w.heap.size w wc ∧ RdS wc w2.heap.size Y b ⟨0, 0, 0⟩)
  case rest =>
    obtain ⟨hbc, hyc⟩ := hcut
    clear hx4 hy4 hb4 hev hevg hb5 HU
    go_wp2_with fail
    refine (text_any _ Y n b _ _ hyc hB hn).mono ?_
    obtain ⟨ts, hts⟩ : ∃ ts, textS b ⟨0, 0, 0⟩ n = ts := ⟨_, rfl⟩
    rw [hts]
    obtain ⟨t, st2⟩ := ts
    have HT : Hid (textS b ⟨0, 0, 0⟩ n = (t, st2)) := hts
    clear hts
    rintro e w6 ⟨rfl, hy6, hg6⟩
    simp only at hy6
    have hb6 := below_grown hbc hN hg6 hYN
    clear hbc hyc hg6
    by_cases hf : st2.fe = 0
    · obtain ⟨L, k0, hrd, hnL, hkL, rfl, rfl⟩ := text_ok_inv HT.out hf
      obtain ⟨hS, hE⟩ := form_text hB hrd hkL
      have hk0 := (rd_le _ _ _ _ hrd).1
      have HRD : Hid (rd 0 b = .ok L k0) := hrd
      obtain ⟨k, hk⟩ : ∃ k, k = k0 + L := ⟨_, rfl⟩
      have HK : Hid (k = k0 + L) := hk
      rw [← hS] at hE
      rw [hS, ← hk] at hE
      generalize mkStr ((b.drop k0).take L) = S at *
      have HE : Hid (enc S.size ++ strB S = b.take k) := by rw [hS]; exact hE
      have hSn : (S.size : Int) ≤ n := by omega
      have hSm : S.size ≤ 100000 := by omega
      have hk1 : 1 ≤ k := by omega
      have hk2 : k ≤ b.length := by omega
      rw [← hk] at hy6
      have HF : Hid (∀ (wz : World), Below w.heap.size w wz → ∀ i, i ≤ b.length → Has wz (.slice ao i cap) (b.take i)) := fun wz hz i hi => (HM0.out.below hz).first hi
      have HL : Hid (k0 + L ≤ b.length ∧ ¬ n < L) := ⟨hkL, hnL⟩
      clear hrd hf HT hE hS hk hnL hkL hk0
      go_wp2_with (first | (go_at_call 13; refine (err_none _ _ _ _ _ _ hy6).mono ?_; rintro e w7 ⟨rfl, rfl⟩) | (go_at_call 12; refine (at_any _ _ _ _ _ hy6).mono ?_; rintro e w8 ⟨rfl, rfl⟩))
      have hk1' : ¬ ((k : Int) < 1) := by omega
      have hk2' : ¬ ((b.length : Int) < (k : Int)) := by omega
      have hn' : ¬ (n < (S.size : Int)) := by omega
      refine wp_region_any (by kernel_rfl) ?_
      change wpAny _ _ _ _ _ _ _ (World.drew _)
      refine wpAny_take (i := 0) (v := .int .i64 k) rfl (by kernel_rfl) (by kernel_rfl) (by kernel_rfl) (fun _ _ _ h => h) (Or.inl ⟨by kernel_rfl, ?_⟩) ?_
      · intro wz; go_simp
      refine wpAny_take (i := 1) (v := .bool false) rfl (by kernel_rfl) (by kernel_rfl) (by kernel_rfl) (fun _ _ _ h => h) (Or.inl ⟨by kernel_rfl, ?_⟩) ?_
      · intro wz; go_simp
      refine wpAny_take (i := 2) (v := .bool false) rfl (by kernel_rfl) (by kernel_rfl) (by kernel_rfl) (fun _ _ _ h => h) (Or.inl ⟨by kernel_rfl, ?_⟩) ?_
      · intro wz; go_simp
      refine wpAny_take (i := 3) (v := .int .i64 k) rfl (by kernel_rfl) (by kernel_rfl) (by kernel_rfl) (fun _ _ _ h => h) (Or.inl ⟨by kernel_rfl, ?_⟩) ?_
      · intro wz; go_simp
      refine wpAny_take (i := 4) (v := .slice ao b.length cap) rfl (by kernel_rfl) (by kernel_rfl) (by kernel_rfl) (fun _ _ _ h => h) (Or.inl ⟨by kernel_rfl, ?_⟩) ?_
      · intro wz; go_simp
      refine wpAny_take (i := 5) (v := .int .i64 b.length) rfl (by kernel_rfl) (by kernel_rfl) (by kernel_rfl) (fun _ _ _ h => h) (Or.inl ⟨by kernel_rfl, ?_⟩) ?_
      · intro wz; go_simp
      refine wpAny_take (i := 6) (v := .bool false) rfl (by kernel_rfl) (by kernel_rfl) (by kernel_rfl) (fun _ _ _ h => h) (Or.inl ⟨by kernel_rfl, ?_⟩) ?_
      · intro wz; go_simp
      refine wpAny_take (i := 7) (v := .bool false) rfl (by kernel_rfl) (by kernel_rfl) (by kernel_rfl) (fun _ _ _ h => h) (Or.inl ⟨by kernel_rfl, ?_⟩) ?_
      · intro wz; go_simp
      refine wpAny_take (i := 8) (v := .bool false) rfl (by kernel_rfl) (by kernel_rfl) (by kernel_rfl) (fun _ _ _ h => h) (Or.inl ⟨by kernel_rfl, ?_⟩) ?_
      · intro wz; go_simp
      refine wpAny_take (i := 9) (v := .string S) rfl (by kernel_rfl) (by kernel_rfl) (by kernel_rfl) (fun _ _ _ h => h) (Or.inl ⟨by kernel_rfl, ?_⟩) ?_
      · intro wz; go_simp
      refine wpAny_take (i := 10) (v := .int .i64 S.size) rfl (by kernel_rfl) (by kernel_rfl) (by kernel_rfl) (fun _ _ _ h => h) (Or.inl ⟨by kernel_rfl, ?_⟩) ?_
      · intro wz; go_simp
      refine wpAny_take (i := 11) (v := .int .i64 n) rfl (by kernel_rfl) (by kernel_rfl) (by kernel_rfl) (fun _ _ _ h => h) (Or.inl ⟨by kernel_rfl, ?_⟩) ?_
      · intro wz; go_simp
      refine wpAny_take (i := 12) (v := .bool false) rfl (by kernel_rfl) (by kernel_rfl) (by kernel_rfl) (fun _ _ _ h => h) (Or.inl ⟨by kernel_rfl, ?_⟩) ?_
      · intro wz; go_simp
      refine wpAny_take (i := 13) (v := .bool false) rfl (by kernel_rfl) (by kernel_rfl) (by kernel_rfl) (fun _ _ _ h => h) (Or.inl ⟨by kernel_rfl, ?_⟩) ?_
      · intro wz; go_simp
      refine wpAny_take (i := 14) (v := .bool false) rfl (by kernel_rfl) (by kernel_rfl) (by kernel_rfl) (fun _ _ _ h => h) (Or.inl ⟨by kernel_rfl, ?_⟩) ?_
      · intro wz; go_simp
      refine wpAny_take (i := 15) (v := .string S) rfl (by kernel_rfl) (by kernel_rfl) (by kernel_rfl) (fun _ _ _ h => h) (Or.inl ⟨by kernel_rfl, ?_⟩) ?_
      · intro wz; go_simp
      refine wpAny_take (i := 17) (v := .slice ao b.length cap) rfl (by kernel_rfl) (by kernel_rfl) (by kernel_rfl) (fun _ _ _ h => h) (Or.inl ⟨by kernel_rfl, ?_⟩) ?_
      · intro wz; go_simp
      refine wpAny_take (i := 18) (v := .int .i64 k) rfl (by kernel_rfl) (by kernel_rfl) (by kernel_rfl) (fun _ _ _ h => h) (Or.inl ⟨by kernel_rfl, ?_⟩) ?_
      · intro wz; go_simp
      refine wpAny_take (i := 19) (v := .slice ao k cap) rfl (by kernel_rfl) (by kernel_rfl) (by kernel_rfl) (fun _ _ _ h => h) (Or.inl ⟨by kernel_rfl, ?_⟩) ?_
      · intro wz
        go_simp
        intro h
        omega
      refine wpAny_ready (rs := [16]) (by kernel_rfl) (by simp) ?_
      refine AllReady.cons rfl (fun K hK => ?_) AllReady.nil
      go_simp
      refine (putText_any (.slice none 0 0) [] S _ (Has.nil _) hSm (by simp)).mono ?_
      rintro e w9 ⟨v9, rfl, hv9, hb9⟩
      refine hK _ _ ?_
      clear hK K
      refine wpAny_ready (rs := [20]) (by kernel_rfl) (by simp) ?_
      refine AllReady.cons rfl (fun K hK => ?_) AllReady.nil
      go_simp
      refine (k_same (l := b.take k) (by rw [← HE.out]; exact hv9.has) (HF.out _ (below_read hb6 hN (drew_below hb9)) k hk2) (by simp; omega)).mono ?_
      rintro e w10 ⟨rfl, n10, rfl⟩
      refine hK _ _ ?_
      clear hK K
      refine wpAny_take (i := 21) (v := .bool false) rfl (by kernel_rfl) (by kernel_rfl) (by kernel_rfl) (fun _ _ _ h => h) (Or.inl ⟨by kernel_rfl, ?_⟩) ?_
      · intro wz; go_simp
      refine wpAny_take (i := 22) (v := .bool false) rfl (by kernel_rfl) (by kernel_rfl) (by kernel_rfl) (fun _ _ _ h => h) (Or.inl ⟨by kernel_rfl, ?_⟩) ?_
      · intro wz; go_simp
      refine wpAny_done (by kernel_rfl) ?_ _
      have hb10 : Below w.heap.size w (w9.drewN n10) := (below_read hb6 hN (drew_below hb9)).trans ⟨rfl, rfl, rfl, Nat.le_refl _, fun _ _ => rfl⟩
      clear hv9 hb9 hb6 hy6 HE hSm hSn hn'
      go_simp
      go_wp2_with fail
      all_goals
        go_loopw [13] (fun i wr => ∃ j : Nat, j ≤ k ∧ i = .int .i64 j ∧ Below w.heap.size w wr) (fun i _ => k - (intOf i).toNat)
        case atStart => exact ⟨k - 12, by omega, congrArg (Value.int .i64) (by omega), hb10⟩
        case round =>
          clear hb10
          obtain ⟨j, hj, rfl, hbr⟩ := hrel
          by_cases hlt : j < k
          · go_wp2_with fail
            refine (read_any _ (b.take j) _ (HF.out _ hbr j (by omega)) (by simp; omega)).mono ?_
            rintro e w11 ⟨Z, rfl, hZ, hz11, hb11⟩
            have hZN : w.heap.size ≤ Z := Nat.le_trans hbr.size hZ
            replace hb11 := below_read hbr hN hb11
            replace hz11 : RdS w11 wr.heap.size Z (b.take j) ⟨0, 0, 0⟩ := hz11
            clear hbr hZ
            go_wp2_with fail
            refine (text_any _ Z n _ _ _ hz11 (hB.take j) hn).mono ?_
            rintro e w12 ⟨rfl, hz12, hg12⟩
            have hfe := form_text_short (most := n) HRD.out HL.out.1 (by have := HK.out; omega : j < k0 + L) (by have := HL.out.2; omega)
            have hb12 := below_grown hb11 hN hg12 hZN
            clear hz11 hb11 hg12
            generalize textS (b.take j) ⟨0, 0, 0⟩ n = us at *
            go_wp2_with (go_at_call 13; refine (err_test _ _ _ _ _ hz12).mono ?_; rintro e w13 ⟨ev2, rfl, hev2, hevg2, hb13⟩)
            replace hb13 := below_read hb12 hN hb13
            go_roundw
            case rel => exact ⟨j + 1, by omega, by go_num, hb13⟩
            case measure => simp [intOf]; omega
          · go_wp2_with fail
            go_ret
            exact ⟨rfl, hbr⟩
    · go_wp2_with (go_at_call 13; refine (err_test _ _ _ _ _ hy6).mono ?_; rintro e w7 ⟨ev2, rfl, hev2, hevg2, hb7⟩)
      go_ret
      exact ⟨rfl, below_read hb6 hN hb7⟩
  case first =>
    have hx5 := hx4.grown hb5
    have hy5 := hy4.grown hb5
    have hb5' := below_read hb4 hN hb5
    clear hev hevg hx4 hy4 hb4 hb5
    by_cases hf : st.fe = 0
    · obtain ⟨k, hrd, rfl⟩ := uint_ok_inv HU.out hf
      have HRD : Hid (rd 0 b = .ok u k) := hrd
      have hk := rd_le _ _ _ _ hrd
      have hu := rd_lt64 hrd
      have HE : Hid (enc u = b.take k) := form_enc hB hrd
      simp only [Nat.zero_add] at hk
      obtain ⟨hk1, hk2⟩ := hk
      have HF : Hid (∀ (wz : World), Below w.heap.size w wz → ∀ i, i ≤ b.length → Has wz (.slice ao i cap) (b.take i)) := fun wz hz i hi => (HM0.out.below hz).first hi
      clear hrd hf HU
      go_wp2_with (go_at_call 12; refine (at_any _ _ _ _ _ hx5).mono ?_; rintro e w6 ⟨rfl, rfl⟩)
      have hk1' : ¬ ((k : Int) < 1) := by omega
      have hk2' : ¬ ((b.length : Int) < (k : Int)) := by omega
      have hd1 : decide ((k : Int) < 1) = false := by simpa using hk1'
      have hd2 : decide ((b.length : Int) < (k : Int)) = false := by simpa using hk2'
      refine wp_region_any (by kernel_rfl) ?_
      change wpAny _ _ _ _ _ _ _ (World.drew _)
      refine wpAny_take (i := 0) (v := .int .i64 k) rfl (by kernel_rfl) (by kernel_rfl) (by kernel_rfl) (fun _ _ _ h => h) (Or.inl ⟨by kernel_rfl, ?_⟩) ?_
      · intro wz; go_simp
      refine wpAny_take (i := 1) (v := .bool false) rfl (by kernel_rfl) (by kernel_rfl) (by kernel_rfl) (fun _ _ _ h => h) (Or.inl ⟨by kernel_rfl, ?_⟩) ?_
      · intro wz; go_simp
      refine wpAny_take (i := 2) (v := .bool false) rfl (by kernel_rfl) (by kernel_rfl) (by kernel_rfl) (fun _ _ _ h => h) (Or.inl ⟨by kernel_rfl, ?_⟩) ?_
      · intro wz; go_simp
      refine wpAny_take (i := 3) (v := .int .i64 k) rfl (by kernel_rfl) (by kernel_rfl) (by kernel_rfl) (fun _ _ _ h => h) (Or.inl ⟨by kernel_rfl, ?_⟩) ?_
      · intro wz; go_simp
      refine wpAny_take (i := 4) (v := .slice ao b.length cap) rfl (by kernel_rfl) (by kernel_rfl) (by kernel_rfl) (fun _ _ _ h => h) (Or.inl ⟨by kernel_rfl, ?_⟩) ?_
      · intro wz; go_simp
      refine wpAny_take (i := 5) (v := .int .i64 b.length) rfl (by kernel_rfl) (by kernel_rfl) (by kernel_rfl) (fun _ _ _ h => h) (Or.inl ⟨by kernel_rfl, ?_⟩) ?_
      · intro wz; go_simp
      refine wpAny_take (i := 6) (v := .bool false) rfl (by kernel_rfl) (by kernel_rfl) (by kernel_rfl) (fun _ _ _ h => h) (Or.inl ⟨by kernel_rfl, ?_⟩) ?_
      · intro wz; go_simp
      refine wpAny_take (i := 7) (v := .bool false) rfl (by kernel_rfl) (by kernel_rfl) (by kernel_rfl) (fun _ _ _ h => h) (Or.inl ⟨by kernel_rfl, ?_⟩) ?_
      · intro wz; go_simp
      refine wpAny_take (i := 8) (v := .bool false) rfl (by kernel_rfl) (by kernel_rfl) (by kernel_rfl) (fun _ _ _ h => h) (Or.inl ⟨by kernel_rfl, ?_⟩) ?_
      · intro wz; go_simp
      refine wpAny_take (i := 9) (v := .int .u64 u) rfl (by kernel_rfl) (by kernel_rfl) (by kernel_rfl) (fun _ _ _ h => h) (Or.inl ⟨by kernel_rfl, ?_⟩) ?_
      · intro wz; go_simp
      refine wpAny_take (i := 11) (v := .slice ao b.length cap) rfl (by kernel_rfl) (by kernel_rfl) (by kernel_rfl) (fun _ _ _ h => h) (Or.inl ⟨by kernel_rfl, ?_⟩) ?_
      · intro wz; go_simp
      refine wpAny_take (i := 12) (v := .int .i64 k) rfl (by kernel_rfl) (by kernel_rfl) (by kernel_rfl) (fun _ _ _ h => h) (Or.inl ⟨by kernel_rfl, ?_⟩) ?_
      · intro wz; go_simp
      refine wpAny_take (i := 13) (v := .slice ao k cap) rfl (by kernel_rfl) (by kernel_rfl) (by kernel_rfl) (fun _ _ _ h => h) (Or.inl ⟨by kernel_rfl, ?_⟩) ?_
      · intro wz
        go_simp
        intro h
        omega
      refine wpAny_ready (rs := [10]) (by kernel_rfl) (by simp) ?_
      refine AllReady.cons rfl (fun K hK => ?_) AllReady.nil
      go_simp
      refine (putUint_any (.slice none 0 0) [] u _ (Has.nil _) hu (by simp)).mono ?_
      rintro e w7 ⟨v7, rfl, hv7, hb7⟩
      refine hK _ _ ?_
      clear hK K
      refine wpAny_ready (rs := [14]) (by kernel_rfl) (by simp) ?_
      refine AllReady.cons rfl (fun K hK => ?_) AllReady.nil
      go_simp
      refine (k_same (l := b.take k) (by rw [← HE.out]; exact hv7.has) (HF.out _ (below_read hb5' hN (drew_below hb7)) k hk2) (by simp; omega)).mono ?_
      rintro e w8 ⟨rfl, n8, rfl⟩
      refine hK _ _ ?_
      clear hK K
      refine wpAny_take (i := 15) (v := .bool false) rfl (by kernel_rfl) (by kernel_rfl) (by kernel_rfl) (fun _ _ _ h => h) (Or.inl ⟨by kernel_rfl, ?_⟩) ?_
      · intro wz; go_simp
      refine wpAny_take (i := 16) (v := .bool false) rfl (by kernel_rfl) (by kernel_rfl) (by kernel_rfl) (fun _ _ _ h => h) (Or.inl ⟨by kernel_rfl, ?_⟩) ?_
      · intro wz; go_simp
      refine wpAny_done (by kernel_rfl) ?_ _
      have hy8 : RdS (w7.drewN n8) w2.heap.size Y b ⟨0, 0, 0⟩ := (hy5.grown (drew_below hb7)).grown ⟨rfl, rfl, rfl, Nat.le_refl _, fun _ _ => rfl⟩
      have hb8 : Below w.heap.size w (w7.drewN n8) := (below_read hb5' hN (drew_below hb7)).trans ⟨rfl, rfl, rfl, Nat.le_refl _, fun _ _ => rfl⟩
      clear hv7 hb7 hy5 hb5' hx5 HE hu hd1 hd2
      go_simp
      go_wp2_with fail
      go_loopw [9] (fun i wr => ∃ j : Nat, j ≤ k ∧ i = .int .i64 j ∧ Below w.heap.size w wr ∧ RdS wr w2.heap.size Y b ⟨0, 0, 0⟩) (fun i _ => k - (intOf i).toNat)
      case atStart => exact ⟨0, Nat.zero_le _, rfl, hb8, hy8⟩
      case round =>
        clear hb8 hy8
        obtain ⟨j, hj, rfl, hbr, hyr⟩ := hrel
        by_cases hlt : j < k
        · go_wp2_with fail
          refine (read_any _ (b.take j) _ (HF.out _ hbr j (by omega)) (by simp; omega)).mono ?_
          rintro e w9 ⟨Z, rfl, hZ, hz9, hb9⟩
          have hy9 := hyr.grown hb9
          have hYZ : Y < Z := Nat.lt_of_lt_of_le (Rdr.lt hyr) hZ
          have hZN : w.heap.size ≤ Z := Nat.le_trans hbr.size hZ
          replace hb9 := below_read hbr hN hb9
          replace hz9 : RdS w9 wr.heap.size Z (b.take j) ⟨0, 0, 0⟩ := hz9
          clear hbr hyr hZ
          go_wp2_with fail
          refine (uint_any _ Z 18446744073709551615 _ _ _ hz9 (hB.take j)).mono ?_
          rintro e w10 ⟨rfl, hz10, hg10⟩
          have hfe := form_uint_short HRD.out hlt 18446744073709551615
          have hy10 := hy9.other hg10 (.inr hYZ)
          have hb10 := below_grown hb9 hN hg10 hZN
          clear hz9 hy9 hb9 hg10
          generalize uintS (b.take j) ⟨0, 0, 0⟩ 18446744073709551615 = us at *
          go_wp2_with (go_at_call 13; refine (err_test _ _ _ _ _ hz10).mono ?_; rintro e w11 ⟨ev2, rfl, hev, hevg, hb11⟩)
          have hy11 := hy10.grown hb11
          replace hb11 := below_read hb10 hN hb11
          go_roundw
          case rel => exact ⟨j + 1, by omega, by go_num, hb11, hy11⟩
          case measure => simp [intOf]; omega
        · go_wp2_with fail
          go_meet
          case rel => exact ⟨hbr, hyr⟩
    · go_wp2
      go_meet
      case rel => exact ⟨hb5', hy5⟩
end Go.Proofs.YthpelabmfpogbaaDoor
