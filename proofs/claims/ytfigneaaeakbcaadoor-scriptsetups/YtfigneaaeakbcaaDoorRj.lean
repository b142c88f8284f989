/-
  A SETUP'S READER, the program's: setup by contract.
-/
import Derived.Test.YtfigneaaeakbcaaDoorRi
namespace Go.Proofs.YtfigneaaeakbcaaDoor
open Go.RowKit Hm
attribute [local go_sem] Oper.semAt_some

theorem set_all (Y : List Value) (i : Nat) (v : Value) (h : Y.toArray.all (·.oneCell') = true) (hv : v.oneCell' = true) : (Y.set i v).toArray.all (·.oneCell') = true := by
  rw [Array.all_eq_true_iff_forall_mem] at h ⊢
  intro x hx
  rcases List.mem_or_eq_of_mem_set (by simpa using hx) with q | rfl
  · exact h x (by simpa using q)
  · exact hv
theorem cells7 (a b : List Int) (m : Int) (ha : a.length = 3) (hb : b.length = 3) : (over (over [.int .i64 0, .int .i64 0, .int .i64 0, .int .i64 0, .int .i64 0, .int .i64 0, .int .i64 0] 0 (a.map vi)) 3 (b.map vi)).set 6 (.int .i64 m) = (a ++ b ++ [m]).map vi := by
  match a, ha, b, hb with
  | [a0, a1, a2], _, [b0, b1, b2], _ => rfl
set_option maxRecDepth 100000 in
set_option maxHeartbeats 16000000 in
theorem setup_any (c : Nat) (ws : List W) (e : Nat) (w : World) (h : Cr c ws e w) (hV : ∀ W, Below c w W → Vs W) (hws : ∀ x ∈ ws, x.text.length ≤ 100000) : Calls Tryd.prog 14 #[.pointer (some ⟨c, 0, none⟩)] w (SuP c ws e w) := by
  have hcl := h.lt
  have H := hid h
  have HV := hid hV
  have HWS := hid hws
  clear h hV hws
  go_enter Tryd.func14, Tryd.ntmps14
  go_upto_region 1 with (first
    | ((with_reducible refine pl_alloc 2 26 #[.int .i64 0, .int .i64 0, .int .i64 0, .int .i64 0, .int .i64 0, .int .i64 0, .int .i64 0] ?_ ?_ ?_ ?_ ?_); rfl; rfl; kernel_rfl; exact zero26; intro w1 b1 hb1 hu1 hv1 hs1; have H1 := hid (⟨hb1, hu1, hv1, hs1⟩ : _ ∧ _ ∧ _ ∧ _); clear hb1 hu1 hv1 hs1))
  have hcS : c < b1 := by have := H1.out; omega
  have I0 : Hid (SuI c b1 ws ws e [.int .i64 0, .int .i64 0, .int .i64 0, .int .i64 0, .int .i64 0, .int .i64 0, .int .i64 0] w w1) := by
    obtain ⟨p1, p2, p3, p4⟩ := H1.out
    exact ⟨Kp.of p2, H.out.up p2, p3, fun _ h => h⟩
  have ER : Hid (∀ (N : Nat) (Y' : Array Value) (w2 w3 : World) (y : Er), setupW ws e = .error y → Flt w2 (.iface 58 (.pointer (some ⟨N, 0, none⟩))) y → Kp (fun g => g = c ∨ g = b1) w w2 → w2.heap[b1]? = some (.cells Y' 26 (0, 0)) → Y'.size = 7 → Y'.all (·.oneCell') = true → Kp (fun g => g = b1) w2 w3 → SuP c ws e w (.returned (.tuple #[.agg Y', .iface 58 (.pointer (some ⟨N, 0, none⟩))])) w3) := fun N Y' w2 w3 y hy hf hk hs h7 h1 k3 => by
    have hb := H1.out.1
    refine ⟨(hk.mono (fun g hg q => ?_)).new k3 (by omega), ?_⟩
    · rcases q with q | q
      · exact q
      · omega
    · rw [hy]
      exact ⟨Y', _, rfl, hf.kp k3 (fun g cs q hc => by have q : g = b1 := q; rw [q, hs] at hc; cases hc), h7, h1⟩
  have T1 : tl ⟨#[98, 121, 116, 101, 115]⟩ = bytesT := by simp [tl, ByteArray.toList_eq, bytesT]
  have T2 : tl ⟨#[110, 97, 109, 101, 115]⟩ = namesT := by simp [tl, ByteArray.toList_eq, namesT]
  have T3 : tl ⟨#[109, 111, 115, 116]⟩ = mostT := by simp [tl, ByteArray.toList_eq, mostT]
  have C0 := I0.out.word hcS ⟨#[98, 121, 116, 101, 115]⟩
  rw [T1] at C0
  cases E0 : wordW bytesT ws e with
  | error y =>
    have C0 : Hid (Calls Tryd.prog 23 #[.pointer (some ⟨c, 0, none⟩), .string ⟨#[98, 121, 116, 101, 115]⟩] w1 fun E w2 => ∃ N, E = .returned (.iface 58 (.pointer (some ⟨N, 0, none⟩))) ∧ Flt w2 (.iface 58 (.pointer (some ⟨N, 0, none⟩))) y ∧ Kp (fun g => g = c ∨ g = b1) w w2 ∧ w2.heap[b1]? = some (.cells (([.int .i64 0, .int .i64 0, .int .i64 0, .int .i64 0, .int .i64 0, .int .i64 0, .int .i64 0] : List Value)).toArray 26 (0, 0))) := C0.mono (fun E w2 q => by rw [E0] at q; exact q)
    have HE := hid E0
    clear E0
    go_wp2_with (first
      | (go_at_call 23; refine C0.out.mono ?_; rintro E u1 ⟨N, rfl, f1, f2, f3⟩; have HU := hid (⟨f1, f2, f3⟩ : _ ∧ _ ∧ _); clear f1 f2 f3)
      | ((with_reducible refine pl_load 8 26 (.tmp 2) b1 0 (([.int .i64 0, .int .i64 0, .int .i64 0, .int .i64 0, .int .i64 0, .int .i64 0, .int .i64 0] : List Value)).toArray _ ?_ ?_ ?_ ?_ ?_ Tryd.underlying26 ?_ ?_ ?_); rfl; rfl; kernel_rfl; rfl; exact (Lies.of_heap HU.out.2.2); rfl; exact siz26)
      | ((with_reducible refine pl_store 26 (.tmp 2) (.tmp 8) b1 (([.int .i64 0, .int .i64 0, .int .i64 0, .int .i64 0, .int .i64 0, .int .i64 0, .int .i64 0] : List Value)).toArray (([.int .i64 0, .int .i64 0, .int .i64 0, .int .i64 0, .int .i64 0, .int .i64 0, .int .i64 0] : List Value)).toArray ?_ ?_ ?_ ?_ ?_ ?_ ?_ ?_ ?_ ?_); rfl; rfl; kernel_rfl; rfl; rfl; exact HU.out.2.2; exact siz26; exact rfl; exact (by simp [Value.oneCell']); intro w9 k9 v9 s9; have H9 := hid (⟨k9, v9, s9⟩ : _ ∧ _ ∧ _); clear k9 v9 s9))
    refine bodyPost_ret (results_s (p := 2) (u := 3) rfl _ _ b1 (([.int .i64 0, .int .i64 0, .int .i64 0, .int .i64 0, .int .i64 0, .int .i64 0, .int .i64 0] : List Value)).toArray rfl H9.out.2.1 (rfl)) rfl ?_
    exact ER.out N _ u1 w9 y (by simp only [setupW, HE.out]) HU.out.1 HU.out.2.1 HU.out.2.2 (rfl) (by simp [Value.oneCell']) H9.out.1
  | ok ws1 =>
    have C0 : Hid (Calls Tryd.prog 23 #[.pointer (some ⟨c, 0, none⟩), .string ⟨#[98, 121, 116, 101, 115]⟩] w1 fun E w2 => E = .returned .nilIface ∧ SuI c b1 ws1 ws e [.int .i64 0, .int .i64 0, .int .i64 0, .int .i64 0, .int .i64 0, .int .i64 0, .int .i64 0] w w2) := C0.mono (fun E w2 q => by rw [E0] at q; exact q)
    have HE0 := hid E0
    clear E0
    go_upto_region 4 with (first
      | (go_at_call 23; refine C0.out.mono ?_; rintro E v1 ⟨rfl, f1⟩; have I1 := hid f1; clear f1))
    have C1 := I1.out.nums hcS hcl 0 (by omega) 0 1099511627776 HV.out HWS.out (by simp) (by simp [Value.oneCell'])
    cases E1 : numsW 0 1099511627776 3 ws1 e with
    | error y =>
      have C1 : Hid (Calls Tryd.prog 24 #[.pointer (some ⟨c, 0, none⟩), .slice (some ⟨b1, 0, none⟩) 3 3, .int .i64 0, .int .i64 1099511627776] v1 fun E w2 => ∃ N Y', E = .returned (.iface 58 (.pointer (some ⟨N, 0, none⟩))) ∧ Flt w2 (.iface 58 (.pointer (some ⟨N, 0, none⟩))) y ∧ Kp (fun g => g = c ∨ g = b1) w w2 ∧ w2.heap[b1]? = some (.cells Y' 26 (0, 0)) ∧ Y'.size = 7 ∧ Y'.all (·.oneCell') = true) := C1.mono (fun E w2 q => by rw [E1] at q; exact q)
      have HE := hid E1
      clear E1
      go_wp2_with (first
        | (go_at_call 24; refine C1.out.mono ?_; rintro E u1 ⟨N, Y', rfl, f1, f2, f3, f4, f5⟩; have HU := hid (⟨f1, f2, f3, f4, f5⟩ : _ ∧ _ ∧ _ ∧ _ ∧ _); clear f1 f2 f3 f4 f5)
        | ((with_reducible refine pl_load 17 26 (.tmp 2) b1 0 Y' _ ?_ ?_ ?_ ?_ ?_ Tryd.underlying26 ?_ ?_ ?_); rfl; rfl; kernel_rfl; rfl; exact (Lies.of_heap HU.out.2.2.1); rfl; exact (by rw [siz26, HU.out.2.2.2.1]))
        | ((with_reducible refine pl_store 26 (.tmp 2) (.tmp 17) b1 Y' Y' ?_ ?_ ?_ ?_ ?_ ?_ ?_ ?_ ?_ ?_); rfl; rfl; kernel_rfl; rfl; rfl; exact HU.out.2.2.1; exact (by rw [siz26, HU.out.2.2.2.1]); exact rfl; exact HU.out.2.2.2.2; intro w9 k9 v9 s9; have H9 := hid (⟨k9, v9, s9⟩ : _ ∧ _ ∧ _); clear k9 v9 s9))
      refine bodyPost_ret (results_s (p := 2) (u := 3) rfl _ _ b1 Y' rfl H9.out.2.1 HU.out.2.2.2.1) rfl ?_
      exact ER.out N _ u1 w9 y (by simp only [setupW, HE0.out, HE.out]) HU.out.1 HU.out.2.1 HU.out.2.2.1 HU.out.2.2.2.1 HU.out.2.2.2.2 H9.out.1
    | ok lr =>
      obtain ⟨l1, ws2⟩ := lr
      obtain ⟨Y1, hY1⟩ : ∃ Y1, Y1 = over [.int .i64 0, .int .i64 0, .int .i64 0, .int .i64 0, .int .i64 0, .int .i64 0, .int .i64 0] 0 (l1.map vi) := ⟨_, rfl⟩
      have C1 : Hid (Calls Tryd.prog 24 #[.pointer (some ⟨c, 0, none⟩), .slice (some ⟨b1, 0, none⟩) 3 3, .int .i64 0, .int .i64 1099511627776] v1 fun E w2 => E = .returned .nilIface ∧ SuI c b1 ws2 ws e Y1 w w2 ∧ l1.length = 3) := C1.mono (fun E w2 q => by rw [E1] at q; rw [hY1]; exact q)
      have HE1 := hid E1
      have HYo1 : Hid (Y1.toArray.all (·.oneCell') = true) := by rw [hY1]; exact over_all _ _ _ (by simp [Value.oneCell'])
      have HY1 := hid hY1
      clear E1 hY1
      go_upto_region 7 with (first
        | (go_at_call 24; refine C1.out.mono ?_; rintro E v2 ⟨rfl, f1, f2⟩; have I2 := hid f1; have HL1 := hid f2; clear f1 f2))
      have HYl1 : Hid (Y1.length = 7) := by
        rw [HY1.out, over_len _ _ _ (by have := HL1.out; simp; omega)]
        rfl
      have C2 := I2.out.word hcS ⟨#[110, 97, 109, 101, 115]⟩
      rw [T2] at C2
      cases E2 : wordW namesT ws2 e with
      | error y =>
        have C2 : Hid (Calls Tryd.prog 23 #[.pointer (some ⟨c, 0, none⟩), .string ⟨#[110, 97, 109, 101, 115]⟩] v2 fun E w2 => ∃ N, E = .returned (.iface 58 (.pointer (some ⟨N, 0, none⟩))) ∧ Flt w2 (.iface 58 (.pointer (some ⟨N, 0, none⟩))) y ∧ Kp (fun g => g = c ∨ g = b1) w w2 ∧ w2.heap[b1]? = some (.cells ((Y1 : List Value)).toArray 26 (0, 0))) := C2.mono (fun E w2 q => by rw [E2] at q; exact q)
        have HE := hid E2
        clear E2
        go_wp2_with (first
          | (go_at_call 23; refine C2.out.mono ?_; rintro E u1 ⟨N, rfl, f1, f2, f3⟩; have HU := hid (⟨f1, f2, f3⟩ : _ ∧ _ ∧ _); clear f1 f2 f3)
          | ((with_reducible refine pl_load 23 26 (.tmp 2) b1 0 ((Y1 : List Value)).toArray _ ?_ ?_ ?_ ?_ ?_ Tryd.underlying26 ?_ ?_ ?_); rfl; rfl; kernel_rfl; rfl; exact (Lies.of_heap HU.out.2.2); rfl; exact (by rw [siz26, List.size_toArray, HYl1.out]))
          | ((with_reducible refine pl_store 26 (.tmp 2) (.tmp 23) b1 ((Y1 : List Value)).toArray ((Y1 : List Value)).toArray ?_ ?_ ?_ ?_ ?_ ?_ ?_ ?_ ?_ ?_); rfl; rfl; kernel_rfl; rfl; rfl; exact HU.out.2.2; exact (by rw [siz26, List.size_toArray, HYl1.out]); exact rfl; exact HYo1.out; intro w9 k9 v9 s9; have H9 := hid (⟨k9, v9, s9⟩ : _ ∧ _ ∧ _); clear k9 v9 s9))
        refine bodyPost_ret (results_s (p := 2) (u := 3) rfl _ _ b1 ((Y1 : List Value)).toArray rfl H9.out.2.1 (by rw [List.size_toArray, HYl1.out])) rfl ?_
        exact ER.out N _ u1 w9 y (by simp only [setupW, HE0.out, HE1.out, HE.out]) HU.out.1 HU.out.2.1 HU.out.2.2 (by rw [List.size_toArray, HYl1.out]) HYo1.out H9.out.1
      | ok ws3 =>
        have C2 : Hid (Calls Tryd.prog 23 #[.pointer (some ⟨c, 0, none⟩), .string ⟨#[110, 97, 109, 101, 115]⟩] v2 fun E w2 => E = .returned .nilIface ∧ SuI c b1 ws3 ws e Y1 w w2) := C2.mono (fun E w2 q => by rw [E2] at q; exact q)
        have HE2 := hid E2
        clear E2
        go_upto_region 10 with (first
          | (go_at_call 23; refine C2.out.mono ?_; rintro E v3 ⟨rfl, f1⟩; have I3 := hid f1; clear f1))
        have C3 := I3.out.nums hcS hcl 3 (by omega) 0 2097152 HV.out HWS.out HYl1.out HYo1.out
        cases E3 : numsW 0 2097152 3 ws3 e with
        | error y =>
          have C3 : Hid (Calls Tryd.prog 24 #[.pointer (some ⟨c, 0, none⟩), .slice (some ⟨b1, 3, none⟩) 3 3, .int .i64 0, .int .i64 2097152] v3 fun E w2 => ∃ N Y', E = .returned (.iface 58 (.pointer (some ⟨N, 0, none⟩))) ∧ Flt w2 (.iface 58 (.pointer (some ⟨N, 0, none⟩))) y ∧ Kp (fun g => g = c ∨ g = b1) w w2 ∧ w2.heap[b1]? = some (.cells Y' 26 (0, 0)) ∧ Y'.size = 7 ∧ Y'.all (·.oneCell') = true) := C3.mono (fun E w2 q => by rw [E3] at q; exact q)
          have HE := hid E3
          clear E3
          go_wp2_with (first
            | (go_at_call 24; refine C3.out.mono ?_; rintro E u1 ⟨N, Y', rfl, f1, f2, f3, f4, f5⟩; have HU := hid (⟨f1, f2, f3, f4, f5⟩ : _ ∧ _ ∧ _ ∧ _ ∧ _); clear f1 f2 f3 f4 f5)
            | ((with_reducible refine pl_load 32 26 (.tmp 2) b1 0 Y' _ ?_ ?_ ?_ ?_ ?_ Tryd.underlying26 ?_ ?_ ?_); rfl; rfl; kernel_rfl; rfl; exact (Lies.of_heap HU.out.2.2.1); rfl; exact (by rw [siz26, HU.out.2.2.2.1]))
            | ((with_reducible refine pl_store 26 (.tmp 2) (.tmp 32) b1 Y' Y' ?_ ?_ ?_ ?_ ?_ ?_ ?_ ?_ ?_ ?_); rfl; rfl; kernel_rfl; rfl; rfl; exact HU.out.2.2.1; exact (by rw [siz26, HU.out.2.2.2.1]); exact rfl; exact HU.out.2.2.2.2; intro w9 k9 v9 s9; have H9 := hid (⟨k9, v9, s9⟩ : _ ∧ _ ∧ _); clear k9 v9 s9))
          refine bodyPost_ret (results_s (p := 2) (u := 3) rfl _ _ b1 Y' rfl H9.out.2.1 HU.out.2.2.2.1) rfl ?_
          exact ER.out N _ u1 w9 y (by simp only [setupW, HE0.out, HE1.out, HE2.out, HE.out]) HU.out.1 HU.out.2.1 HU.out.2.2.1 HU.out.2.2.2.1 HU.out.2.2.2.2 H9.out.1
        | ok lr =>
          obtain ⟨l3, ws4⟩ := lr
          obtain ⟨Y3, hY3⟩ : ∃ Y3, Y3 = over Y1 3 (l3.map vi) := ⟨_, rfl⟩
          have C3 : Hid (Calls Tryd.prog 24 #[.pointer (some ⟨c, 0, none⟩), .slice (some ⟨b1, 3, none⟩) 3 3, .int .i64 0, .int .i64 2097152] v3 fun E w2 => E = .returned .nilIface ∧ SuI c b1 ws4 ws e Y3 w w2 ∧ l3.length = 3) := C3.mono (fun E w2 q => by rw [E3] at q; rw [hY3]; exact q)
          have HE3 := hid E3
          have HYo3 : Hid (Y3.toArray.all (·.oneCell') = true) := by rw [hY3]; exact over_all _ _ _ HYo1.out
          have HY3 := hid hY3
          clear E3 hY3
          go_upto_region 13 with (first
            | (go_at_call 24; refine C3.out.mono ?_; rintro E v4 ⟨rfl, f1, f2⟩; have I4 := hid f1; have HL3 := hid f2; clear f1 f2))
          have HYl3 : Hid (Y3.length = 7) := by
            rw [HY3.out, over_len _ _ _ (by have := HL3.out; have := HYl1.out; simp; omega)]
            exact HYl1.out
          have C4 := I4.out.word hcS ⟨#[109, 111, 115, 116]⟩
          rw [T3] at C4
          cases E4 : wordW mostT ws4 e with
          | error y =>
            have C4 : Hid (Calls Tryd.prog 23 #[.pointer (some ⟨c, 0, none⟩), .string ⟨#[109, 111, 115, 116]⟩] v4 fun E w2 => ∃ N, E = .returned (.iface 58 (.pointer (some ⟨N, 0, none⟩))) ∧ Flt w2 (.iface 58 (.pointer (some ⟨N, 0, none⟩))) y ∧ Kp (fun g => g = c ∨ g = b1) w w2 ∧ w2.heap[b1]? = some (.cells ((Y3 : List Value)).toArray 26 (0, 0))) := C4.mono (fun E w2 q => by rw [E4] at q; exact q)
            have HE := hid E4
            clear E4
            go_wp2_with (first
              | (go_at_call 23; refine C4.out.mono ?_; rintro E u1 ⟨N, rfl, f1, f2, f3⟩; have HU := hid (⟨f1, f2, f3⟩ : _ ∧ _ ∧ _); clear f1 f2 f3)
              | ((with_reducible refine pl_load 38 26 (.tmp 2) b1 0 ((Y3 : List Value)).toArray _ ?_ ?_ ?_ ?_ ?_ Tryd.underlying26 ?_ ?_ ?_); rfl; rfl; kernel_rfl; rfl; exact (Lies.of_heap HU.out.2.2); rfl; exact (by rw [siz26, List.size_toArray, HYl3.out]))
              | ((with_reducible refine pl_store 26 (.tmp 2) (.tmp 38) b1 ((Y3 : List Value)).toArray ((Y3 : List Value)).toArray ?_ ?_ ?_ ?_ ?_ ?_ ?_ ?_ ?_ ?_); rfl; rfl; kernel_rfl; rfl; rfl; exact HU.out.2.2; exact (by rw [siz26, List.size_toArray, HYl3.out]); exact rfl; exact HYo3.out; intro w9 k9 v9 s9; have H9 := hid (⟨k9, v9, s9⟩ : _ ∧ _ ∧ _); clear k9 v9 s9))
            refine bodyPost_ret (results_s (p := 2) (u := 3) rfl _ _ b1 ((Y3 : List Value)).toArray rfl H9.out.2.1 (by rw [List.size_toArray, HYl3.out])) rfl ?_
            exact ER.out N _ u1 w9 y (by simp only [setupW, HE0.out, HE1.out, HE2.out, HE3.out, HE.out]) HU.out.1 HU.out.2.1 HU.out.2.2 (by rw [List.size_toArray, HYl3.out]) HYo3.out H9.out.1
          | ok ws5 =>
            have C4 : Hid (Calls Tryd.prog 23 #[.pointer (some ⟨c, 0, none⟩), .string ⟨#[109, 111, 115, 116]⟩] v4 fun E w2 => E = .returned .nilIface ∧ SuI c b1 ws5 ws e Y3 w w2) := C4.mono (fun E w2 q => by rw [E4] at q; exact q)
            have HE4 := hid E4
            clear E4
            go_upto_region 16 with (first
              | (go_at_call 23; refine C4.out.mono ?_; rintro E v5 ⟨rfl, f1⟩; have I5 := hid f1; clear f1))
            have CN := number_any c (-1099511627776) 1099511627776 ws5 e v5 I5.out.cr (fun W k => HV.out W ((I5.out.kp.below (by omega) (fun g q => by omega)).trans k)) (fun x hx => HWS.out x (I5.out.sub x hx))
            cases E5 : numW (-1099511627776) 1099511627776 ws5 e with
            | error y =>
              have CN : Hid (Calls Tryd.prog 25 #[.pointer (some ⟨c, 0, none⟩), .int .i64 (-1099511627776), .int .i64 1099511627776] v5 fun E w' => ∃ N, E = .returned (.tuple #[.int .i64 0, .iface 58 (.pointer (some ⟨N, 0, none⟩))]) ∧ Kp (fun g => g = c) v5 w' ∧ Flt w' (.iface 58 (.pointer (some ⟨N, 0, none⟩))) y) := CN.mono (by
                rintro E w' ⟨k1, k2⟩
                rw [E5] at k2
                obtain ⟨v, rfl, N, rfl, hN⟩ := k2
                exact ⟨N, rfl, k1, N, rfl, hN⟩)
              have HE := hid E5
              clear E5
              obtain ⟨Y5, hY5⟩ : ∃ Y5, Y5 = (Y3.set 6 (.int .i64 0)) := ⟨_, rfl⟩
              have HYl5 : Hid (Y5.length = 7) := by rw [hY5, List.length_set]; exact HYl3.out
              have HYo5 : Hid (Y5.toArray.all (·.oneCell') = true) := by rw [hY5]; exact set_all _ _ _ HYo3.out rfl
              have HY5 := hid hY5
              clear hY5
              go_wp2_with (first
                | (go_at_call 25; refine CN.out.mono ?_; rintro E u1 ⟨N, rfl, k1, f1⟩; have hS1 := (k1.block b1 (Array.getElem?_eq_some_iff.1 I5.out.st).1 (by omega)).trans I5.out.st; have hcc := cell_some hS1 (j := 6) (by rw [HYl3.out]; decide); have hfz : u1.frozen? ⟨b1, 6, none⟩ = false := (by simp [World.frozen?, hS1]); obtain ⟨o9, hcc⟩ := hcc; obtain ⟨u2, hu2⟩ : ∃ u2, u2 = u1.setCell ⟨b1, 6, none⟩ (.int .i64 0) := ⟨_, rfl⟩; have hu3 : Kp (fun g => g = b1) u1 u2 ∧ u2.heap[b1]? = some (.cells Y5.toArray 26 (0, 0)) := (by rw [hu2]; exact ⟨Kp.set _ _ _ _, by rw [heap_setCell_at _ hS1, List.setIfInBounds_toArray, HY5.out]⟩); have HU := hid (⟨f1, k1, hS1, hu3, hu2⟩ : _ ∧ _ ∧ _ ∧ _ ∧ _); clear f1 k1 hS1 hu3 hu2)
                | ((with_reducible refine st_at 3 (.tmp 45) (.tmp 43) u2 ?_ ?_ ?_ ?_ ?_); rfl; rfl; kernel_rfl; (rw [HU.out.2.2.2.2]; unfold execOp; simp [hcc, hfz, go_sem]))
                | ((with_reducible refine pl_load 48 26 (.tmp 2) b1 0 Y5.toArray _ ?_ ?_ ?_ ?_ ?_ Tryd.underlying26 ?_ ?_ ?_); rfl; rfl; kernel_rfl; rfl; exact (Lies.of_heap HU.out.2.2.2.1.2); rfl; exact (by rw [siz26, List.size_toArray, HYl5.out]))
                | ((with_reducible refine pl_store 26 (.tmp 2) (.tmp 48) b1 Y5.toArray Y5.toArray ?_ ?_ ?_ ?_ ?_ ?_ ?_ ?_ ?_ ?_); rfl; rfl; kernel_rfl; rfl; rfl; exact HU.out.2.2.2.1.2; exact (by rw [siz26, List.size_toArray, HYl5.out]); exact rfl; exact HYo5.out; intro w9 k9 v9 s9; have H9 := hid (⟨k9, v9, s9⟩ : _ ∧ _ ∧ _); clear k9 v9 s9))
              refine bodyPost_ret (results_s (p := 2) (u := 3) rfl _ _ b1 Y5.toArray rfl H9.out.2.1 (by rw [List.size_toArray, HYl5.out])) rfl ?_
              obtain ⟨f1, k1, hS1, hu3, hu2⟩ := HU.out
              exact ER.out N _ u2 w9 y (by simp only [setupW, HE0.out, HE1.out, HE2.out, HE3.out, HE4.out, HE.out]) (f1.kp hu3.1 (fun g cs q hc => by have q : g = b1 := q; rw [q, hS1] at hc; cases hc)) ((I5.out.kp.snd (k1.mono fun g _ q => Or.inl q)).snd (hu3.1.mono fun g _ q => Or.inr q)) hu3.2 (by rw [List.size_toArray, HYl5.out]) HYo5.out H9.out.1
            | ok nr =>
              obtain ⟨m, ws6⟩ := nr
              have CN : Hid (Calls Tryd.prog 25 #[.pointer (some ⟨c, 0, none⟩), .int .i64 (-1099511627776), .int .i64 1099511627776] v5 fun E w' => E = .returned (.tuple #[.int .i64 m, .nilIface]) ∧ Kp (fun g => g = c) v5 w' ∧ Cr c ws6 e w') := CN.mono (by
                rintro E w' ⟨k1, k2⟩
                rw [E5] at k2
                exact ⟨k2.1, k1, k2.2⟩)
              have HE5 := hid E5
              clear E5
              obtain ⟨Y5, hY5⟩ : ∃ Y5, Y5 = (Y3.set 6 (.int .i64 m)) := ⟨_, rfl⟩
              have hYl5 : Y5.toArray.size = 7 := by rw [hY5, List.size_toArray, List.length_set]; exact HYl3.out
              have hYo5 : Y5.toArray.all (·.oneCell') = true := by rw [hY5]; exact set_all _ _ _ HYo3.out rfl
              have HY5 := hid hY5
              have HYY := hid (⟨hYl5, hYo5⟩ : _ ∧ _)
              clear hY5 hYl5 hYo5
              go_upto_region 19 with (first
                | (go_at_call 25; refine CN.out.mono ?_; rintro E u1 ⟨rfl, k1, f1⟩; have hS1 := (k1.block b1 (Array.getElem?_eq_some_iff.1 I5.out.st).1 (by omega)).trans I5.out.st; have hcc := cell_some hS1 (j := 6) (by rw [HYl3.out]; decide); have hfz : u1.frozen? ⟨b1, 6, none⟩ = false := (by simp [World.frozen?, hS1]); obtain ⟨o9, hcc⟩ := hcc; obtain ⟨u2, hu2⟩ : ∃ u2, u2 = u1.setCell ⟨b1, 6, none⟩ (.int .i64 m) := ⟨_, rfl⟩; have hu3 : Kp (fun g => g = b1) u1 u2 ∧ u2.heap[b1]? = some (.cells Y5.toArray 26 (0, 0)) := (by rw [hu2]; exact ⟨Kp.set _ _ _ _, by rw [heap_setCell_at _ hS1, List.setIfInBounds_toArray, HY5.out]⟩); have HU := hid (⟨f1, k1, hS1, hu3, hu2⟩ : _ ∧ _ ∧ _ ∧ _ ∧ _); clear f1 k1 hS1 hu3 hu2)
                | ((with_reducible refine st_at 3 (.tmp 45) (.tmp 43) u2 ?_ ?_ ?_ ?_ ?_); rfl; rfl; kernel_rfl; (rw [HU.out.2.2.2.2]; unfold execOp; simp [hcc, hfz, go_sem])))
              have hU2 : Kp (fun g => g = c ∨ g = b1) w u2 ∧ Cr c ws6 e u2 ∧ u2.heap[b1]? = some (.cells Y5.toArray 26 (0, 0)) := by
                obtain ⟨f1, k1, hS1, hu3, hu2⟩ := HU.out
                exact ⟨(I5.out.kp.snd (k1.mono fun g _ q => Or.inl q)).snd (hu3.1.mono fun g _ q => Or.inr q), f1.kp hu3.1 (by omega) (fun g cs f q hc => by have q : g = b1 := q; rw [q, hS1] at hc; cases hc), hu3.2⟩
              have HU2 := hid hU2
              clear hU2
              refine regt19 c b1 Y5.toArray (fun _ W => G u2 W) (fun r W => G u2 W ∧ RsP ws6 u2 (.returned (r 1)) W) (fun r W => ∃ W0, G u2 W0 ∧ RsP ws6 u2 (.returned (r 1)) W0 ∧ Kp (fun g => g = b1) W0 W ∧ W.heap[b1]? = some (.cells Y5.toArray 26 (0, 0)))
                (fun W => W.heap[b1]? = some (.cells Y5.toArray 26 (0, 0))) _ u2 rfl rfl rfl HYY.out.1 HYY.out.2 ?b0 ?b1 ?c1 ?c2 ?l0 ?st ?fin
              case b0 => exact fun _ W q => (q.block b1 (Array.getElem?_eq_some_iff.1 HU2.out.2.2).1).trans HU2.out.2.2
              case b1 => exact fun _ W q => (q.1.block b1 (Array.getElem?_eq_some_iff.1 HU2.out.2.2).1).trans HU2.out.2.2
              case c1 =>
                intro r W q
                refine (rest_any c ws6 e W (HU2.out.2.1.up q)).mono ?_
                rintro E w' ⟨g1, g2⟩
                cases hr : restW ws6 with
                | none =>
                  rw [hr] at g2
                  subst g2
                  exact ⟨_, rfl, G.tr q g1, G.tr q g1, by rw [hr, ups_same]⟩
                | some y =>
                  rw [hr] at g2
                  obtain ⟨v, rfl, hf⟩ := g2
                  exact ⟨v, rfl, G.tr q g1, G.tr q g1, by rw [hr]; exact ⟨v, by rw [ups_same], hf⟩⟩
              case c2 =>
                rintro r W ⟨q1, q2⟩
                have hb := (q1.block b1 (Array.getElem?_eq_some_iff.1 HU2.out.2.2).1).trans HU2.out.2.2
                exact ⟨_, hb, HYY.out.1, W, q1, q2, ⟨rfl, rfl, rfl, by simp, fun b _ hn => setRow_other _ b1 b _ hn⟩, setRow_heap _ _ _ _ _ _ hb⟩
              case l0 => exact fun W q => Lies.of_heap q
              case st => exact fun _ => G.drew u2
              case fin =>
                rintro r W ⟨W0, q1, q2, q3, q4⟩
                rw [foldt19]
                have HQ := hid (⟨q1, q2, q3, q4⟩ : _ ∧ _ ∧ _ ∧ _)
                clear q1 q2 q3 q4
                generalize r 1 = v1 at *
                go_simp
                go_wp2
                refine bodyPost_ret (results_s (p := 2) (u := 3) rfl _ _ b1 Y5.toArray rfl HQ.out.2.2.2 HYY.out.1) rfl ?_
                obtain ⟨q1, ⟨_, q2⟩, q3, q4⟩ := HQ.out
                have hkk : Kp (fun g => g = c) w W := by
                  have hb := H1.out.1
                  refine ((HU2.out.1.mono (fun g hg q => ?_)).snd (Kp.of q1)).new q3 (by omega)
                  rcases q with q | q
                  · exact q
                  · omega
                have hb0 : W0.heap[b1]? = some (.cells Y5.toArray 26 (0, 0)) := (q1.block b1 (Array.getElem?_eq_some_iff.1 HU2.out.2.2).1).trans HU2.out.2.2
                refine ⟨hkk, ?_⟩
                cases hr : restW ws6 with
                | none =>
                  rw [hr] at q2
                  injection q2 with q2
                  subst q2
                  simp only [setupW, HE0.out, HE1.out, HE2.out, HE3.out, HE4.out, HE5.out, hr]
                  have hY : Y5 = (l1 ++ l3 ++ [m]).map vi := by
                    rw [HY5.out, HY3.out, HY1.out]
                    exact cells7 l1 l3 m HL1.out HL3.out
                  rw [← hY]
                  exact ⟨rfl, by have := HL1.out; have := HL3.out; simp; omega⟩
                | some y =>
                  rw [hr] at q2
                  obtain ⟨v, q2, hf⟩ := q2
                  injection q2 with q2
                  subst q2
                  simp only [setupW, HE0.out, HE1.out, HE2.out, HE3.out, HE4.out, HE5.out, hr]
                  exact ⟨_, _, rfl, hf.kp q3 (fun g cs q hc => by have q : g = b1 := q; rw [q, hb0] at hc; cases hc), HYY.out⟩
end Go.Proofs.YtfigneaaeakbcaaDoor
