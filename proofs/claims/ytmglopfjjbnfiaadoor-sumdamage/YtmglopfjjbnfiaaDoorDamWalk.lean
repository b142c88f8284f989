/-
  twinelaw2.SumDamage: the walk.
-/
import Derived.Test.YtmglopfjjbnfiaaDoorTurned
namespace Go.Proofs.YtmglopfjjbnfiaaDoor
open Go.RowKit

theorem dam_raw {L O : List Nat} {z p : Nat} (hO : O.length = L.length) (bO : Bytes O) (bL : Bytes L) (hne : ¬ O = L) (hz : z < 4294967296) (hp : p ≤ 8 * L.length) (hx : Crc.num O ^^^ Crc.num L = z * 2 ^ p) (x : Nat) : Crc.raw x O ≠ Crc.raw x L := by
  refine Crc.burst O L x z p hO hz ?_ hp hx
  intro h0
  rw [h0, Nat.zero_mul] at hx
  have h2 := congrArg (· ^^^ Crc.num L) hx
  simp only [Nat.xor_assoc, Nat.xor_self, Nat.xor_zero, Nat.zero_xor] at h2
  exact hne (num_inj O L hO bO bL h2)
theorem dam_crc {L O : List Nat} {z p : Nat} (hO : O.length = L.length) (bO : Bytes O) (bL : Bytes L) (hne : ¬ O = L) (hz : z < 4294967296) (hp : p ≤ 8 * L.length) (hx : Crc.num O ^^^ Crc.num L = z * 2 ^ p) : Crc.crc O ≠ Crc.crc L := by
  intro e
  refine dam_raw hO bO bL hne hz hp hx Crc.ones ?_
  unfold Crc.crc at e
  have := congrArg (· ^^^ Crc.ones) e
  simpa [Nat.xor_assoc] using this
theorem bytes_four (n : Nat) : Bytes (Crc.four n) := by
  intro x hx; simp only [Crc.four, List.mem_cons, List.not_mem_nil, or_false] at hx; omega
theorem dam_sum {L O : List Nat} {z p : Nat} (bL : Bytes L) (bO : Bytes O) (hO : O.length = (L ++ Crc.four (Crc.crc L)).length) (hne : ¬ O = L ++ Crc.four (Crc.crc L)) (hz : z < 4294967296) (hp : p ≤ 8 * (L ++ Crc.four (Crc.crc L)).length) (hx : Crc.num O ^^^ Crc.num (L ++ Crc.four (Crc.crc L)) = z * 2 ^ p) :
    ¬ O.drop L.length = Crc.four (Crc.crc (O.take L.length)) := by
  intro e
  have bT : Bytes (L ++ Crc.four (Crc.crc L)) := fun x hx => by
    rcases List.mem_append.1 hx with h | h
    · exact bL x h
    · exact bytes_four _ x h
  refine dam_raw hO bO bT hne hz hp hx Crc.ones ?_
  have h1 : O = O.take L.length ++ Crc.four (Crc.crc (O.take L.length)) := by rw [← e, List.take_append_drop]
  rw [h1, Crc.raw_sum (fun c hc => bO c (List.mem_of_mem_take hc)), Crc.raw_sum bL]

set_option maxHeartbeats 4000000 in
set_option maxRecDepth 100000 in
theorem dam_short (ao : Option Addr) (cap : Nat) (L : List Nat) (at0 : Int) (b : Nat) (w : World) (hL : Has w (.slice ao L.length cap) L) (hB : Bytes L) (hl : L.length ≤ 32768) (hb : b < 4294967296) (hT : Tabs w) :
    Calls Tryd.prog 7 #[.slice ao L.length cap, .int .i64 at0, .int .u32 (b : Int)] w fun e w' => e = .returned (.bool true) ∧ Below w.heap.size w w' := by
  have HL : Hid (Has w (.slice ao L.length cap) L ∧ Bytes L) := ⟨hL, hB⟩
  have HT : Hid (Tabs w) := hT
  obtain ⟨n, hn⟩ : ∃ n, n = L.length := ⟨_, rfl⟩
  have HN : Hid (n = L.length) := hn
  have KK : Hid (Calls Tryd.prog 29 #[] w fun e w' => e = .returned (.bool true) ∧ Below w.heap.size w w') := known_any w hT
  have KT : Hid (∀ wz, Below w.heap.size w wz → Calls Tryd.prog 36 #[.slice ao n cap, .int .i64 at0, .int .u32 (b : Int)] wz fun e w' => ∃ (O : List Nat) (oo : Option Addr) (oc : Nat), e = .returned (.tuple #[.slice oo O.length oc, .bool (!decide (O = L))]) ∧ (Has w' (.slice oo O.length oc) O ∧ Bytes O ∧ O.length = L.length ∧ Below w.heap.size w w' ∧ (¬ O = L → Crc.crc O ≠ Crc.crc L))) := fun wz hz => by
    rw [hn]
    refine (turned_fn ao cap L at0 b wz (hL.below hz) hB (by omega) hb).mono fun e w' ⟨O, oo, oc, z, p, h1, h2, h3, h4, h5, h6, h7, h8⟩ => ⟨O, oo, oc, h1, h2, h3, h4, Below.up hz h8, fun hne => dam_crc h4 h3 hB hne h5 h6 h7⟩
  have KC : Hid (∀ wz v l, Below w.heap.size w wz → Has wz v l → Bytes l → l.length ≤ 40000 → Calls Tryd.prog 20 #[v] wz fun e w' => e = .returned (.int .u32 ((Crc.crc l : Nat) : Int)) ∧ wz = w') := fun wz v l hz hv hb' hl' => (crc_any v l wz hv hb' (hT.up hz) (by omega)).mono fun _ _ h => ⟨h.1, h.2.symm⟩
  have KF : Hid (∀ wz x, x < 4294967296 → Below w.heap.size w wz → Calls Tryd.prog 37 #[.int .u32 ((x : Nat) : Int)] wz fun e w' => e = .returned (.slice (some ⟨wz.heap.size, 0, none⟩) 4 4) ∧ (Has w' (.slice (some ⟨wz.heap.size, 0, none⟩) 4 4) (Crc.four x) ∧ Below wz.heap.size wz w' ∧ Below w.heap.size w w')) := fun wz x hx hz => (four_any x wz hx).mono fun e w' ⟨h1, h2, h3⟩ => ⟨h1, h2, h3, Below.up hz h3⟩
  have hnI : ¬ ((32768 : Int) < (n : Int)) := by omega
  rw [← hn]
  obtain ⟨c0, hc0, lc0⟩ : ∃ c0, Hid (c0 = Crc.crc L) ∧ c0 < 4294967296 := ⟨_, rfl, Crc.crc_lt hB⟩
  have HTL : Hid (n + 4 = (L ++ Crc.four c0).length) := by show _ = _; rw [hn, List.length_append]; rfl
  have KC0 : Hid (∀ wz, Below w.heap.size w wz → Calls Tryd.prog 20 #[.slice ao n cap] wz fun e w' => e = .returned (.int .u32 (c0 : Int)) ∧ wz = w') := fun wz hz => by
    rw [hc0.out, hn]; exact KC.out _ _ _ hz (hL.below hz) hB (by omega)
  have KT5 : Hid (∀ wz xo xc, Has wz (.slice xo (n + 4) xc) (L ++ Crc.four c0) → Below w.heap.size w wz → Calls Tryd.prog 36 #[.slice xo (n + 4) xc, .int .i64 at0, .int .u32 (b : Int)] wz fun e w' => ∃ (O : List Nat) (d : Bool) (y : Nat) (oo : Option Addr) (oc : Nat), e = .returned (.tuple #[.slice oo y oc, .bool (!d)]) ∧ (Has w' (.slice oo y oc) O ∧ y = O.length ∧ Bytes O ∧ O.length = (n + 4) ∧ d = decide (O = L ++ Crc.four c0) ∧ (¬ O = L ++ Crc.four c0 → ¬ O.drop L.length = Crc.four (Crc.crc (O.take L.length))) ∧ Below w.heap.size w w')) := fun wz xo xc hz1 hz2 => by
    have bT : Bytes (L ++ Crc.four c0) := fun x hx => by
      rcases List.mem_append.1 hx with h | h
      · exact hB x h
      · exact bytes_four _ x h
    rw [HTL.out] at hz1 ⊢
    refine (turned_fn xo xc (L ++ Crc.four c0) at0 b wz hz1 bT (by rw [← HTL.out]; omega) hb).mono fun e w' ⟨O, oo, oc, z, p, h1, h2, h3, h4, h5, h6, h7, h8⟩ => ⟨O, _, _, oo, oc, h1, h2, rfl, h3, h4, rfl, fun hne => ?_, Below.up hz2 h8⟩
    rw [hc0.out] at hne h4 h6 h7
    exact dam_sum hB h3 h4 hne h5 h6 h7
  clear hL hB hT hn
  go_enter Tryd.func7, Tryd.ntmps7
  go_upto_region 6 with (first | (go_at_call 29; refine KK.out.mono ?_; rintro e w1 ⟨rfl, hb1⟩; have HB1 : Hid (Below w.heap.size w w1) := hb1; clear hb1) | (go_at_call 36; refine (KT.out _ HB1.out).mono ?_; rintro e w2 ⟨O1, oo1, oc1, rfl, h2⟩; have H2 : Hid (Has w2 (.slice oo1 O1.length oc1) O1 ∧ Bytes O1 ∧ O1.length = L.length ∧ Below w.heap.size w w2 ∧ (¬ O1 = L → Crc.crc O1 ≠ Crc.crc L)) := h2; clear h2))
  go_cut [31] from 24 (fun s wf => s = .bool false ∧ wf = w2)
  case first =>
    by_cases e1 : O1 = L
    · have hd : decide (O1 = L) = true := by simp [e1]
      clear e1
      generalize decide (O1 = L) = d1 at *
      subst hd
      go_wp2_with fail
      go_meet
      case rel => exact ⟨rfl, rfl⟩
    · have hd : decide (O1 = L) = false := by simp [e1]
      obtain ⟨q1, Q1⟩ : ∃ q1, Hid (q1 = Crc.crc O1) := ⟨_, rfl⟩
      obtain ⟨q2, Q2⟩ : ∃ q2, Hid (q2 = Crc.crc L) := ⟨_, rfl⟩
      have hne : (((q1 : Nat) : Int) == ((q2 : Nat) : Int)) = false := by
        have h := H2.out.2.2.2.2 e1
        rw [← Q1.out, ← Q2.out] at h
        simp; omega
      have C1 : Hid (Calls Tryd.prog 20 #[.slice oo1 O1.length oc1] w2 fun e w' => e = .returned (.int .u32 (q1 : Int)) ∧ w2 = w') := by rw [Q1.out]; exact KC.out _ _ _ H2.out.2.2.2.1 H2.out.1 H2.out.2.1 (by rw [H2.out.2.2.1]; omega)
      have C2 : Hid (Calls Tryd.prog 20 #[.slice ao n cap] w2 fun e w' => e = .returned (.int .u32 (q2 : Int)) ∧ w2 = w') := by rw [Q2.out, HN.out]; exact KC.out _ _ _ H2.out.2.2.2.1 (HL.out.1.below H2.out.2.2.2.1) HL.out.2 (by omega)
      clear e1
      generalize decide (O1 = L) = d1 at *
      subst hd
      go_wp2_with (first | (go_at_call_of 20 (Value.slice oo1 O1.length oc1); refine C1.out.mono ?_; rintro e w' ⟨rfl, rfl⟩) | (go_at_call_of 20 (Value.slice ao n cap); refine C2.out.mono ?_; rintro e w' ⟨rfl, rfl⟩))
      go_meet
      case rel => exact ⟨rfl, rfl⟩
  case rest =>
    obtain ⟨rfl, rfl⟩ := hcut
    have HW2 : Hid (Below w.heap.size w wc ∧ Has wc (.slice ao n cap) L) := ⟨H2.out.2.2.2.1, by rw [HN.out]; exact HL.out.1.below H2.out.2.2.2.1⟩
    clear H2 KK
    go_upto_region 9 with (first
      | (at_builtin; refine wpList_append_has rfl (.const (.slice none 0 0)) (.tmp 33) rfl w.heap.size _ _ [] L rfl rfl (Owns.nil _ _) HW2.out.2 (by simp; omega) HW2.out.1.size ?_; intro v3 w3 ho3 hb3; rw [List.nil_append] at ho3; obtain ⟨xo3, xc3, hv3, _⟩ := ho3.has.form; subst hv3; have H3 : Hid (Owns w3 w.heap.size (.slice xo3 L.length xc3) L ∧ Below w.heap.size w w3) := ⟨ho3, HW2.out.1.trans hb3⟩; clear ho3 hb3)
      | (go_at_call 20; refine (KC0.out w3 H3.out.2).mono ?_; rintro e w' ⟨rfl, rfl⟩)
      | (go_at_call 37; refine (KF.out w3 c0 lc0 H3.out.2).mono ?_; rintro e w4 ⟨rfl, h4⟩; have H4 : Hid (Has w4 (.slice (some ⟨w3.heap.size, 0, none⟩) 4 4) (Crc.four c0) ∧ Owns w4 w.heap.size (.slice xo3 L.length xc3) L ∧ Below w.heap.size w w4) := ⟨h4.1, H3.out.1.below h4.2.1 (Nat.le_refl _), h4.2.2⟩; clear h4)
      | (at_builtin; refine wpList_append_has rfl (.tmp 34) (.tmp 37) rfl w.heap.size _ _ L (Crc.four c0) rfl rfl H4.out.2.1 H4.out.1 (by simp [Crc.four]; omega) H4.out.2.2.size ?_; intro v5 w5 ho5 hb5; obtain ⟨xo5, xc5, hv5, _⟩ := ho5.has.form; have h55 := ho5.has; rw [hv5] at h55; rw [← HTL.out] at hv5 h55; subst hv5; have H5 : Hid (Has w5 (.slice xo5 (n + 4) xc5) (L ++ Crc.four c0) ∧ Below w.heap.size w w5) := ⟨h55, H4.out.2.2.trans hb5⟩; clear ho5 hb5 h55)
      | (go_at_call 36; refine (KT5.out w5 xo5 xc5 H5.out.1 H5.out.2).mono ?_; rintro e w6 ⟨O2, d2, y2, oo2, oc2, rfl, h6⟩; have H6 : Hid (Has w6 (.slice oo2 y2 oc2) O2 ∧ y2 = O2.length ∧ Bytes O2 ∧ O2.length = (n + 4) ∧ d2 = decide (O2 = L ++ Crc.four c0) ∧ (¬ O2 = L ++ Crc.four c0 → ¬ O2.drop L.length = Crc.four (Crc.crc (O2.take L.length))) ∧ Below w.heap.size w w6) := h6; clear h6))
    have hy : y2 = n + 4 := by rw [H6.out.2.1, H6.out.2.2.2.1]
    subst hy
    have hI : ((n + 4 : Nat) : Int) - 4 = (n : Int) := by omega
    go_upto_region 10 with fail
    have HB6 : Hid (Below w.heap.size w w6.drew) := by
      obtain ⟨h1, h2, h3, h4, h5⟩ := H6.out.2.2.2.2.2.2
      exact ⟨h1, h2, h3, h4, h5⟩
    have HH6 : Hid (Has w6.drew (.slice oo2 (n + 4) oc2) O2) := H6.out.1.heap rfl
    have HO2 : Hid (O2.length = n + 4 ∧ Bytes O2) := ⟨H6.out.2.2.2.1, H6.out.2.2.1⟩
    have HD : Hid (d2 = false → ¬ O2.drop n = Crc.four (Crc.crc (O2.take n))) := fun hd => by
      have h := H6.out
      rw [HN.out]
      refine h.2.2.2.2.2.1 ?_
      have h3 := h.2.2.2.2.1
      rw [hd] at h3
      exact of_decide_eq_false h3.symm
    clear H6 H5 H4 H3 HW2
    cases d2 with
    | true =>
      clear HD HH6 HO2
      refine wp_region_any (by kernel_rfl) ?_
      change wpAny _ _ _ _ _ _ _ (World.drew _)
      refine wpAny_take (i := 0) (v := .bool false) rfl (by kernel_rfl) (by kernel_rfl) (by kernel_rfl) (fun _ _ _ h => h) (Or.inl ⟨by kernel_rfl, ?_⟩) ?_
      · intro wz; go_simp
      refine wpAny_take (i := 1) (v := .bool true) rfl (by kernel_rfl) (by kernel_rfl) (by kernel_rfl) (fun _ _ _ h => h) (Or.inl ⟨by kernel_rfl, ?_⟩) ?_
      · intro wz; go_simp
      refine wpAny_take (i := 2) (v := .bool true) rfl (by kernel_rfl) (by kernel_rfl) (by kernel_rfl) (fun _ _ _ h => h) (Or.inl ⟨by kernel_rfl, ?_⟩) ?_
      · intro wz; go_simp
      refine wpAny_take (i := 3) (v := undef) rfl (by kernel_rfl) (by kernel_rfl) (by kernel_rfl) (fun _ _ _ h => h) (Or.inr ⟨by kernel_rfl, rfl⟩) ?_
      refine wpAny_take (i := 4) (v := undef) rfl (by kernel_rfl) (by kernel_rfl) (by kernel_rfl) (fun _ _ _ h => h) (Or.inr ⟨by kernel_rfl, rfl⟩) ?_
      refine wpAny_take (i := 5) (v := undef) rfl (by kernel_rfl) (by kernel_rfl) (by kernel_rfl) (fun _ _ _ h => h) (Or.inr ⟨by kernel_rfl, rfl⟩) ?_
      refine wpAny_take (i := 6) (v := undef) rfl (by kernel_rfl) (by kernel_rfl) (by kernel_rfl) (fun _ _ _ h => h) (Or.inr ⟨by kernel_rfl, rfl⟩) ?_
      refine wpAny_take (i := 7) (v := undef) rfl (by kernel_rfl) (by kernel_rfl) (by kernel_rfl) (fun _ _ _ h => h) (Or.inr ⟨by kernel_rfl, rfl⟩) ?_
      refine wpAny_take (i := 8) (v := undef) rfl (by kernel_rfl) (by kernel_rfl) (by kernel_rfl) (fun _ _ _ h => h) (Or.inr ⟨by kernel_rfl, rfl⟩) ?_
      refine wpAny_take (i := 9) (v := undef) rfl (by kernel_rfl) (by kernel_rfl) (by kernel_rfl) (fun _ _ _ h => h) (Or.inr ⟨by kernel_rfl, rfl⟩) ?_
      refine wpAny_take (i := 10) (v := undef) rfl (by kernel_rfl) (by kernel_rfl) (by kernel_rfl) (fun _ _ _ h => h) (Or.inr ⟨by kernel_rfl, rfl⟩) ?_
      refine wpAny_take (i := 11) (v := undef) rfl (by kernel_rfl) (by kernel_rfl) (by kernel_rfl) (fun _ _ _ h => h) (Or.inr ⟨by kernel_rfl, rfl⟩) ?_
      refine wpAny_take (i := 12) (v := undef) rfl (by kernel_rfl) (by kernel_rfl) (by kernel_rfl) (fun _ _ _ h => h) (Or.inr ⟨by kernel_rfl, rfl⟩) ?_
      refine wpAny_take (i := 13) (v := .bool true) rfl (by kernel_rfl) (by kernel_rfl) (by kernel_rfl) (fun _ _ _ h => h) (Or.inl ⟨by kernel_rfl, ?_⟩) ?_
      · intro wz; go_simp
      refine wpAny_take (i := 14) (v := .bool true) rfl (by kernel_rfl) (by kernel_rfl) (by kernel_rfl) (fun _ _ _ h => h) (Or.inl ⟨by kernel_rfl, ?_⟩) ?_
      · intro wz; go_simp
      refine wpAny_done (by kernel_rfl) ?_ _
      go_simp
      go_wp2
      go_ret
      exact ⟨rfl, HB6.out⟩
    | false =>
      have hne : ¬ O2.drop n = Crc.four (Crc.crc (O2.take n)) := HD.out rfl
      obtain ⟨q, HQ, hq⟩ : ∃ q, Hid (q = Crc.crc (O2.take n)) ∧ q < 4294967296 := ⟨_, rfl, Crc.crc_lt fun x hx => HO2.out.2 x (List.mem_of_mem_take hx)⟩
      rw [← HQ.out] at hne
      have HNE : Hid (¬ O2.drop n = Crc.four q) := hne
      obtain ⟨a2, _, ha2, _⟩ := HH6.out.at (k := 0) (by rw [HO2.out.1]; omega)
      obtain ⟨_, _, hf2, hc2⟩ := HH6.out.form
      simp only [Value.slice.injEq] at ha2 hf2
      obtain ⟨rfl, -, -⟩ := ha2
      obtain ⟨-, -, rfl⟩ := hf2
      have hS8 : ∀ wz, (Instr.sliceAt 43 (.slice (some a2) (n + 4) oc2) none (some (.int .i64 (n : Int))) none).run Tryd.prog wz = .ok (.slice (some a2) n oc2) wz := fun wz => slice43_h _ _ _ n (by omega) (by rw [HO2.out.1] at hc2; exact hc2) wz
      have H8 : Hid (Has w6.drew (.slice (some a2) n oc2) (O2.take n)) := by
        have h := HH6.out
        rw [← HO2.out.1] at h
        exact h.take n (by rw [HO2.out.1]; omega)
      obtain ⟨e5, c5, hS5, H5⟩ : ∃ e5 c5, (∀ wz, (Instr.sliceAt 43 (.slice (some a2) (n + 4) oc2) (some (.int .i64 (n : Int))) none none).run Tryd.prog wz = .ok (.slice (some e5) 4 c5) wz) ∧ Hid (Has w6.drew (.slice (some e5) 4 c5) (O2.drop n)) := by
        refine ⟨if oc2 = n then a2 else a2.add n, oc2 - n, fun wz => ?_, ?_⟩
        · have h := slice43 a2 (n + 4) oc2 n (by omega) wz
          rw [show n + 4 - n = 4 by omega] at h
          exact h
        · have h := HH6.out
          rw [← HO2.out.1] at h
          have h := h.drop n (by rw [HO2.out.1]; omega)
          rw [HO2.out.1, show n + 4 - n = 4 by omega] at h
          exact h
      have C9 : Hid (Calls Tryd.prog 20 #[.slice (some a2) n oc2] w6.drew fun e w' => e = .returned (.int .u32 (q : Int)) ∧ w6.drew = w') := by rw [HQ.out]; exact KC.out _ _ _ HB6.out H8.out (fun x hx => HO2.out.2 x (List.mem_of_mem_take hx)) (by rw [List.length_take, HO2.out.1]; omega)
      have C10 := KF.out w6.drew q hq HB6.out
      have HLD : Hid ((O2.drop n).length = 4) := by show _ = _; rw [List.length_drop, HO2.out.1]; omega
      have C10 : Hid (Calls Tryd.prog 37 #[.int .u32 (q : Int)] w6.drew fun e w' => e = .returned (.slice (some ⟨w6.heap.size, 0, none⟩) 4 4) ∧ (Has w' (.slice (some ⟨w6.heap.size, 0, none⟩) 4 4) (Crc.four q) ∧ Has w' (.slice (some e5) 4 c5) (O2.drop n) ∧ Below w.heap.size w w')) := C10.mono fun e w' ⟨h1, h2, h3, h4⟩ => ⟨h1, h2, H5.out.below h3, h4⟩
      clear hne HD HH6 HO2 hc2 KF KC H8 H5 KT KT5 KC0
      refine wp_region_any (by kernel_rfl) ?_
      change wpAny _ _ _ _ _ _ _ (World.drew _)
      refine wpAny_take (i := 0) (v := .bool true) rfl (by kernel_rfl) (by kernel_rfl) (by kernel_rfl) (fun _ _ _ h => h) (Or.inl ⟨by kernel_rfl, ?_⟩) ?_
      · intro wz; go_simp
      refine wpAny_take (i := 1) (v := .bool false) rfl (by kernel_rfl) (by kernel_rfl) (by kernel_rfl) (fun _ _ _ h => h) (Or.inl ⟨by kernel_rfl, ?_⟩) ?_
      · intro wz; go_simp
      refine wpAny_take (i := 2) (v := .bool false) rfl (by kernel_rfl) (by kernel_rfl) (by kernel_rfl) (fun _ _ _ h => h) (Or.inl ⟨by kernel_rfl, ?_⟩) ?_
      · intro wz; go_simp
      refine wpAny_take (i := 3) (v := .slice (some a2) (n + 4) oc2) rfl (by kernel_rfl) (by kernel_rfl) (by kernel_rfl) (fun _ _ _ h => h) (Or.inl ⟨by kernel_rfl, ?_⟩) ?_
      · intro wz; go_simp
      refine wpAny_take (i := 4) (v := .int .i64 n) rfl (by kernel_rfl) (by kernel_rfl) (by kernel_rfl) (fun _ _ _ h => h) (Or.inl ⟨by kernel_rfl, ?_⟩) ?_
      · intro wz; go_simp
      refine wpAny_take (i := 5) (v := .slice (some e5) 4 c5) rfl (by kernel_rfl) (by kernel_rfl) (by kernel_rfl) (fun _ _ _ h => h) (Or.inl ⟨by kernel_rfl, ?_⟩) ?_
      · intro wz; go_simp
      refine wpAny_take (i := 6) (v := .slice (some a2) (n + 4) oc2) rfl (by kernel_rfl) (by kernel_rfl) (by kernel_rfl) (fun _ _ _ h => h) (Or.inl ⟨by kernel_rfl, ?_⟩) ?_
      · intro wz; go_simp
      refine wpAny_take (i := 7) (v := .int .i64 n) rfl (by kernel_rfl) (by kernel_rfl) (by kernel_rfl) (fun _ _ _ h => h) (Or.inl ⟨by kernel_rfl, ?_⟩) ?_
      · intro wz; go_simp
      refine wpAny_take (i := 8) (v := .slice (some a2) n oc2) rfl (by kernel_rfl) (by kernel_rfl) (by kernel_rfl) (fun _ _ _ h => h) (Or.inl ⟨by kernel_rfl, ?_⟩) ?_
      · intro wz; go_simp
      try simp only [Act.put, List.getElem_toArray, List.getElem_cons_zero, List.getElem_cons_succ, List.setIfInBounds_toArray, List.set_cons_zero, List.set_cons_succ]
      refine wpAny_ready (rs := [9]) (by kernel_rfl) (by simp) ?_
      refine AllReady.cons rfl (fun K' hK' => ?_) AllReady.nil
      go_simp
      refine C9.out.mono ?_
      rintro e w' ⟨rfl, rfl⟩
      refine hK' _ _ ?_
      clear hK' K'
      try simp only [Act.put, List.getElem_toArray, List.getElem_cons_zero, List.getElem_cons_succ, List.setIfInBounds_toArray, List.set_cons_zero, List.set_cons_succ]
      refine wpAny_ready (rs := [10]) (by kernel_rfl) (by simp) ?_
      refine AllReady.cons rfl (fun K' hK' => ?_) AllReady.nil
      go_simp
      refine C10.out.mono ?_
      rintro e w7 ⟨rfl, h7⟩
      have C11 : Hid (Calls Tryd.prog 22 #[.slice (some e5) 4 c5, .slice (some ⟨w6.heap.size, 0, none⟩) 4 4] w7 fun x w' => x = .returned (.bool false) ∧ Below w.heap.size w w') := (same_any _ _ _ _ w7 h7.2.1 h7.1 (by rw [HLD.out]; omega) (by simp [Crc.four])).mono fun x w' ⟨h1, k, h2⟩ => ⟨by rw [h1, decide_eq_false HNE.out], by rw [h2]; obtain ⟨g1, g2, g3, g4, g5⟩ := h7.2.2; exact ⟨g1, g2, g3, g4, g5⟩⟩
      clear h7 C9 C10
      refine hK' _ _ ?_
      clear hK' K'
      try simp only [Act.put, List.getElem_toArray, List.getElem_cons_zero, List.getElem_cons_succ, List.setIfInBounds_toArray, List.set_cons_zero, List.set_cons_succ]
      refine wpAny_ready (rs := [11]) (by kernel_rfl) (by simp) ?_
      refine AllReady.cons rfl (fun K' hK' => ?_) AllReady.nil
      go_simp
      refine C11.out.mono ?_
      rintro e w8 ⟨rfl, h8⟩
      have H8 : Hid (Below w.heap.size w w8) := h8
      clear h8
      refine hK' _ _ ?_
      clear hK' K'
      try simp only [Act.put, List.getElem_toArray, List.getElem_cons_zero, List.getElem_cons_succ, List.setIfInBounds_toArray, List.set_cons_zero, List.set_cons_succ]
      refine wpAny_take (i := 12) (v := .bool true) rfl (by kernel_rfl) (by kernel_rfl) (by kernel_rfl) (fun _ _ _ h => h) (Or.inl ⟨by kernel_rfl, ?_⟩) ?_
      · intro wz; go_simp
      refine wpAny_take (i := 13) (v := .bool true) rfl (by kernel_rfl) (by kernel_rfl) (by kernel_rfl) (fun _ _ _ h => h) (Or.inl ⟨by kernel_rfl, ?_⟩) ?_
      · intro wz; go_simp
      refine wpAny_take (i := 14) (v := .bool true) rfl (by kernel_rfl) (by kernel_rfl) (by kernel_rfl) (fun _ _ _ h => h) (Or.inl ⟨by kernel_rfl, ?_⟩) ?_
      · intro wz; go_simp
      refine wpAny_done (by kernel_rfl) ?_ _
      go_simp
      go_wp2
      go_ret
      exact ⟨rfl, H8.out⟩
end Go.Proofs.YtmglopfjjbnfiaaDoor
