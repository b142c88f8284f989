/-
  the reference's Match by contract.
-/
import Derived.Test.YtpngnhpnjkepjaaGreatDoorRefPat
namespace Go.Proofs.YtpngnhpnjkepjaaGreatDoor
open Go.RowKit

set_option maxHeartbeats 2000000 in
set_option maxRecDepth 100000 in
theorem refMatch_any (s p : ByteArray) (w : World) (hs : s.size ≤ 1048576) (hp : p.size ≤ 1048576) :
    Calls Tryz.prog 13 #[.string s, .string p] w fun e w' => e = .returned (.tuple #[.bool (matchV (tl s) (tl p)).1, .int .i64 (matchV (tl s) (tl p)).2]) ∧ Below w.heap.size w w' := by
  have C37 := pattern_any s w hs
  have C22 := fun W => refSplit_any p W hp
  have HV : Hid (matchV (tl s) (tl p) = (if patOK (tl s) = false then (false, 32) else if splitE (tl p) 64 ≠ 0 then (false, splitE (tl p) 64) else if pieces (tl p) = [] then (false, 0)
    else (matchN (cuts (trimmed (tl s))) (if (47 : UInt8) ∈ tl s then pieces (tl p) else (pieces (tl p)).drop ((pieces (tl p)).length - 1)), 0))) := rfl
  obtain ⟨mv, hmv⟩ : ∃ mv, matchV (tl s) (tl p) = mv := ⟨_, rfl⟩
  rw [hmv] at HV ⊢
  clear hmv
  go_enter Tryz.func13, Tryz.ntmps13
  go_wp2_with fail
  refine C37.mono ?_
  rintro e w1 ⟨⟨hok, v, L, rfl, hown, hL⟩ | ⟨hno, ao, nn, cap, bb, rfl⟩, b1⟩
  · obtain ⟨dd, hdd⟩ : ∃ dd, decide ((47 : UInt8) ∈ tl s) = dd := ⟨_, rfl⟩
    rw [hdd]
    have HDD : Hid (decide ((47 : UInt8) ∈ tl s) = dd) := hdd
    clear hdd
    have hpl : ∀ x ∈ L, x.size ≤ 1048576 ∧ ∃ K, signsOf (tl x) = some K := by
      intro x hx
      have hm : tl x ∈ cuts (trimmed (tl s)) := by rw [← hL]; exact List.mem_map_of_mem hx
      have htr : (trimmed (tl s)).length ≤ s.size := by
        rw [← tl_len s]
        unfold trimmed
        split
        · rename_i h; rw [h]; simp
        · rename_i h; rw [h]; split <;> simp
      constructor
      · rw [← tl_len x]
        have : (tl x).length ≤ (trimmed (tl s)).length := by
          have h0 : trimmed (tl s) ≠ [] := by
            intro q; rw [q] at hm; unfold patOK at hok; rw [q] at hok; simp at hok
          exact pieces_small' _ _ (by unfold pieces; rw [if_neg h0]; exact hm)
        omega
      · have hsr : srB (trimmed (tl s)) = true := by
          unfold patOK at hok
          simp only [Bool.and_eq_true] at hok
          exact hok.1.2
        unfold srB at hsr
        cases e : scan false 0 (trimmed (tl s)) with
        | none => rw [e] at hsr; simp at hsr
        | some k =>
          rw [scan_cuts _ _ (Nat.le_refl _)] at e
          exact allStars_some e _ hm
    have hLn : L.length ≤ 1048577 := by
      have htr : (trimmed (tl s)).length ≤ s.size := by
        rw [← tl_len s]
        unfold trimmed
        split
        · rename_i h; rw [h]; simp
        · rename_i h; rw [h]; split <;> simp
      rw [← List.length_map (f := tl), hL, cuts_len]
      have := List.count_le_length (a := (47 : UInt8)) (l := trimmed (tl s)); omega
    have HPL : Hid (∀ x ∈ L, x.size ≤ 1048576 ∧ ∃ K, signsOf (tl x) = some K) := hpl
    have HV2 : Hid (mv = (if splitE (tl p) 64 ≠ 0 then (false, splitE (tl p) 64) else if pieces (tl p) = [] then (false, 0)
      else (matchN (L.map tl) (if (47 : UInt8) ∈ tl s then pieces (tl p) else (pieces (tl p)).drop ((pieces (tl p)).length - 1)), 0))) := by
      show _ = _
      rw [HV.out, if_neg (by rw [hok]; simp), hL]
    have HO : Hid (HasT w1 v L) := hown.has
    have B1 : Hid (Below w.heap.size w w1) := b1
    obtain ⟨ao, cap, hv, _⟩ := hown.has.form
    subst hv
    clear hpl hok hown hL b1 HV C37
    go_wp2_with fail
    refine (C22 _).mono ?_
    rintro e w2 ⟨⟨u, M, rfl, hown2, hM⟩, b2⟩
    have HO2 : Hid (HasT w2 (.slice ao L.length cap) L) := HO.out.below b2
    have B2 : Hid (Below w.heap.size w w2) := Below.up B1.out b2
    have HU : Hid (HasT w2 u M) := hown2.has
    obtain ⟨bo, cap2, hu, hcap2⟩ := hown2.has.form
    subst hu
    clear b2 HO B1 hown2
    by_cases he : splitE (tl p) 64 = 0
    · have hM2 : M.map tl = pieces (tl p) := by rw [hM]; unfold splitL; rw [if_pos he]
      have HV3 : Hid (mv = (if M.map tl = [] then (false, 0) else (matchN (L.map tl) (if (47 : UInt8) ∈ tl s then M.map tl else (M.map tl).drop (M.length - 1)), 0))) := by
        show _ = _
        rw [HV2.out, if_neg (by rw [he]; simp), ← hM2, List.length_map]
      have hMn : M.length ≤ 1048577 := by
        rw [← List.length_map (f := tl), hM2]
        have := pieces_len' (tl p); rw [tl_len] at this; omega
      have hMs : ∀ x ∈ M, x.size ≤ 1048576 := by
        intro x hx
        rw [← tl_len x]
        have := pieces_small' (tl p) (tl x) (by rw [← hM2]; exact List.mem_map_of_mem hx)
        rw [tl_len p] at this; omega
      have HMS : Hid (∀ x ∈ M, x.size ≤ 1048576) := hMs
      rw [he]
      clear HV2 hM hM2 hMs he C22
      by_cases h0 : M = []
      · subst h0
        have HE : Hid (mv = (false, 0)) := by show _ = _; rw [HV3.out]; rfl
        clear HV3
        go_wp2
        go_ret2
        exact ⟨by rw [HE.out]; rfl, B2.out⟩
      · obtain ⟨m, hm⟩ : ∃ m, M.length = m + 1 := ⟨M.length - 1, by have := List.length_pos_iff.2 h0; omega⟩
        have HV4 : Hid (mv = (matchN (L.map tl) (if (47 : UInt8) ∈ tl s then M.map tl else (M.drop m).map tl), 0)) := by
          show _ = _
          rw [HV3.out, if_neg (by simpa using h0), List.map_drop, hm]; rfl
        obtain ⟨a0, ha0⟩ : ∃ a0, bo = some a0 := by
          rcases HU.out with ⟨q, _⟩ | ⟨a, c, q, _⟩
          · simp at q; exact absurd q.2.1 h0
          · simp at q; exact ⟨a, q.1⟩
        subst ha0
        have HU2 : Hid (HasT w2 (.slice (some a0) (m + 1) cap2) M) := by rw [← hm]; exact HU.out
        have HMl : Hid (M.length = m + 1) := hm
        rw [hm]
        clear HV3 h0 HU
        have z0 : (((m : Int) + 1) == 0) = false := by simp; omega
        by_cases hin : (47 : UInt8) ∈ tl s
        · have hdt : dd = true := by rw [← HDD.out]; exact decide_eq_true hin
          subst hdt
          have HE : Hid (mv = (matchN (L.map tl) (M.map tl), 0)) := by show _ = _; rw [HV4.out, if_pos hin]
          have CN := matches_any (.slice ao L.length cap) (.slice (some a0) (m + 1) cap2) L M w2 HO2.out HU2.out hLn hMn HPL.out HMS.out
          clear HV4 hin HDD
          go_wp2_with (go_at_call 43; refine CN.mono ?_; rintro e w3 ⟨rfl, b3⟩)
          go_ret2
          exact ⟨by rw [HE.out]; rfl, Below.up B2.out b3⟩
        · have hdt : dd = false := by rw [← HDD.out]; exact decide_eq_false hin
          subst hdt
          have HE : Hid (mv = (matchN (L.map tl) ((M.map tl).drop m), 0)) := by show _ = _; rw [HV4.out, if_neg hin, List.map_drop]
          have CN := matches_any (.slice ao L.length cap) (.slice (some (a0.add m)) 1 (cap2 - m)) L (M.drop m) w2 HO2.out (HU2.out.last HMl.out) hLn (by simp; omega) HPL.out (fun x hx => HMS.out x (List.mem_of_mem_drop hx))
          rw [List.map_drop] at CN
          have hsl := slice37 a0 cap2 m (by omega)
          clear HV4 hin HDD
          go_wp2_with (go_at_call 43; refine CN.mono ?_; rintro e w3 ⟨rfl, b3⟩)
          go_ret2
          exact ⟨by rw [HE.out]; rfl, Below.up B2.out b3⟩
    · have HE : Hid (mv = (false, splitE (tl p) 64)) := by show _ = _; rw [HV2.out, if_pos he]
      have hne : (splitE (tl p) 64 != 0) = true := by simpa using he
      generalize splitE (tl p) 64 = z at *
      clear HV2 hM C22
      go_wp2
      go_ret2
      exact ⟨by rw [HE.out]; rfl, B2.out⟩
  · have HE : Hid (mv = (false, 32)) := by show _ = _; rw [HV.out, if_pos hno]
    have B1 : Hid (Below w.heap.size w w1) := b1
    clear HV hno b1 C37 C22
    go_wp2
    go_ret2
    exact ⟨by rw [HE.out]; rfl, B1.out⟩

end Go.Proofs.YtpngnhpnjkepjaaGreatDoor
