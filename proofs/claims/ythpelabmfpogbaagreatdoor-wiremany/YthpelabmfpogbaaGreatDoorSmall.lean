/-
  (*Reader).Byte, End, At, Err; told; same.
-/
import Derived.Test.YthpelabmfpogbaaGreatDoorText
import Derived.StillTailTactics
namespace Go.Proofs.YthpelabmfpogbaaGreatDoor
open Go.RowKit Wire

def byteS (l : List Int) (s : St) : Int × St :=
  if s.fe ≠ 0 then (0, s) else if s.p < l.length then (l[s.p]?.getD 0, ⟨s.p + 1, s.fa, s.fe⟩) else (0, ⟨s.p, l.length, 10⟩)

def endS (l : List Int) (s : St) : St := if s.fe ≠ 0 then s else if s.p < l.length then ⟨s.p, s.p, 13⟩ else s

set_option maxHeartbeats 800000 in
set_option maxRecDepth 100000 in
theorem byte_fault (lo R : Nat) (l : List Int) (s : St) (w : World) (hr : RdS w lo R l s) (hf : s.fe ≠ 0) :
    Calls Tryz.prog 59 #[.pointer (some ⟨R, 0, none⟩)] w fun e w' => e = .returned (.int .u8 0) ∧ RdS w' lo R l s ∧ w.grownBy w' (some R) := by
  have HR : Hid (RdS w lo R l s) := hr
  obtain ⟨v, hh, ho, hk, hl, hp, hn⟩ := hr
  obtain ⟨h0, h1, h2, h3, h4, hfz⟩ := cells_of hh
  have hlt : R < w.heap.size := (Array.getElem?_eq_some_iff.1 hh).1
  have hfb : (s.fe != 0) = true := by simpa using hf
  clear hh ho hk h0 h1 h2 h3 hfz
  have hmf' := hmf
  go_enter_defers Tryz.func59, Tryz.ntmps59
  go_wp2_with (go_at_call 90; refine (failed_any R s.fe _ (by simp [World.cell?_alloc_past _ _ _ hlt, h4])).mono ?_; rintro e w1 ⟨rfl, rfl⟩)
  refine leaves_cons (f := 91) (args := #[.pointer (some ⟨w.heap.size, 0, none⟩)]) (by simp) (by simp [go_sem]) ?_
  refine (catch33_idle w.heap.size R _ (by simp)).mono ?_
  rintro e u' w'' ⟨rfl, rfl, rfl⟩
  exact ⟨_, results_tmp rfl _ _ _, rfl, HR.out.grown (door_below _ _), grown_below _ (door_below _ _)⟩

set_option maxHeartbeats 800000 in
set_option maxRecDepth 100000 in
theorem byte_go (lo R : Nat) (l : List Int) (p : Nat) (fa : Int) (w : World) (hr : RdS w lo R l ⟨p, fa, 0⟩) :
    Calls Tryz.prog 59 #[.pointer (some ⟨R, 0, none⟩)] w fun e w' => e = .returned (.int .u8 (byteS l ⟨p, fa, 0⟩).1) ∧ RdS w' lo R l (byteS l ⟨p, fa, 0⟩).2 ∧ w.grownBy w' (some R) := by
  obtain ⟨v, hh, ho, hk, hl, hp, hn⟩ := hr
  obtain ⟨ao, cap, hv, hcap, hat⟩ := ownAt ho
  subst hv
  simp only at hh hp
  obtain ⟨h0, h1, h2, h3, h4, hfz⟩ := cells_of hh
  have hlt : R < w.heap.size := (Array.getElem?_eq_some_iff.1 hh).1
  have HH : Hid (w.heap[R]? = some (.cells #[.slice ao l.length cap, .int .i64 p, .int .i64 fa, .string ⟨#[]⟩, .int .i64 0] 77 (0, 0))) := hh
  have HO : Hid (Owns w lo (.slice ao l.length cap) l) := ho
  have HK : Hid (∀ k, (Value.slice ao l.length cap).ownBlock = some k → k < R) := hk
  have HA : Hid (∀ i, i < l.length → ∃ g, ao = some ⟨g, 0, none⟩ ∧ w.cell? ⟨g, i, none⟩ = some (.int .u8 (l[i]?.getD 0))) := hat
  have HC0 : Hid (∀ (w' : World), Below w.heap.size w w' → w'.cell? ⟨R, 0, none⟩ = some (.slice ao l.length cap)) := fun w' hb => (hb.cell hlt).trans h0
  clear hh ho hk h2 h3 hat
  have hmf' := hmf
  have hc1 : ∀ (o : Obj), (w.alloc o).cell? ⟨R, 1, none⟩ = some (.int .i64 p) := fun o => by rw [World.cell?_alloc_past _ _ _ hlt]; exact h1
  by_cases hpl : p < l.length
  · have e1 : byteS l ⟨p, fa, 0⟩ = (l[p]?.getD 0, ⟨p + 1, fa, 0⟩) := by simp [byteS, hpl]
    rw [e1]
    obtain ⟨g, hg, hc⟩ := HA.out p hpl
    subst hg
    clear HA e1
    have HB : Hid (∀ (w' : World), Below w.heap.size w w' → Calls Tryz.prog 93 #[.pointer (some ⟨R, 0, none⟩), .int .i64 p] w' fun x w'' => x = .returned (.int .u8 (l[p]?.getD 0)) ∧ w'' = w') := fun w' hb =>
      byteAt_in R p g l.length cap _ w' (HC0.out w' hb) hn hpl ((hb.cell (World.block_lt_of_cell? w _ hc)).trans hc)
    generalize l[p]?.getD 0 = c at *
    clear hc
    go_enter_defers Tryz.func59, Tryz.ntmps59
    go_wp2_with (go_at_call 90; refine (failed_any R 0 _ (by simp [World.cell?_alloc_past _ _ _ hlt, h4])).mono ?_; rintro e w1 ⟨rfl, rfl⟩)
    go_quiet ((go_at_call 93; exact Calls.quiet_of_same (HB.out _ (by exact door_belowN w _ _))))
    go_wp2
    refine leaves_cons (f := 91) (args := #[.pointer (some ⟨w.heap.size, 0, none⟩)]) (by simp) (by simp [go_sem]) ?_
    obtain ⟨Z1, Z2, Z3⟩ := RdS.moved HH.out HO.out HK.out hl hn (Obj.cells #[Value.pointer (some { block := R, off := 0 })] 58) nq ((p : Int) + 1) (p + 1) (by simp) (by omega)
    refine (catch33_idle w.heap.size R _ (Z3.trans (by simp))).mono ?_
    rintro e u' w'' ⟨rfl, rfl, rfl⟩
    exact ⟨_, results_tmp rfl _ _ _, rfl, Z1, Z2⟩
  · have e1 : byteS l ⟨p, fa, 0⟩ = (0, ⟨p, l.length, 10⟩) := by simp [byteS, hpl]
    rw [e1]
    clear HA e1
    go_enter_defers Tryz.func59, Tryz.ntmps59
    go_wp2_with (go_at_call 90; refine (failed_any R 0 _ (by simp [World.cell?_alloc_past _ _ _ hlt, h4])).mono ?_; rintro e w1 ⟨rfl, rfl⟩)
    refine wp_region_still_tail 5 Tryz.mixed (by kernel_rfl) ?_
    change wpStill _ _ (World.drew _) (fun a' => wpList _ _ _ _ a' (World.drew _)) _ _
    simp only [List.take_succ_cons, List.take_zero, List.drop_succ_cons, List.drop_zero]
    repeat still_step
    refine wpStill_nil ?_
    go_wp2_with (go_at_call 93; refine (byteAt_out R p ao l.length cap _ (HC0.out _ (by exact door_below w _)) hn (by omega) (by omega)).mono ?_; rintro e w1 ⟨rfl, rfl⟩)
    refine leaves_cons (f := 91) (args := #[.pointer (some ⟨w.heap.size, 0, none⟩)]) (by simp) (by simp [go_sem]) ?_
    refine (catch33_flt w.heap.size R _ l.length 10 [] _ _ _ _ _ (by simp) (((door_below w _).block R hlt).trans HH.out)).mono ?_
    rintro e u' w'' ⟨rfl, rfl, hr2, hg2⟩
    obtain ⟨Z1, Z2⟩ := RdS.noted HO.out HK.out hl hp hn (door_below w _) hr2 hg2 HH.out
    exact ⟨_, results_tmp rfl _ _ _, rfl, Z1, Z2⟩

theorem byte_any (lo R : Nat) (l : List Int) (s : St) (w : World) (hr : RdS w lo R l s) :
    Calls Tryz.prog 59 #[.pointer (some ⟨R, 0, none⟩)] w fun e w' => e = .returned (.int .u8 (byteS l s).1) ∧ RdS w' lo R l (byteS l s).2 ∧ w.grownBy w' (some R) := by
  obtain ⟨p, fa, fe⟩ := s
  by_cases hf : fe = 0
  · subst hf; exact byte_go lo R l p fa w hr
  · refine (byte_fault lo R l _ w hr hf).mono ?_
    rintro e w' ⟨rfl, h1, h2⟩
    exact ⟨by simp [byteS, hf], by simpa [byteS, hf] using h1, h2⟩

/-! ### Reads that leave all as it is -/
set_option maxHeartbeats 400000 in
theorem at_any (lo R : Nat) (l : List Int) (s : St) (w : World) (hr : RdS w lo R l s) :
    Calls Tryz.prog 57 #[.pointer (some ⟨R, 0, none⟩)] w fun e w' => e = .returned (.int .i64 s.p) ∧ w' = w := by
  obtain ⟨v, hh, ho, hk, hl, hp, hn⟩ := hr
  obtain ⟨h0, h1, h2, h3, h4, hfz⟩ := cells_of hh
  clear hh ho hk h0 h2 h3 h4
  go_enter Tryz.func57, Tryz.ntmps57
  go_wp2
  go_ret
  exact ⟨rfl, rfl⟩

set_option maxHeartbeats 400000 in
theorem err_none (lo R : Nat) (l : List Int) (p : Nat) (fa : Int) (w : World) (hr : RdS w lo R l ⟨p, fa, 0⟩) :
    Calls Tryz.prog 56 #[.pointer (some ⟨R, 0, none⟩)] w fun e w' => e = .returned .nilIface ∧ w' = w := by
  obtain ⟨v, hh, ho, hk, hl, hp, hn⟩ := hr
  obtain ⟨h0, h1, h2, h3, h4, hfz⟩ := cells_of hh
  clear hh ho hk h0 h1 h2 h3
  go_enter Tryz.func56, Tryz.ntmps56
  go_wp2_with (go_at_call 90; refine (failed_any R 0 _ h4).mono ?_; rintro e w1 ⟨rfl, rfl⟩)
  go_ret
  exact ⟨rfl, rfl⟩

set_option maxHeartbeats 400000 in
theorem err_some (lo R : Nat) (l : List Int) (s : St) (w : World) (hr : RdS w lo R l s) (hf : s.fe ≠ 0) :
    Calls Tryz.prog 56 #[.pointer (some ⟨R, 0, none⟩)] w fun e w' => e = .returned (.iface 149 (.pointer (some ⟨w.heap.size, 0, none⟩))) ∧ w' = w.alloc (.cells #[.int .i64 s.fa, .string ⟨#[]⟩, .int .i64 s.fe] 75) := by
  obtain ⟨v, hh, ho, hk, hl, hp, hn⟩ := hr
  obtain ⟨h0, h1, h2, h3, h4, hfz⟩ := cells_of hh
  have hfb : (s.fe != 0) = true := by simpa using hf
  clear hh ho hk h0 h1
  go_enter Tryz.func56, Tryz.ntmps56
  go_wp2_with (go_at_call 90; refine (failed_any R s.fe _ h4).mono ?_; rintro e w1 ⟨rfl, rfl⟩)
  go_ret
  exact ⟨rfl, rfl⟩

theorem assert45 (x : Value) (w : World) : (Instr.typeAssert (.iface 149 x) 83 149 true).run Tryz.prog w = .ok (.tuple #[x, .bool true]) w := by kernel_rfl

set_option maxHeartbeats 400000 in
theorem told_nil (w : World) : Calls Tryz.prog 55 #[.nilIface] w fun e w' => e = .returned (.tuple #[.int .i64 0, .int .i64 0, .bool true]) ∧ w' = w := by
  go_enter Tryz.func55, Tryz.ntmps55
  go_wp2
  go_ret3
  exact ⟨rfl, rfl⟩

set_option maxHeartbeats 800000 in
set_option maxRecDepth 100000 in
theorem told_some (F : Nat) (p e : Int) (w : World) (h0 : w.cell? ⟨F, 0, none⟩ = some (.int .i64 p)) (h1 : w.cell? ⟨F, 1, none⟩ = some (.string ⟨#[]⟩)) (h2 : w.cell? ⟨F, 2, none⟩ = some (.int .i64 e)) (he : e ≠ 0) :
    Calls Tryz.prog 55 #[.iface 149 (.pointer (some ⟨F, 0, none⟩))] w fun x w' => x = .returned (.tuple #[.int .i64 p, .int .i64 e, .bool true]) ∧ ∃ n, w' = w.drewN n := by
  have hta := assert45
  have heb : (e == 0) = false := by simpa using he
  go_enter Tryz.func55, Tryz.ntmps55
  go_wp2
  go_quiet (fail)
  go_wp2
  go_ret3
  exact ⟨rfl, _, rfl⟩

theorem Has.at {w : World} {v : Value} {l : List Int} (h : Has w v l) {k : Nat} (hk : k < l.length) : ∃ a cap, v = .slice (some a) l.length cap ∧ w.cell? (a.add k) = some (.int .u8 (l[k]?.getD 0)) := by
  rcases h with ⟨_, rfl⟩ | ⟨a, cap, rfl, _, hc⟩
  · simp at hk
  · exact ⟨a, cap, rfl, by simpa [List.getD] using hc k hk⟩

theorem take_same {a b : List Int} {k : Nat} (h : a.take k = b.take k) (hl : a.length = b.length) (hk : k < a.length) (he : a[k]?.getD 0 = b[k]?.getD 0) : a.take (k + 1) = b.take (k + 1) := by
  rw [List.take_succ_eq_append_getElem hk, List.take_succ_eq_append_getElem (by omega), h]
  rw [List.getElem?_eq_getElem hk, List.getElem?_eq_getElem (by omega)] at he
  simp at he
  rw [he]

set_option maxHeartbeats 800000 in
set_option maxRecDepth 100000 in
theorem same_any (va vb : Value) (a b : List Int) (w : World) (ha : Has w va a) (hb : Has w vb b) (hal : a.length ≤ 1048576) (_hbl : b.length ≤ 1048576) :
    Calls Tryz.prog 9 #[va, vb] w fun x w' => x = .returned (.bool (decide (a = b))) ∧ ∃ n, w' = w.drewN n := by
  have HA : Hid (Has w va a) := ha
  have HB : Hid (Has w vb b) := hb
  obtain ⟨ao, ca, hva, _⟩ := ha.form
  obtain ⟨bo, cb, hvb, _⟩ := hb.form
  subst hva hvb
  clear ha hb
  by_cases hl : a.length = b.length
  · have HL : Hid (a.length = b.length) := hl
    have hlb : ((a.length : Int) != (b.length : Int)) = false := by simp; omega
    clear hl
    go_enter Tryz.func9, Tryz.ntmps9
    go_wp2
    go_loopw [5] (fun i wr => ∃ k m : Nat, wr = w.drewN m ∧ k ≤ a.length ∧ i = .int .i64 k ∧ a.take k = b.take k) (fun i _ => a.length - (intOf i).toNat)
    case atStart => exact ⟨0, 0, rfl, Nat.zero_le _, rfl, by simp⟩
    case round =>
      obtain ⟨k, m, rfl, hk, rfl, htk⟩ := hrel
      have HT : Hid (a.take k = b.take k) := htk
      clear htk
      by_cases hlt : k < a.length
      · have hlt2 : k < b.length := by have := HL.out; omega
        obtain ⟨a0, _, hva, hca⟩ := HA.out.at hlt
        obtain ⟨b0, _, hvb, hcb⟩ := HB.out.at hlt2
        simp at hva hvb
        obtain ⟨rfl, rfl⟩ := hva
        obtain ⟨rfl, rfl⟩ := hvb
        by_cases hab : a[k]?.getD 0 = b[k]?.getD 0
        · have HT2 : Hid (a.take (k + 1) = b.take (k + 1)) := take_same HT.out HL.out hlt hab
          rw [← hab] at hcb
          clear hab
          generalize a[k]?.getD 0 = c at *
          go_wp2_with fail
          go_quiet (fail)
          go_wp2
          go_roundw
          case rel => exact ⟨k + 1, _, rfl, by omega, by go_num, HT2.out⟩
          case measure => simp [intOf]; omega
        · have hne : Hid (decide (a = b) = false) := by
            show _ = _
            simp; intro h; exact hab (by rw [h])
          have hcd : (a[k]?.getD 0 != b[k]?.getD 0) = true := by simpa using hab
          clear hab
          generalize a[k]?.getD 0 = c at *
          generalize b[k]?.getD 0 = d at *
          go_wp2_with fail
          go_quiet (fail)
          go_wp2
          go_ret
          exact ⟨by rw [hne.out]; rfl, _, World.drewN_drewN _ _ _⟩
      · have heq : Hid (decide (a = b) = true) := by
          show _ = _
          have h := HT.out
          have h2 := HL.out
          rw [List.take_of_length_le (by omega), List.take_of_length_le (by omega)] at h
          simpa using h
        go_wp2
        go_ret
        exact ⟨by rw [heq.out]; rfl, _, rfl⟩
  · have hne : decide (a = b) = false := by
      simp; intro h; exact hl (by rw [h])
    rw [hne]
    have hlb : ((a.length : Int) != (b.length : Int)) = true := by simp; omega
    go_enter Tryz.func9, Tryz.ntmps9
    go_wp2
    go_ret
    exact ⟨rfl, 0, rfl⟩

set_option maxHeartbeats 800000 in
set_option maxRecDepth 100000 in
theorem end_any (lo R : Nat) (l : List Int) (s : St) (w : World) (hr : RdS w lo R l s) :
    Calls Tryz.prog 67 #[.pointer (some ⟨R, 0, none⟩)] w fun e w' => e = .returned (.tuple #[]) ∧ RdS w' lo R l (endS l s) ∧ w.grownBy w' (some R) := by
  obtain ⟨p, fa, fe⟩ := s
  have HR : Hid (RdS w lo R l ⟨p, fa, fe⟩) := hr
  obtain ⟨v, hh, ho, hk, hl, hp, hn⟩ := hr
  obtain ⟨ao, cap, hv, hcap, hat⟩ := ownAt ho
  subst hv
  simp only at hh hp
  obtain ⟨h0, h1, h2, h3, h4, hfz⟩ := cells_of hh
  have hlt : R < w.heap.size := (Array.getElem?_eq_some_iff.1 hh).1
  have HH : Hid (w.heap[R]? = some (.cells #[.slice ao l.length cap, .int .i64 p, .int .i64 fa, .string ⟨#[]⟩, .int .i64 fe] 77 (0, 0))) := hh
  have HO : Hid (Owns w lo (.slice ao l.length cap) l) := ho
  have HK : Hid (∀ k, (Value.slice ao l.length cap).ownBlock = some k → k < R) := hk
  have hmf' := hmf
  have hc1 : ∀ (o : Obj), (w.alloc o).cell? ⟨R, 1, none⟩ = some (.int .i64 p) := fun o => by rw [World.cell?_alloc_past _ _ _ hlt]; exact h1
  have hc0 : ∀ (o : Obj), (w.alloc o).cell? ⟨R, 0, none⟩ = some (.slice ao l.length cap) := fun o => by rw [World.cell?_alloc_past _ _ _ hlt]; exact h0
  have HF : Hid (∀ (w' : World), Below w.heap.size w w' → Calls Tryz.prog 90 #[.pointer (some ⟨R, 0, none⟩)] w' fun x w'' => x = .returned (.bool (fe != 0)) ∧ w'' = w') := fun w' hb =>
    failed_any R fe w' ((hb.cell hlt).trans h4)
  clear hh ho hk h2 h3 h4 hat
  by_cases hf : fe = 0
  · subst hf
    have HF2 : Hid (∀ (w' : World), Below w.heap.size w w' → Calls Tryz.prog 90 #[.pointer (some ⟨R, 0, none⟩)] w' fun x w'' => x = .returned (.bool false) ∧ w'' = w') := HF
    clear HF
    by_cases hpl : p < l.length
    · have e1 : endS l ⟨p, fa, 0⟩ = ⟨p, p, 13⟩ := by simp [endS, hpl]
      rw [e1]
      clear e1
      go_enter_defers Tryz.func67, Tryz.ntmps67
      go_wp2_with fail
      go_quiet ((go_at_call 90; exact Calls.quiet_of_same (HF2.out _ (by exact door_belowN w _ _))))
      go_wp2_with (go_at_call 96; refine (giveUp_any _ _ _).mono ?_; rintro e w1 ⟨rfl, rfl⟩)
      refine leaves_cons (f := 102) (args := #[.pointer (some ⟨w.heap.size, 0, none⟩)]) (by simp) (by simp [go_sem]) ?_
      refine (catch41_flt w.heap.size R _ p 13 [] _ _ _ _ _ (by simp) (((door_belowN w _ _).block R hlt).trans HH.out)).mono ?_
      rintro e u' w'' ⟨rfl, rfl, hr2, hg2⟩
      obtain ⟨Z1, Z2⟩ := RdS.noted HO.out HK.out hl hp hn (door_belowN w _ _) hr2 hg2 HH.out
      exact ⟨_, results_none rfl _ _ _, rfl, Z1, Z2⟩
    · have e1 : endS l ⟨p, fa, 0⟩ = ⟨p, fa, 0⟩ := by simp [endS, hpl]
      rw [e1]
      clear e1
      go_enter_defers Tryz.func67, Tryz.ntmps67
      go_wp2_with fail
      go_quiet ((go_at_call 90; exact Calls.quiet_of_same (HF2.out _ (by exact door_belowN w _ _))))
      go_wp2
      refine leaves_cons (f := 102) (args := #[.pointer (some ⟨w.heap.size, 0, none⟩)]) (by simp) (by simp [go_sem]) ?_
      refine (catch41_idle w.heap.size R _ (by simp)).mono ?_
      rintro e u' w'' ⟨rfl, rfl, rfl⟩
      exact ⟨_, results_none rfl _ _ _, rfl, HR.out.grown (Below.drew (door_belowN w _ _)), grown_below _ (Below.drew (door_belowN w _ _))⟩
  · have e1 : endS l ⟨p, fa, fe⟩ = ⟨p, fa, fe⟩ := by simp [endS, hf]
    rw [e1]
    clear e1
    have hfb : (fe != 0) = true := by simpa using hf
    have HF2 : Hid (∀ (w' : World), Below w.heap.size w w' → Calls Tryz.prog 90 #[.pointer (some ⟨R, 0, none⟩)] w' fun x w'' => x = .returned (.bool true) ∧ w'' = w') := by
      have := HF.out
      rw [hfb] at this
      exact this
    clear HF hfb hf
    go_enter_defers Tryz.func67, Tryz.ntmps67
    go_wp2_with fail
    go_quiet ((go_at_call 90; exact Calls.quiet_of_same (HF2.out _ (by exact door_belowN w _ _))))
    go_wp2
    refine leaves_cons (f := 102) (args := #[.pointer (some ⟨w.heap.size, 0, none⟩)]) (by simp) (by simp [go_sem]) ?_
    refine (catch41_idle w.heap.size R _ (by simp)).mono ?_
    rintro e u' w'' ⟨rfl, rfl, rfl⟩
    exact ⟨_, results_none rfl _ _ _, rfl, HR.out.grown (Below.drew (door_belowN w _ _)), grown_below _ (Below.drew (door_belowN w _ _))⟩
end Go.Proofs.YthpelabmfpogbaaGreatDoor
