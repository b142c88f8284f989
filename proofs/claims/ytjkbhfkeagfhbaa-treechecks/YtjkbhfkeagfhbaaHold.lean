/-
  THE ROOM's holdNodes and Hold.
-/
import Derived.Test.YtjkbhfkeagfhbaaLay
namespace Go.Proofs.Ytjkbhfkeagfhbaa
open Go.RowKit

/-- what holdNodes reads of the Room -/
theorem RM.at {w : World} {R : Nat} {s : Sg} (h : RM w R s) {j : Nat} (hj : j < s.ls.length) : ∃ b1 c1 b2 c2 e, w.cell? ⟨R, 22, none⟩ = some (.slice (some ⟨b1, 0, none⟩) s.ls.length c1) ∧ w.cell? ⟨R, 23, none⟩ = some (.slice (some ⟨b2, 0, none⟩) s.ls.length c2) ∧
    w.cell? ⟨b1, j, none⟩ = some (Kr.v e) ∧ w.cell? ⟨b2, j, none⟩ = some (.int .i64 e.n) ∧ Mk w e.g e.n e.k ∧ s.ls[j]? = some e := by
  obtain ⟨n, hn⟩ : ∃ n, s.ls.length = n + 1 := ⟨s.ls.length - 1, by omega⟩
  have o1 := h.o1
  have o2 := h.o2
  rw [hn] at o1 o2
  obtain ⟨b1, c1, e1⟩ := row_form o1
  obtain ⟨b2, c2, e2⟩ := row_form o2
  have he : s.ls[j]? = some s.ls[j] := by simp [hj]
  refine ⟨b1, c1, b2, c2, s.ls[j], by rw [h.c22, e1, hn], by rw [h.c23, e2, hn], ?_, ?_, (h.rows _ (List.getElem_mem hj)).2, he⟩
  · have := World.ownsRow.cells o1 (g := b1) (by rw [e1]; rfl) j (Kr.v s.ls[j]) (by rw [List.getElem?_map, he]; rfl)
    rwa [Addr.add_mid, Nat.zero_add] at this
  · have := World.ownsRow.cells o2 (g := b2) (by rw [e2]; rfl) j (.int .i64 s.ls[j].n) (by rw [List.getElem?_map, he]; rfl)
    rwa [Addr.add_mid, Nat.zero_add] at this

set_option maxRecDepth 100000 in
set_option maxHeartbeats 4000000 in
theorem holdNodes_any (R : Nat) (s : Sg) (w : World) (h : RM w R s) (hl : s.ls.length ≤ 60000) :
    Calls Try.prog 51 #[.pointer (some ⟨R, 0, none⟩)] w fun e w' => e = .returned (.bool true) ∧ G w w' := by
  obtain ⟨L, hL⟩ : ∃ L, s.ls.length = L := ⟨_, rfl⟩
  have HM := hid (⟨h, hL, h.bd⟩ : RM w R s ∧ s.ls.length = L ∧ ∀ e ∈ s.ls, e.n ≤ 20000 ∧ e.k ≤ 40)
  rw [hL] at hl
  clear h hL
  have CWA := fun i W hi => word_any i W hi
  go_enter Try.func51, Try.ntmps51
  go_wp2_with fail
  go_loopw [3] (fun i wr => ∃ j : Nat, i = .int .i64 j ∧ j ≤ L ∧ Hid (G w wr)) (fun i _ => L - iOf i)
  case atStart => exact ⟨0, rfl, Nat.zero_le _, Below.refl _ _⟩
  case round =>
    obtain ⟨j, rfl, hj, HG⟩ := hrel
    by_cases hlt : j < L
    · have hltI : (j : Int) < (L : Int) := by omega
      obtain ⟨b1, p1, b2, p2, ⟨g, n, k, cap⟩, q22, q23, r1, r2, _, he⟩ := (HM.out.1.grow HG.out).at (j := j) (by rw [HM.out.2.1]; exact hlt)
      have hbe := HM.out.2.2 _ (List.mem_of_getElem? he)
      rw [HM.out.2.1] at q22 q23
      simp only [Kr.v] at r1 r2 hbe
      obtain ⟨hn, hk⟩ := hbe
      have HE := hid he
      clear he
      go_wp2_with fail
      have HQ := hid (⟨q22, r1⟩ : wr.cell? ⟨R, 22, none⟩ = some (.slice (some ⟨b1, 0, none⟩) L p1) ∧ wr.cell? ⟨b1, j, none⟩ = some (.slice (some ⟨g, 0, none⟩) (n + k) cap))
      clear q22 q23 r1 r2
      go_loopw [5] (fun y wz => ∃ m : Nat, y = .int .i64 ((n + m : Nat) : Int) ∧ m ≤ k ∧ Hid (G wr wz)) (fun y _ => n + k - iOf y)
      case atStart => exact ⟨0, rfl, Nat.zero_le _, Below.refl _ _⟩
      case round =>
        obtain ⟨m, rfl, hm, HZ⟩ := hrel
        have q22 : wr.cell? ⟨R, 22, none⟩ = some (.slice (some ⟨b1, 0, none⟩) L p1) := HZ.out.cell HQ.out.1
        have r1 : wr.cell? ⟨b1, j, none⟩ = some (.slice (some ⟨g, 0, none⟩) (n + k) cap) := HZ.out.cell HQ.out.2
        by_cases hmk : m < k
        · have hmI : (m : Int) < (k : Int) := by omega
          have hmN : n + m < n + k := by omega
          obtain ⟨c, hc, hs, h1, h0, h40⟩ : ∃ c, Lies wr g ((n + m) * 41) c ∧ c.size = 41 ∧ c.all (·.oneCell') = true ∧ c[0]? = some (.string (wordB m)) ∧ c[40]? = some (.slice none 0 0) := by
            have hmm := ((HM.out.1.grow (HG.out.trans HZ.out)).rows _ (List.mem_of_getElem? HE.out)).2
            exact hmm m hmk
          have CW0 := fun W => CWA m W (by omega)
          obtain ⟨x, hx⟩ : ∃ x, wordB m = x := ⟨_, rfl⟩
          have CW : ∀ W, Calls Try.prog 79 #[.int .i64 m] W fun e w' => e = .returned (.string x) ∧ w' = W := by rw [← hx]; exact CW0
          rw [hx] at h0
          have HC := hid (⟨hc, hs, h1⟩ : Lies wr g ((n + m) * 41) c ∧ c.size = 41 ∧ c.all (·.oneCell') = true)
          obtain ⟨N1, N2, N3⟩ := new_var wr c
          have V0 := lies_cell N2.lies 0 (.string x) h0
          have V40 := lies_cell N2.lies 40 (.slice none 0 0) h40
          have HN1 := hid N1
          clear hc hs h1 h0 h40 CW0 hx N1 N2 N3
          go_upto_region 9 with (first
            | (with_reducible refine wpList_exec (.agg c) ?_ ?_ ?_; exact exec_load30 _ rfl g ((n + m) * 41) rfl c HC.out.2.1 HC.out.1; kernel_rfl)
            | (with_reducible refine wpList_execW (.pointer (some ⟨wr.heap.size, 0, none⟩)) (wr.alloc (.cells z30 30)) ?_ ?_ ?_; exact exec_alloc30 rfl _; kernel_rfl)
            | (with_reducible refine wpList_skipW ((wr.alloc (.cells z30 30)).setRow wr.heap.size c) ?_ ?_ ?_; exact exec_store30 _ _ rfl wr.heap.size _ z30 rfl rfl _ (Var.new wr z30) HC.out.2.1 z30_size HC.out.2.2; kernel_rfl))
          try simp only [Act.put, List.setIfInBounds_toArray, List.set_cons_zero, List.set_cons_succ]
          generalize (wr.alloc (.cells z30 30)).setRow wr.heap.size c = wx at *
          generalize wr.heap.size = X at *

          refine wp_region_G ?_
          replace V0 := (G.drew wx).cell V0
          replace V40 := (G.drew wx).cell V40
          have HW := hid (HN1.out.trans (G.drew wx))
          generalize wx.drew = wy at *
          refine takeG 0 46 (.pointer (some ⟨X, 0, none⟩)) rfl rfl (by kernel_rfl) (by kernel_rfl) (by kernel_rfl) (fun _ _ _ h => h) (by kernel_rfl) (fun wz hz => ?_) ?_
          · go_simp
          try simp only [Act.put, List.setIfInBounds_toArray, List.set_cons_zero, List.set_cons_succ]
          refine takeG 1 47 (.string x) rfl rfl (by kernel_rfl) (by kernel_rfl) (by kernel_rfl) (fun _ _ _ h => h) (by kernel_rfl) (fun wz hz => ?_) ?_
          · have y0 := hz.cell V0; go_simp
          try simp only [Act.put, List.setIfInBounds_toArray, List.set_cons_zero, List.set_cons_succ]
          refine takeG 2 48 (.int .i64 ((n + m : Nat) : Int)) rfl rfl (by kernel_rfl) (by kernel_rfl) (by kernel_rfl) (fun _ _ _ h => h) (by kernel_rfl) (fun wz hz => ?_) ?_
          · rfl
          try simp only [Act.put, List.setIfInBounds_toArray, List.set_cons_zero, List.set_cons_succ]
          refine takeG 3 49 (.int .i64 n) rfl rfl (by kernel_rfl) (by kernel_rfl) (by kernel_rfl) (fun _ _ _ h => h) (by kernel_rfl) (fun wz hz => ?_) ?_
          · rfl
          try simp only [Act.put, List.setIfInBounds_toArray, List.set_cons_zero, List.set_cons_succ]
          refine takeG 4 50 (.int .i64 m) rfl rfl (by kernel_rfl) (by kernel_rfl) (by kernel_rfl) (fun _ _ _ h => h) (by kernel_rfl) (fun wz hz => ?_) ?_
          · go_simp; rw [IntKind.wrap_i64]; omega
          try simp only [Act.put, List.setIfInBounds_toArray, List.set_cons_zero, List.set_cons_succ]
          refine callG 5 51 (.string x) 79 #[.int .i64 m] rfl rfl (by kernel_rfl) (by kernel_rfl) (by kernel_rfl) (fun _ _ _ h => h) (by kernel_rfl) (fun wz => by go_simp) (fun wz hz => ?_) ?_
          · exact (CW wz).mono fun e w' ⟨h1, h2⟩ => ⟨h1, by rw [h2]; exact Below.refl _ _⟩
          try simp only [Act.put, List.setIfInBounds_toArray, List.set_cons_zero, List.set_cons_succ]
          refine takeG 6 52 (.bool false) rfl rfl (by kernel_rfl) (by kernel_rfl) (by kernel_rfl) (fun _ _ _ h => h) (by kernel_rfl) (fun wz hz => ?_) ?_
          · go_simp
          try simp only [Act.put, List.setIfInBounds_toArray, List.set_cons_zero, List.set_cons_succ]
          refine takeG 7 53 (.bool false) rfl rfl (by kernel_rfl) (by kernel_rfl) (by kernel_rfl) (fun _ _ _ h => h) (by kernel_rfl) (fun wz hz => ?_) ?_
          · rfl
          try simp only [Act.put, List.setIfInBounds_toArray, List.set_cons_zero, List.set_cons_succ]
          refine takeG 8 54 (.pointer (some ⟨X, 40, none⟩)) rfl rfl (by kernel_rfl) (by kernel_rfl) (by kernel_rfl) (fun _ _ _ h => h) (by kernel_rfl) (fun wz hz => ?_) ?_
          · go_simp
          try simp only [Act.put, List.setIfInBounds_toArray, List.set_cons_zero, List.set_cons_succ]
          refine takeG 9 55 (.slice none 0 0) rfl rfl (by kernel_rfl) (by kernel_rfl) (by kernel_rfl) (fun _ _ _ h => h) (by kernel_rfl) (fun wz hz => ?_) ?_
          · have y0 := hz.cell V40; go_simp
          try simp only [Act.put, List.setIfInBounds_toArray, List.set_cons_zero, List.set_cons_succ]
          refine takeG 10 56 (.int .i64 0) rfl rfl (by kernel_rfl) (by kernel_rfl) (by kernel_rfl) (fun _ _ _ h => h) (by kernel_rfl) (fun wz hz => ?_) ?_
          · go_simp
          try simp only [Act.put, List.setIfInBounds_toArray, List.set_cons_zero, List.set_cons_succ]
          refine takeG 11 57 (.bool false) rfl rfl (by kernel_rfl) (by kernel_rfl) (by kernel_rfl) (fun _ _ _ h => h) (by kernel_rfl) (fun wz hz => ?_) ?_
          · go_simp
          try simp only [Act.put, List.setIfInBounds_toArray, List.set_cons_zero, List.set_cons_succ]
          refine takeG 12 58 (.bool false) rfl rfl (by kernel_rfl) (by kernel_rfl) (by kernel_rfl) (fun _ _ _ h => h) (by kernel_rfl) (fun wz hz => ?_) ?_
          · go_simp
          try simp only [Act.put, List.setIfInBounds_toArray, List.set_cons_zero, List.set_cons_succ]
          refine doneG (by kernel_rfl) (fun w9 hg9 => ?_)
          have R9 := hid (HZ.out.trans (HW.out.trans hg9))
          clear hg9
          go_wp2_with fail
          go_roundw
          case rel => exact ⟨m + 1, by go_num, by omega, R9.out⟩
          case measure => simp; omega
        · have hmI : ¬ (m : Int) < (k : Int) := by omega
          have R9 := hid (HG.out.trans HZ.out)
          go_wp2_with fail
          go_roundw
          case rel => exact ⟨j + 1, by go_num, by omega, R9.out⟩
          case measure => simp; omega
    · have hltI : ¬ (j : Int) < (L : Int) := by omega
      have q22 : ∃ a p, wr.cell? ⟨R, 22, none⟩ = some (.slice a L p) := by
        have h := HM.out.1.grow HG.out
        obtain ⟨a, p, e⟩ := owns_form h.o1
        exact ⟨a, p, by rw [h.c22, e, HM.out.2.1]⟩
      obtain ⟨a, p, q22⟩ := q22
      go_wp2_with fail
      go_ret
      exact ⟨rfl, HG.out⟩

set_option maxHeartbeats 1600000 in
set_option maxRecDepth 100000 in
theorem roomHold_any (R : Nat) (s : Sg) (w : World) (h : RM w R s) (hl : s.ls.length ≤ 60000) : Calls Try.prog 13 #[.pointer (some ⟨R, 0, none⟩)] w fun e w' => e = .returned (.bool true) ∧ G w w' := by
  have C51 := holdNodes_any R s w h hl
  have C40 := hold40_idle R w (h.idle 0 (by decide) (by decide) (by decide))
  have C41 := hold41_idle R w (h.idle 2 (by decide) (by decide) (by decide))
  have C42 := hold42_idle R w (h.idle 4 (by decide) (by decide) (by decide))
  have C43 := hold43_idle R w (h.idle 6 (by decide) (by decide) (by decide))
  have C44 := hold44_idle R w (h.idle 8 (by decide) (by decide) (by decide))
  have C45 := hold45_idle R w (h.idle 10 (by decide) (by decide) (by decide))
  have C46 := hold46_idle R w (h.idle 12 (by decide) (by decide) (by decide))
  have C47 := hold47_idle R w (h.idle 14 (by decide) (by decide) (by decide))
  have C48 := hold48_idle R w (h.idle 16 (by decide) (by decide) (by decide))
  have C49 := hold49_idle R w (h.idle 18 (by decide) (by decide) (by decide))
  have C50 := hold50_idle R w (h.idle 20 (by decide) (by decide) (by decide))
  have C52 : ∀ w', G w w' → Calls Try.prog 52 #[.pointer (some ⟨R, 0, none⟩)] w' fun e w2 => e = .returned (.bool true) ∧ w2 = w' := fun w' hg => hold52_idle R w' ((h.grow hg).idle 24 (by decide) (by decide) (by decide))
  clear h
  go_enter Try.func13, Try.ntmps13
  go_wp2_with (first
    | (go_at_call 40; refine C40.mono ?_; rintro e w2 ⟨rfl, e2⟩; subst e2)
    | (go_at_call 41; refine C41.mono ?_; rintro e w2 ⟨rfl, e2⟩; subst e2)
    | (go_at_call 42; refine C42.mono ?_; rintro e w2 ⟨rfl, e2⟩; subst e2)
    | (go_at_call 43; refine C43.mono ?_; rintro e w2 ⟨rfl, e2⟩; subst e2)
    | (go_at_call 44; refine C44.mono ?_; rintro e w2 ⟨rfl, e2⟩; subst e2)
    | (go_at_call 45; refine C45.mono ?_; rintro e w2 ⟨rfl, e2⟩; subst e2)
    | (go_at_call 46; refine C46.mono ?_; rintro e w2 ⟨rfl, e2⟩; subst e2)
    | (go_at_call 47; refine C47.mono ?_; rintro e w2 ⟨rfl, e2⟩; subst e2)
    | (go_at_call 48; refine C48.mono ?_; rintro e w2 ⟨rfl, e2⟩; subst e2)
    | (go_at_call 49; refine C49.mono ?_; rintro e w2 ⟨rfl, e2⟩; subst e2)
    | (go_at_call 50; refine C50.mono ?_; rintro e w2 ⟨rfl, e2⟩; subst e2)
    | (go_at_call 51; refine C51.mono ?_; rintro e w3 ⟨rfl, hg3⟩; have C52' := C52 w3 hg3; have HG3 := hid hg3; clear C52 hg3)
    | (go_at_call 52; refine C52'.mono ?_; rintro e w4 ⟨rfl, e2⟩; subst e2))
  go_ret
  exact ⟨rfl, HG3.out⟩
end Go.Proofs.Ytjkbhfkeagfhbaa
