import Derived.Test.YtbjjbgaomoihaaaGreatDoorGrows
set_option maxRecDepth 100000
set_option maxHeartbeats 1000000
namespace Go.Proofs.YtbjjbgaomoihaaaGreatDoor
open Go.RowKit
theorem cell_below {w w' : World} {a : Addr} {v : Value} (h : Below w.heap.size w w') (hc : w.cell? a = some v) : w'.cell? a = some v := (h.cell (World.block_lt_of_cell? w _ hc)).trans hc
theorem two_boxes (w : World) (c d : Array Value) : Lies ((w.alloc (.cells c 30)).alloc (.cells d 30)) w.heap.size 0 c ∧ Lies ((w.alloc (.cells c 30)).alloc (.cells d 30)) (w.heap.size + 1) 0 d := by
  constructor
  · exact (lies_new w c 30).below ((Below.refl _ _).alloc (Nat.le_refl _) _)
  · have := lies_new (w.alloc (.cells c 30)) d 30
    rw [World.size_alloc] at this
    exact this
def F.okL (f : F) : Prop := f.size ≤ 9223372036854775807
def EqualOk (ks : F) : Prop := ∀ (nm nm' : ByteArray) (v v' : Vd) (m m' : Md) (ks' : F) (c d : Array Value) (w : World), HasN w c nm v m ks → HasN w d nm' v' m' ks' → ks.okL → ks'.okL →
    Calls Tryz.prog 24 #[.agg c, .agg d] w fun e w' => e = .returned (.bool (decide (v = v' ∧ m = m' ∧ ks = ks'))) ∧ Below w.heap.size w w'
theorem equal_any : ∀ (N : Nat) (ks : F), ks.size < N → EqualOk ks := by
  intro N
  induction N with
  | zero => intro f h; omega
  | succ N ih =>
    intro ks hN nm nm' v v' m m' ks' c d w ⟨kv, hc, hS⟩ ⟨kv', hd, hS'⟩ hl hl'
    obtain ⟨L, hL⟩ : ∃ L, ks.len = L := ⟨_, rfl⟩
    obtain ⟨L', hL'⟩ : ∃ L', ks'.len = L' := ⟨_, rfl⟩
    obtain ⟨a, cap, rfl, _⟩ := hS.form
    obtain ⟨a', cap', rfl, _⟩ := hS'.form
    have HOK : Hid (ks.okL ∧ ks'.okL) := ⟨hl, hl'⟩
    replace hl : L ≤ 9223372036854775807 := by have := ks.len_le_size; unfold F.okL at hl; omega
    replace hl' : L' ≤ 9223372036854775807 := by have := ks'.len_le_size; unfold F.okL at hl'; omega
    obtain ⟨R, hR⟩ : ∃ R, decide (v = v' ∧ m = m' ∧ ks = ks') = R := ⟨_, rfl⟩
    rw [hR]
    have HRR : Hid (decide (v = v' ∧ m = m' ∧ ks = ks') = R) := hR
    clear hR
    have TB := two_boxes w c d
    have B1 : Below w.heap.size w ((w.alloc (.cells c 30)).alloc (.cells d 30)) := ((Below.refl _ w).alloc (Nat.le_refl _) _).alloc (by simp) _
    obtain ⟨H, hH⟩ : ∃ H, w.heap.size = H := ⟨_, rfl⟩
    have HH : Hid (w.heap.size = H) := hH
    have HL : Hid (ks.len = L) := hL
    have HL' : Hid (ks'.len = L') := hL'
    have HS : Hid (HasS w (.slice a L cap) ks) := by rw [hL] at hS; exact hS
    have HS' : Hid (HasS w (.slice a' L' cap') ks') := by rw [hL'] at hS'; exact hS'
    have HC : Hid (c = nc nm v m (.slice a L cap)) := by rw [hL] at hc; exact hc
    have HD : Hid (d = nc nm' v' m' (.slice a' L' cap')) := by rw [hL'] at hd; exact hd
    clear hL hL' hS hS' hc hd hH
    go_enter Tryz.func24, Tryz.ntmps24
    go_upto_region 1 with fail
    generalize (w.alloc (.cells c 30)).alloc (.cells d 30) = w1 at *
    rw [HH.out] at TB ⊢
    have LC : Lies w1 H 0 (nc nm v m (.slice a L cap)) := by rw [← HC.out]; exact TB.1
    have LD : Lies w1 (H + 1) 0 (nc nm' v' m' (.slice a' L' cap')) := by rw [← HD.out]; exact TB.2
    have HB : Hid (Below w.heap.size w w1) := B1
    obtain ⟨X, hX⟩ : ∃ X, (vx v).toArray = X := ⟨_, rfl⟩
    obtain ⟨X', hX'⟩ : ∃ X, (vx v').toArray = X := ⟨_, rfl⟩
    obtain ⟨M, hM⟩ : ∃ X, (mx m).toArray = X := ⟨_, rfl⟩
    obtain ⟨M', hM'⟩ : ∃ X, (mx m').toArray = X := ⟨_, rfl⟩
    have h40 := lies_kids LC
    have h40' := lies_kids LD
    rw [Nat.zero_add] at h40 h40'
    have E : Hid ((Lies w1 H 1 X ∧ X.size = 35) ∧ (Lies w1 (H + 1) 1 X' ∧ X'.size = 35) ∧ (Lies w1 H 36 M ∧ M.size = 4) ∧ (Lies w1 (H + 1) 36 M' ∧ M'.size = 4)) := by
      subst hX hX' hM hM'
      exact ⟨⟨lies_val LC, by simp [vx_len]⟩, ⟨lies_val LD, by simp [vx_len]⟩, ⟨lies_marks LC, by simp [mx_len]⟩, ⟨lies_marks LD, by simp [mx_len]⟩⟩
    have HX : Hid (X = (vx v).toArray ∧ X' = (vx v').toArray ∧ M = (mx m).toArray ∧ M' = (mx m').toArray) := ⟨hX.symm, hX'.symm, hM.symm, hM'.symm⟩
    clear hX hX' hM hM' LC LD TB B1
    by_cases hv : v = v'
    · have B1 : Hid ((!decide (v = v')) = false) := by show _ = _; simp [hv]
      by_cases hm : m = m'
      · have B2 : Hid ((!decide (m = m')) = false) := by show _ = _; simp [hm]
        by_cases hLL : L = L'
        · have HR : Hid (R = decide (ks = ks')) := by show _ = _; rw [← HRR.out]; simp [hv, hm]
          clear hv hm
          subst hLL
          go_wp2_with (first
            | (with_reducible refine wpList_exec (.agg X) ?_ ?_ ?_; exact exec_load24 _ rfl H 1 rfl X E.out.1.2 E.out.1.1; kernel_rfl)
            | (with_reducible refine wpList_exec (.agg X') ?_ ?_ ?_; exact exec_load24 _ rfl (H + 1) 1 rfl X' E.out.2.1.2 E.out.2.1.1; kernel_rfl)
            | (with_reducible refine wpList_exec (.bool false) ?_ ?_ ?_; exact exec_neq24' _ _ rfl X X' rfl rfl v v' HX.out.1 HX.out.2.1 false B1.out _; kernel_rfl)
            | (with_reducible refine wpList_exec (.agg M) ?_ ?_ ?_; exact exec_load27 _ rfl H 36 rfl M E.out.2.2.1.2 E.out.2.2.1.1; kernel_rfl)
            | (with_reducible refine wpList_exec (.agg M') ?_ ?_ ?_; exact exec_load27 _ rfl (H + 1) 36 rfl M' E.out.2.2.2.2 E.out.2.2.2.1; kernel_rfl)
            | (with_reducible refine wpList_exec (.bool false) ?_ ?_ ?_; exact exec_neq27' _ _ rfl M M' rfl rfl m m' HX.out.2.2.1 HX.out.2.2.2 false B2.out _; kernel_rfl))
          clear E HX B1 B2
          have HIH : Hid (∀ ks : F, ks.size < N → EqualOk ks) := ih
          clear ih
          go_loopw [5] (fun i wr => ∃ k : Nat, i = .int .i64 k ∧ k ≤ L ∧ wr.cell? ⟨H, 40, none⟩ = some (.slice a L cap) ∧ wr.cell? ⟨H + 1, 40, none⟩ = some (.slice a' L cap') ∧ Hid ((ks = ks' ↔ ks.drop k = ks'.drop k) ∧ Below w.heap.size w wr)) (fun i _ => L - iOf i)
          case atStart => exact ⟨0, rfl, Nat.zero_le _, h40, h40', by rw [F.drop_zero, F.drop_zero], HB.out⟩
          case round =>
            obtain ⟨k, rfl, hk, q1, q2, HI⟩ := hrel
            clear h40 h40'
            by_cases hlt : k < L
            · have hltI : (k : Int) < (L : Int) := by omega
              obtain ⟨g, o, cp, nm1, v1, m1, ks1, c1, hv1, hd1, hN1, hc1⟩ := HS.out.at (k := k) (by rw [HL.out]; exact hlt)
              obtain ⟨g', o', cp', nm2, v2, m2, ks2, c2, hv2, hd2, hN2, hc2⟩ := HS'.out.at (k := k) (by rw [HL'.out]; exact hlt)
              obtain rfl : a = some ⟨g, o, none⟩ := by injection hv1
              obtain rfl : a' = some ⟨g', o', none⟩ := by injection hv2
              clear hv1 hv2
              have bw := HI.out.2
              have n1 : wr.cell? ⟨g, o + k * 41, none⟩ = some (.string nm1) := by
                obtain ⟨kv1, rfl, _⟩ := hN1
                have := Lies.below hc1 bw 0 _ (nc_name ..)
                exact this
              have n2 : wr.cell? ⟨g', o' + k * 41, none⟩ = some (.string nm2) := by
                obtain ⟨kv1, rfl, _⟩ := hN2
                have := Lies.below hc2 bw 0 _ (nc_name ..)
                exact this
              by_cases hnn : nm1 = nm2
              · subst hnn
                have hks := F.kids_size hd1
                have CE := HIH.out ks1 (by omega) nm1 nm1 v1 v2 m1 m2 ks2 c1 c2
                have s1 : c1.size = 41 := by obtain ⟨kv1, rfl, _⟩ := hN1; exact nc_size ..
                have s2 : c2.size = 41 := by obtain ⟨kv1, rfl, _⟩ := hN2; exact nc_size ..
                have hl1 : ks1.okL := by have := HOK.out.1; unfold F.okL at this ⊢; omega
                have hl2 : ks2.okL := by have := HOK.out.2; have := F.kids_size hd2; unfold F.okL at *; omega
                have HN1 : Hid (∀ W, Below w.heap.size w W → HasN W c1 nm1 v1 m1 ks1) := fun W b => hN1.below b
                have HN2 : Hid (∀ W, Below w.heap.size w W → HasN W c2 nm1 v2 m2 ks2) := fun W b => hN2.below b
                have HC1 : Hid (∀ W, Below w.heap.size w W → Lies W g (o + k * 41) c1) := fun W b => Lies.below hc1 b
                have HC2 : Hid (∀ W, Below w.heap.size w W → Lies W g' (o' + k * 41) c2) := fun W b => Lies.below hc2 b
                have HB2 : Hid (Below w.heap.size w wr) := bw
                have HI1 : Hid (ks = ks' ↔ ks.drop k = ks'.drop k) := HI.out.1
                have HD1 : Hid (ks.drop k = F.cons nm1 v1 m1 ks1 (ks.drop (k + 1)) ∧ ks'.drop k = F.cons nm1 v2 m2 ks2 (ks'.drop (k + 1))) := ⟨hd1, hd2⟩
                have HCE : Hid (∀ W, Below w.heap.size w W → Calls Tryz.prog 24 #[.agg c1, .agg c2] W fun e w' => e = .returned (.bool (decide (v1 = v2 ∧ m1 = m2 ∧ ks1 = ks2))) ∧ Below W.heap.size W w') := fun W b => CE W (HN1.out W b) (HN2.out W b) hl1 hl2
                clear hd1 hd2 hN1 hN2 hc1 hc2 bw HI CE hks
                obtain ⟨b, hb⟩ : ∃ b, decide (v1 = v2 ∧ m1 = m2 ∧ ks1 = ks2) = b := ⟨_, rfl⟩
                have HBB : Hid (decide (v1 = v2 ∧ m1 = m2 ∧ ks1 = ks2) = b) := hb
                rw [hb] at HCE
                clear hb
                go_wp2_with fail
                have HST : Hid (∀ W W' : World, (fun w' => w'.cell? ⟨H, 40, none⟩ = some (.slice (some ⟨g, o, none⟩) L cap) ∧ w'.cell? ⟨H + 1, 40, none⟩ = some (.slice (some ⟨g', o', none⟩) L cap') ∧ w'.cell? ⟨g, o + k * 41, none⟩ = some (.string nm1) ∧ w'.cell? ⟨g', o' + k * 41, none⟩ = some (.string nm1) ∧ Below w.heap.size w w') W → Below W.heap.size W W' → (fun w' => w'.cell? ⟨H, 40, none⟩ = some (.slice (some ⟨g, o, none⟩) L cap) ∧ w'.cell? ⟨H + 1, 40, none⟩ = some (.slice (some ⟨g', o', none⟩) L cap') ∧ w'.cell? ⟨g, o + k * 41, none⟩ = some (.string nm1) ∧ w'.cell? ⟨g', o' + k * 41, none⟩ = some (.string nm1) ∧ Below w.heap.size w w') W') := fun W W' h b => ⟨cell_below b h.1, cell_below b h.2.1, cell_below b h.2.2.1, cell_below b h.2.2.2.1, h.2.2.2.2.trans (b.mono h.2.2.2.2.size)⟩
                refine wp_region_held_drew (S := fun w' => w'.cell? ⟨H, 40, none⟩ = some (.slice (some ⟨g, o, none⟩) L cap) ∧ w'.cell? ⟨H + 1, 40, none⟩ = some (.slice (some ⟨g', o', none⟩) L cap') ∧ w'.cell? ⟨g, o + k * 41, none⟩ = some (.string nm1) ∧ w'.cell? ⟨g', o' + k * 41, none⟩ = some (.string nm1) ∧ Below w.heap.size w w') (by kernel_rfl) ⟨q1, q2, n1, n2, HB2.out.drew⟩ (fun hS => ?_)
                refine takeD 0 34 (.pointer (some ⟨H, 40, none⟩)) hS rfl rfl (by kernel_rfl) (by kernel_rfl) (by kernel_rfl) (fun _ _ _ h => h) (by kernel_rfl) (fun wz hz => ?_) ?_
                · (try obtain ⟨z1, z2, z3, z4, z5⟩ := hz); go_simp
                try simp only [Act.put, List.setIfInBounds_toArray, List.set_cons_zero, List.set_cons_succ]
                refine takeD 1 35 (.slice (some ⟨g, o, none⟩) L cap) hS rfl rfl (by kernel_rfl) (by kernel_rfl) (by kernel_rfl) (fun _ _ _ h => h) (by kernel_rfl) (fun wz hz => ?_) ?_
                · (try obtain ⟨z1, z2, z3, z4, z5⟩ := hz); go_simp
                try simp only [Act.put, List.setIfInBounds_toArray, List.set_cons_zero, List.set_cons_succ]
                refine takeD 2 36 (.int .i64 k) hS rfl rfl (by kernel_rfl) (by kernel_rfl) (by kernel_rfl) (fun _ _ _ h => h) (by kernel_rfl) (fun wz hz => ?_) ?_
                · (try obtain ⟨z1, z2, z3, z4, z5⟩ := hz); go_simp
                try simp only [Act.put, List.setIfInBounds_toArray, List.set_cons_zero, List.set_cons_succ]
                refine takeD 3 37 (.pointer (some ⟨g, o + k * 41, none⟩)) hS rfl rfl (by kernel_rfl) (by kernel_rfl) (by kernel_rfl) (fun _ _ _ h => h) (by kernel_rfl) (fun wz hz => ?_) ?_
                · (try obtain ⟨z1, z2, z3, z4, z5⟩ := hz); go_simp
                try simp only [Act.put, List.setIfInBounds_toArray, List.set_cons_zero, List.set_cons_succ]
                refine takeD 4 38 (.pointer (some ⟨g, o + k * 41, none⟩)) hS rfl rfl (by kernel_rfl) (by kernel_rfl) (by kernel_rfl) (fun _ _ _ h => h) (by kernel_rfl) (fun wz hz => ?_) ?_
                · (try obtain ⟨z1, z2, z3, z4, z5⟩ := hz); go_simp
                try simp only [Act.put, List.setIfInBounds_toArray, List.set_cons_zero, List.set_cons_succ]
                refine takeD 5 39 (.string nm1) hS rfl rfl (by kernel_rfl) (by kernel_rfl) (by kernel_rfl) (fun _ _ _ h => h) (by kernel_rfl) (fun wz hz => ?_) ?_
                · (try obtain ⟨z1, z2, z3, z4, z5⟩ := hz); go_simp
                try simp only [Act.put, List.setIfInBounds_toArray, List.set_cons_zero, List.set_cons_succ]
                refine takeD 6 40 (.pointer (some ⟨H + 1, 40, none⟩)) hS rfl rfl (by kernel_rfl) (by kernel_rfl) (by kernel_rfl) (fun _ _ _ h => h) (by kernel_rfl) (fun wz hz => ?_) ?_
                · (try obtain ⟨z1, z2, z3, z4, z5⟩ := hz); go_simp
                try simp only [Act.put, List.setIfInBounds_toArray, List.set_cons_zero, List.set_cons_succ]
                refine takeD 7 41 (.slice (some ⟨g', o', none⟩) L cap') hS rfl rfl (by kernel_rfl) (by kernel_rfl) (by kernel_rfl) (fun _ _ _ h => h) (by kernel_rfl) (fun wz hz => ?_) ?_
                · (try obtain ⟨z1, z2, z3, z4, z5⟩ := hz); go_simp
                try simp only [Act.put, List.setIfInBounds_toArray, List.set_cons_zero, List.set_cons_succ]
                refine takeD 8 42 (.int .i64 k) hS rfl rfl (by kernel_rfl) (by kernel_rfl) (by kernel_rfl) (fun _ _ _ h => h) (by kernel_rfl) (fun wz hz => ?_) ?_
                · (try obtain ⟨z1, z2, z3, z4, z5⟩ := hz); go_simp
                try simp only [Act.put, List.setIfInBounds_toArray, List.set_cons_zero, List.set_cons_succ]
                refine takeD 9 43 (.pointer (some ⟨g', o' + k * 41, none⟩)) hS rfl rfl (by kernel_rfl) (by kernel_rfl) (by kernel_rfl) (fun _ _ _ h => h) (by kernel_rfl) (fun wz hz => ?_) ?_
                · (try obtain ⟨z1, z2, z3, z4, z5⟩ := hz); go_simp
                try simp only [Act.put, List.setIfInBounds_toArray, List.set_cons_zero, List.set_cons_succ]
                refine takeD 10 44 (.pointer (some ⟨g', o' + k * 41, none⟩)) hS rfl rfl (by kernel_rfl) (by kernel_rfl) (by kernel_rfl) (fun _ _ _ h => h) (by kernel_rfl) (fun wz hz => ?_) ?_
                · (try obtain ⟨z1, z2, z3, z4, z5⟩ := hz); go_simp
                try simp only [Act.put, List.setIfInBounds_toArray, List.set_cons_zero, List.set_cons_succ]
                refine takeD 11 45 (.string nm1) hS rfl rfl (by kernel_rfl) (by kernel_rfl) (by kernel_rfl) (fun _ _ _ h => h) (by kernel_rfl) (fun wz hz => ?_) ?_
                · (try obtain ⟨z1, z2, z3, z4, z5⟩ := hz); go_simp
                try simp only [Act.put, List.setIfInBounds_toArray, List.set_cons_zero, List.set_cons_succ]
                refine takeD 12 46 (.bool false) hS rfl rfl (by kernel_rfl) (by kernel_rfl) (by kernel_rfl) (fun _ _ _ h => h) (by kernel_rfl) (fun wz hz => ?_) ?_
                · (try obtain ⟨z1, z2, z3, z4, z5⟩ := hz); go_simp
                try simp only [Act.put, List.setIfInBounds_toArray, List.set_cons_zero, List.set_cons_succ]
                refine takeD 13 47 (.bool false) hS rfl rfl (by kernel_rfl) (by kernel_rfl) (by kernel_rfl) (fun _ _ _ h => h) (by kernel_rfl) (fun wz hz => ?_) ?_
                · (try obtain ⟨z1, z2, z3, z4, z5⟩ := hz); go_simp
                try simp only [Act.put, List.setIfInBounds_toArray, List.set_cons_zero, List.set_cons_succ]
                refine takeD 14 48 (.pointer (some ⟨H, 40, none⟩)) hS rfl rfl (by kernel_rfl) (by kernel_rfl) (by kernel_rfl) (fun _ _ _ h => h) (by kernel_rfl) (fun wz hz => ?_) ?_
                · (try obtain ⟨z1, z2, z3, z4, z5⟩ := hz); go_simp
                try simp only [Act.put, List.setIfInBounds_toArray, List.set_cons_zero, List.set_cons_succ]
                refine takeD 15 49 (.slice (some ⟨g, o, none⟩) L cap) hS rfl rfl (by kernel_rfl) (by kernel_rfl) (by kernel_rfl) (fun _ _ _ h => h) (by kernel_rfl) (fun wz hz => ?_) ?_
                · (try obtain ⟨z1, z2, z3, z4, z5⟩ := hz); go_simp
                try simp only [Act.put, List.setIfInBounds_toArray, List.set_cons_zero, List.set_cons_succ]
                refine takeD 16 50 (.int .i64 k) hS rfl rfl (by kernel_rfl) (by kernel_rfl) (by kernel_rfl) (fun _ _ _ h => h) (by kernel_rfl) (fun wz hz => ?_) ?_
                · (try obtain ⟨z1, z2, z3, z4, z5⟩ := hz); go_simp
                try simp only [Act.put, List.setIfInBounds_toArray, List.set_cons_zero, List.set_cons_succ]
                refine takeD 17 51 (.pointer (some ⟨g, o + k * 41, none⟩)) hS rfl rfl (by kernel_rfl) (by kernel_rfl) (by kernel_rfl) (fun _ _ _ h => h) (by kernel_rfl) (fun wz hz => ?_) ?_
                · (try obtain ⟨z1, z2, z3, z4, z5⟩ := hz); go_simp
                try simp only [Act.put, List.setIfInBounds_toArray, List.set_cons_zero, List.set_cons_succ]
                refine takeD 18 52 (.agg c1) hS rfl rfl (by kernel_rfl) (by kernel_rfl) (by kernel_rfl) (fun _ _ _ h => h) (by kernel_rfl) (fun wz hz => ?_) ?_
                · exact exec_load30 _ rfl g (o + k * 41) rfl c1 s1 (HC1.out wz hz.2.2.2.2)
                try simp only [Act.put, List.setIfInBounds_toArray, List.set_cons_zero, List.set_cons_succ]
                refine takeD 19 53 (.pointer (some ⟨H + 1, 40, none⟩)) hS rfl rfl (by kernel_rfl) (by kernel_rfl) (by kernel_rfl) (fun _ _ _ h => h) (by kernel_rfl) (fun wz hz => ?_) ?_
                · (try obtain ⟨z1, z2, z3, z4, z5⟩ := hz); go_simp
                try simp only [Act.put, List.setIfInBounds_toArray, List.set_cons_zero, List.set_cons_succ]
                refine takeD 20 54 (.slice (some ⟨g', o', none⟩) L cap') hS rfl rfl (by kernel_rfl) (by kernel_rfl) (by kernel_rfl) (fun _ _ _ h => h) (by kernel_rfl) (fun wz hz => ?_) ?_
                · (try obtain ⟨z1, z2, z3, z4, z5⟩ := hz); go_simp
                try simp only [Act.put, List.setIfInBounds_toArray, List.set_cons_zero, List.set_cons_succ]
                refine takeD 21 55 (.int .i64 k) hS rfl rfl (by kernel_rfl) (by kernel_rfl) (by kernel_rfl) (fun _ _ _ h => h) (by kernel_rfl) (fun wz hz => ?_) ?_
                · (try obtain ⟨z1, z2, z3, z4, z5⟩ := hz); go_simp
                try simp only [Act.put, List.setIfInBounds_toArray, List.set_cons_zero, List.set_cons_succ]
                refine takeD 22 56 (.pointer (some ⟨g', o' + k * 41, none⟩)) hS rfl rfl (by kernel_rfl) (by kernel_rfl) (by kernel_rfl) (fun _ _ _ h => h) (by kernel_rfl) (fun wz hz => ?_) ?_
                · (try obtain ⟨z1, z2, z3, z4, z5⟩ := hz); go_simp
                try simp only [Act.put, List.setIfInBounds_toArray, List.set_cons_zero, List.set_cons_succ]
                refine takeD 23 57 (.agg c2) hS rfl rfl (by kernel_rfl) (by kernel_rfl) (by kernel_rfl) (fun _ _ _ h => h) (by kernel_rfl) (fun wz hz => ?_) ?_
                · exact exec_load30 _ rfl g' (o' + k * 41) rfl c2 s2 (HC2.out wz hz.2.2.2.2)
                try simp only [Act.put, List.setIfInBounds_toArray, List.set_cons_zero, List.set_cons_succ]
                refine wpAnyH_ready (rs := [24]) (by kernel_rfl) (by simp) ?_
                refine AllReadyH.cons rfl (fun K hK => ?_) AllReadyH.nil
                rw [if_pos (by kernel_rfl)]
                go_simp
                refine (HCE.out _ hS.2.2.2.2).mono ?_
                rintro e w2 ⟨rfl, b2⟩
                have hS2 := HST.out _ _ hS b2
                refine hK.out _ _ hS2 (fun hS => ?_)
                clear hK
                refine takeD 25 59 (.bool (!b)) hS rfl rfl (by kernel_rfl) (by kernel_rfl) (by kernel_rfl) (fun _ _ _ h => h) (by kernel_rfl) (fun wz hz => ?_) ?_
                · (try obtain ⟨z1, z2, z3, z4, z5⟩ := hz); go_simp
                try simp only [Act.put, List.setIfInBounds_toArray, List.set_cons_zero, List.set_cons_succ]
                refine takeD 26 60 (.bool (!b)) hS rfl rfl (by kernel_rfl) (by kernel_rfl) (by kernel_rfl) (fun _ _ _ h => h) (by kernel_rfl) (fun wz hz => ?_) ?_
                · (try obtain ⟨z1, z2, z3, z4, z5⟩ := hz); go_simp
                try simp only [Act.put, List.setIfInBounds_toArray, List.set_cons_zero, List.set_cons_succ]
                refine wpAnyH_done (by kernel_rfl) ?_ _
                have HB3 : Hid (Below w.heap.size w w2) := hS.2.2.2.2
                have k0 := hS.1
                have k1 := hS.2.1
                clear hS hS2 b2 HST
                cases b with
                | false =>
                  have HF : Hid (decide (ks = ks') = false) := by
                    show _ = _
                    rw [decide_eq_false_iff_not, HI1.out, HD1.out.1, HD1.out.2]
                    intro e
                    injection e with _ e2 e3 e4
                    have := HBB.out
                    rw [decide_eq_false_iff_not] at this
                    exact this ⟨e2, e3, e4⟩
                  go_wp2_with fail
                  go_ret
                  exact ⟨by rw [HR.out, HF.out]; rfl, HB3.out⟩
                | true =>
                  have HI3 : Hid (ks = ks' ↔ ks.drop (k + 1) = ks'.drop (k + 1)) := by
                    show _ ↔ _
                    have := HBB.out
                    rw [decide_eq_true_eq] at this
                    obtain ⟨rfl, rfl, rfl⟩ := this
                    rw [HI1.out, HD1.out.1, HD1.out.2]
                    simp
                  go_wp2_with fail
                  go_roundw
                  case rel => exact ⟨k + 1, by go_num, by omega, k0, k1, HI3.out, HB3.out⟩
                  case measure => simp; omega
              · have b1 : (nm1.toList == nm2.toList) = false := by
                  have : ¬ nm1.toList = nm2.toList := fun e => hnn (ext_of _ _ e)
                  simpa using this
                have HF : Hid (decide (ks = ks') = false) := by
                  show _ = _
                  rw [decide_eq_false_iff_not, HI.out.1, hd1, hd2]
                  intro e
                  injection e with e1
                  exact hnn e1
                have HB2 : Hid (Below w.heap.size w wr) := bw
                clear hd1 hd2 hN1 hN2 hc1 hc2 bw HI hnn
                go_wp2_with fail
                go_region
                go_wp2_with fail
                go_ret
                exact ⟨by rw [HR.out, HF.out]; rfl, (HB2.out).drew⟩
            · have hltI : ¬ (k : Int) < (L : Int) := by omega
              have HF : Hid (decide (ks = ks') = true) := by
                show _ = _
                rw [decide_eq_true_eq, HI.out.1, F.drop_all ks k (by rw [HL.out]; omega), F.drop_all ks' k (by rw [HL'.out]; omega)]
              have HB2 : Hid (Below w.heap.size w wr) := HI.out.2
              clear HI
              go_wp2_with fail
              go_ret
              exact ⟨by rw [HR.out, HF.out]; rfl, HB2.out⟩
        · have b3 : (!decide ((L : Int) = (L' : Int))) = true := by simp; omega
          have b4 : ¬ (L : Int) = (L' : Int) := by omega
          have HR : Hid (R = false) := by
            show _ = _
            rw [← HRR.out]
            simp only [decide_eq_false_iff_not]
            rintro ⟨_, _, e⟩
            apply hLL
            rw [← HL.out, ← HL'.out, e]
          clear hv hm hLL
          go_wp2_with (first
            | (with_reducible refine wpList_exec (.agg X) ?_ ?_ ?_; exact exec_load24 _ rfl H 1 rfl X E.out.1.2 E.out.1.1; kernel_rfl)
            | (with_reducible refine wpList_exec (.agg X') ?_ ?_ ?_; exact exec_load24 _ rfl (H + 1) 1 rfl X' E.out.2.1.2 E.out.2.1.1; kernel_rfl)
            | (with_reducible refine wpList_exec (.bool false) ?_ ?_ ?_; exact exec_neq24' _ _ rfl X X' rfl rfl v v' HX.out.1 HX.out.2.1 false B1.out _; kernel_rfl)
            | (with_reducible refine wpList_exec (.agg M) ?_ ?_ ?_; exact exec_load27 _ rfl H 36 rfl M E.out.2.2.1.2 E.out.2.2.1.1; kernel_rfl)
            | (with_reducible refine wpList_exec (.agg M') ?_ ?_ ?_; exact exec_load27 _ rfl (H + 1) 36 rfl M' E.out.2.2.2.2 E.out.2.2.2.1; kernel_rfl)
            | (with_reducible refine wpList_exec (.bool false) ?_ ?_ ?_; exact exec_neq27' _ _ rfl M M' rfl rfl m m' HX.out.2.2.1 HX.out.2.2.2 false B2.out _; kernel_rfl))
          go_ret
          exact ⟨by rw [HR.out]; rfl, HB.out⟩
      · have B2 : Hid ((!decide (m = m')) = true) := by show _ = _; simp [hm]
        have HR : Hid (R = false) := by show _ = _; rw [← HRR.out]; simp [hm]
        clear hv hm
        go_wp2_with (first
          | (with_reducible refine wpList_exec (.agg X) ?_ ?_ ?_; exact exec_load24 _ rfl H 1 rfl X E.out.1.2 E.out.1.1; kernel_rfl)
          | (with_reducible refine wpList_exec (.agg X') ?_ ?_ ?_; exact exec_load24 _ rfl (H + 1) 1 rfl X' E.out.2.1.2 E.out.2.1.1; kernel_rfl)
          | (with_reducible refine wpList_exec (.bool false) ?_ ?_ ?_; exact exec_neq24' _ _ rfl X X' rfl rfl v v' HX.out.1 HX.out.2.1 false B1.out _; kernel_rfl)
          | (with_reducible refine wpList_exec (.agg M) ?_ ?_ ?_; exact exec_load27 _ rfl H 36 rfl M E.out.2.2.1.2 E.out.2.2.1.1; kernel_rfl)
          | (with_reducible refine wpList_exec (.agg M') ?_ ?_ ?_; exact exec_load27 _ rfl (H + 1) 36 rfl M' E.out.2.2.2.2 E.out.2.2.2.1; kernel_rfl)
          | (with_reducible refine wpList_exec (.bool true) ?_ ?_ ?_; exact exec_neq27' _ _ rfl M M' rfl rfl m m' HX.out.2.2.1 HX.out.2.2.2 true B2.out _; kernel_rfl))
        go_ret
        exact ⟨by rw [HR.out]; rfl, HB.out⟩
    · have B1 : Hid ((!decide (v = v')) = true) := by show _ = _; simp [hv]
      have HR : Hid (R = false) := by show _ = _; rw [← HRR.out]; simp [hv]
      clear hv
      go_wp2_with (first
        | (with_reducible refine wpList_exec (.agg X) ?_ ?_ ?_; exact exec_load24 _ rfl H 1 rfl X E.out.1.2 E.out.1.1; kernel_rfl)
        | (with_reducible refine wpList_exec (.agg X') ?_ ?_ ?_; exact exec_load24 _ rfl (H + 1) 1 rfl X' E.out.2.1.2 E.out.2.1.1; kernel_rfl)
        | (with_reducible refine wpList_exec (.bool true) ?_ ?_ ?_; exact exec_neq24' _ _ rfl X X' rfl rfl v v' HX.out.1 HX.out.2.1 true B1.out _; kernel_rfl))
      go_ret
      exact ⟨by rw [HR.out]; rfl, HB.out⟩
theorem hid {p : Prop} (h : p) : Hid p := h
def F.depth : F → Nat
  | .nil => 0
  | .cons _ _ _ k r => max (k.depth + 1) r.depth
theorem F.app_size : ∀ f g : F, (f.app g).size = f.size + g.size
  | .nil, g => by simp [F.app, F.size]
  | .cons _ _ _ _ r, g => by rw [F.app, F.size, F.app_size r g, F.size]; omega
theorem F.app_depth : ∀ f g : F, (f.app g).depth = max f.depth g.depth
  | .nil, g => by simp [F.app, F.depth]
  | .cons _ _ _ _ r, g => by rw [F.app, F.depth, F.app_depth r g, F.depth]; omega
theorem F.size_le_weight : ∀ f : F, f.size ≤ f.weight
  | .nil => Nat.le_refl _
  | .cons _ _ _ k r => by have := F.size_le_weight k; have := F.size_le_weight r; simp only [F.size, F.weight]; omega
theorem F.depth_le_size : ∀ f : F, f.depth ≤ f.size
  | .nil => Nat.le_refl _
  | .cons _ _ _ k r => by have := F.depth_le_size k; have := F.depth_le_size r; simp only [F.size, F.depth]; omega
inductive K where
  | nil
  | node (q p : Nat) (nm : ByteArray) (v : Vd) (m : Md) (kids ahead behind : K)
def K.flat : K → F
  | .nil => .nil
  | .node _ _ nm v m kids ah be => ah.flat.app (.cons nm v m kids.flat be.flat)
def tc (v : Vd) (m : Md) (pk : Value) : Array Value := (vx v ++ (mx m ++ [pk])).toArray
def kc (nm : ByteArray) (p : Nat) (pa pb : Value) (n c d : Nat) : Array Value := #[.string nm, .pointer (some ⟨p, 0, none⟩), pa, pb, .int .i64 n, .int .i64 c, .int .i64 d]
theorem tc_size (v : Vd) (m : Md) (pk : Value) : (tc v m pk).size = 40 := by simp [tc, vx_len, mx_len]
theorem tc_kids (v : Vd) (m : Md) (pk : Value) : (tc v m pk)[39]? = some pk := by
  simp only [tc, List.getElem?_toArray]
  rw [List.getElem?_append_right (by simp [vx_len]), List.getElem?_append_right (by simp [vx_len, mx_len])]
  simp [vx_len, mx_len]
theorem tc_val (v : Vd) (m : Md) (pk : Value) : (tc v m pk).extract 0 35 = (vx v).toArray := by
  simp only [tc, List.extract_toArray, List.extract_eq_take_drop, List.drop_zero]
  rw [List.take_append_of_le_length (by simp [vx_len]), List.take_of_length_le (by simp [vx_len])]
theorem tc_marks (v : Vd) (m : Md) (pk : Value) : (tc v m pk).extract 35 39 = (mx m).toArray := by
  simp only [tc, List.extract_toArray, List.extract_eq_take_drop]
  rw [List.drop_append_of_le_length (by simp [vx_len]), List.drop_of_length_le (by simp [vx_len])]
  simp [mx]
def At (w : World) : K → Value → Prop
  | .nil, u => u = .pointer none
  | .node q p nm v m kids ah be, u => u = .pointer (some ⟨q, 0, none⟩) ∧ ∃ pk pa pb, (Lies w q 0 (kc nm p pa pb (K.node q p nm v m kids ah be).flat.len (K.node q p nm v m kids ah be).flat.size (K.node q p nm v m kids ah be).flat.depth) ∧ Lies w p 0 (tc v m pk)) ∧ At w kids pk ∧ At w ah pa ∧ At w be pb
def AtT (w : World) (p : Nat) (v : Vd) (m : Md) (k : K) : Prop := ∃ pk, Lies w p 0 (tc v m pk) ∧ At w k pk
theorem At.grow {w w' : World} (hg : G w w') : ∀ {k : K} {u : Value}, At w k u → At w' k u
  | .nil, _, h => h
  | .node _ _ _ _ _ _ _ _, _, ⟨h1, pk, pa, pb, ⟨h2, h3⟩, h4, h5, h6⟩ => ⟨h1, pk, pa, pb, ⟨hg.lies h2, hg.lies h3⟩, At.grow hg h4, At.grow hg h5, At.grow hg h6⟩
theorem AtT.grow {w w' : World} {p : Nat} {v : Vd} {m : Md} {k : K} (hg : G w w') (h : AtT w p v m k) : AtT w' p v m k := by
  obtain ⟨pk, h1, h2⟩ := h
  exact ⟨pk, hg.lies h1, h2.grow hg⟩
theorem At.form {w : World} {k : K} {u : Value} (h : At w k u) : ∃ a, u = .pointer a := by
  cases k with
  | nil => exact ⟨none, h⟩
  | node => exact ⟨_, h.1⟩
theorem lies_cell {w : World} {g : Nat} {c : Array Value} (h : Lies w g 0 c) (j : Nat) (u : Value) (hj : c[j]? = some u) : w.cell? ⟨g, j, none⟩ = some u := by
  have := h j u hj
  rwa [Nat.zero_add] at this
theorem many2_any (k : K) (u : Value) (w : World) (h : At w k u) : Calls Tryz.prog 67 #[u] w fun e w' => e = .returned (.int .i64 k.flat.len) ∧ w' = w := by
  cases k with
  | nil =>
    obtain rfl := h
    go_enter Tryz.func67, Tryz.ntmps67
    go_wp2
    go_ret
    exact ⟨rfl, rfl⟩
  | node q p nm v m kids ah be =>
    obtain ⟨rfl, pk, pa, pb, ⟨h2, h3⟩, _⟩ := h
    have c4 := lies_cell h2 4 _ rfl
    generalize (K.node q p nm v m kids ah be).flat.len = n at *
    go_enter Tryz.func67, Tryz.ntmps67
    go_wp2
    go_ret
    exact ⟨rfl, rfl⟩
theorem things_any (k : K) (u : Value) (w : World) (h : At w k u) : Calls Tryz.prog 20 #[u] w fun e w' => e = .returned (.int .i64 k.flat.size) ∧ w' = w := by
  cases k with
  | nil =>
    obtain rfl := h
    go_enter Tryz.func20, Tryz.ntmps20
    go_wp2
    go_ret
    exact ⟨rfl, rfl⟩
  | node q p nm v m kids ah be =>
    obtain ⟨rfl, pk, pa, pb, ⟨h2, h3⟩, _⟩ := h
    have c4 := lies_cell h2 5 _ rfl
    generalize (K.node q p nm v m kids ah be).flat.size = n at *
    go_enter Tryz.func20, Tryz.ntmps20
    go_wp2
    go_ret
    exact ⟨rfl, rfl⟩
theorem levels_any (k : K) (u : Value) (w : World) (h : At w k u) : Calls Tryz.prog 27 #[u] w fun e w' => e = .returned (.int .i64 k.flat.depth) ∧ w' = w := by
  cases k with
  | nil =>
    obtain rfl := h
    go_enter Tryz.func27, Tryz.ntmps27
    go_wp2
    go_ret
    exact ⟨rfl, rfl⟩
  | node q p nm v m kids ah be =>
    obtain ⟨rfl, pk, pa, pb, ⟨h2, h3⟩, _⟩ := h
    have c4 := lies_cell h2 6 _ rfl
    generalize (K.node q p nm v m kids ah be).flat.depth = n at *
    go_enter Tryz.func27, Tryz.ntmps27
    go_wp2
    go_ret
    exact ⟨rfl, rfl⟩
theorem addN_any (a b : Nat) (w : World) (h : a + b ≤ 9223372036854775807) : Calls Tryz.prog 19 #[.int .i64 a, .int .i64 b] w fun e w' => e = .returned (.int .i64 ((a + b : Nat) : Int)) ∧ w' = w := by
  have h1 : IntKind.i64.wrap (9223372036854775807 - (b : Int)) = 9223372036854775807 - (b : Int) := by rw [IntKind.wrap_i64]; omega
  have h2 : IntKind.i64.wrap ((a : Int) + (b : Int)) = (a : Int) + (b : Int) := by rw [IntKind.wrap_i64]; omega
  have h3 : ¬ (9223372036854775807 - (b : Int) < (a : Int)) := by omega
  go_enter Tryz.func19, Tryz.ntmps19
  go_wp2
  go_ret
  exact ⟨by simp, rfl⟩
end Go.Proofs.YtbjjbgaomoihaaaGreatDoor
