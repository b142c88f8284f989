/-
  THE ROOM's Node, a new Room; what spoil leaves of a tree.
-/
import Derived.Test.YtjkbhfkeagfhbaaLay
namespace Go.Proofs.Ytjkbhfkeagfhbaa
open Go.RowKit

/-- what holdNodes reads of the Room -/
theorem RM.at {w : World} {R : Nat} {s : Sg} (h : RM w R s) {j : Nat} (hj : j < s.ls.length) : ∃ b1 c1 b2 c2 e, w.cell? ⟨R, 22, none⟩ = some (.slice (some ⟨b1, 0, none⟩) s.ls.length c1) ∧ w.cell? ⟨R, 23, none⟩ = some (.slice (some ⟨b2, 0, none⟩) s.ls.length c2) ∧
    w.cell? ⟨b1, j, none⟩ = some (Kr.v e) ∧ w.cell? ⟨b2, j, none⟩ = some (.int .i64 e.n) ∧ Mk w e.g e.n e.k ∧ s.ls[j]? = some e := by
  obtain ⟨n, hn⟩ : ∃ n, s.ls.length = n + 1 := ⟨s.ls.length - 1, by omega⟩
  have o1 := h.o1
  have o2 := h.o2
  rw [hn] at o1 o2
  obtain ⟨b1, c1, e1⟩ := row_form o1
  obtain ⟨b2, c2, e2⟩ := row_form o2
  have he : s.ls[j]? = some s.ls[j] := by simp [hj]
  refine ⟨b1, c1, b2, c2, s.ls[j], by rw [h.c22, e1, hn], by rw [h.c23, e2, hn], ?_, ?_, (h.rows _ (List.getElem_mem hj)).2, he⟩
  · have := World.ownsRow.cells o1 (g := b1) (by rw [e1]; rfl) j (Kr.v s.ls[j]) (by rw [List.getElem?_map, he]; rfl)
    rwa [Addr.add_mid, Nat.zero_add] at this
  · have := World.ownsRow.cells o2 (g := b2) (by rw [e2]; rfl) j (.int .i64 s.ls[j].n) (by rw [List.getElem?_map, he]; rfl)
    rwa [Addr.add_mid, Nat.zero_add] at this

set_option maxRecDepth 100000 in
set_option maxHeartbeats 4000000 in
theorem holdNodes_any (R : Nat) (s : Sg) (w : World) (h : RM w R s) (hl : s.ls.length ≤ 60000) :
    Calls Try.prog 51 #[.pointer (some ⟨R, 0, none⟩)] w fun e w' => e = .returned (.bool true) ∧ G w w' := by
  obtain ⟨L, hL⟩ : ∃ L, s.ls.length = L := ⟨_, rfl⟩
  have HM := hid (⟨h, hL, h.bd⟩ : RM w R s ∧ s.ls.length = L ∧ ∀ e ∈ s.ls, e.n ≤ 20000 ∧ e.k ≤ 40)
  rw [hL] at hl
  clear h hL
  have CWA := fun i W hi => word_any i W hi
  go_enter Try.func51, Try.ntmps51
  go_wp2_with fail
  go_loopw [3] (fun i wr => ∃ j : Nat, i = .int .i64 j ∧ j ≤ L ∧ Hid (G w wr)) (fun i _ => L - iOf i)
  case atStart => exact ⟨0, rfl, Nat.zero_le _, Below.refl _ _⟩
  case round =>
    obtain ⟨j, rfl, hj, HG⟩ := hrel
    by_cases hlt : j < L
    · have hltI : (j : Int) < (L : Int) := by omega
      obtain ⟨b1, p1, b2, p2, ⟨g, n, k, cap⟩, q22, q23, r1, r2, _, he⟩ := (HM.out.1.grow HG.out).at (j := j) (by rw [HM.out.2.1]; exact hlt)
      have hbe := HM.out.2.2 _ (List.mem_of_getElem? he)
      rw [HM.out.2.1] at q22 q23
      simp only [Kr.v] at r1 r2 hbe
      obtain ⟨hn, hk⟩ := hbe
      have HE := hid he
      clear he
      go_wp2_with fail
      have HQ := hid (⟨q22, r1⟩ : wr.cell? ⟨R, 22, none⟩ = some (.slice (some ⟨b1, 0, none⟩) L p1) ∧ wr.cell? ⟨b1, j, none⟩ = some (.slice (some ⟨g, 0, none⟩) (n + k) cap))
      clear q22 q23 r1 r2
      go_loopw [5] (fun y wz => ∃ m : Nat, y = .int .i64 ((n + m : Nat) : Int) ∧ m ≤ k ∧ Hid (G wr wz)) (fun y _ => n + k - iOf y)
      case atStart => exact ⟨0, rfl, Nat.zero_le _, Below.refl _ _⟩
      case round =>
        obtain ⟨m, rfl, hm, HZ⟩ := hrel
        have q22 : wr.cell? ⟨R, 22, none⟩ = some (.slice (some ⟨b1, 0, none⟩) L p1) := HZ.out.cell HQ.out.1
        have r1 : wr.cell? ⟨b1, j, none⟩ = some (.slice (some ⟨g, 0, none⟩) (n + k) cap) := HZ.out.cell HQ.out.2
        by_cases hmk : m < k
        · have hmI : (m : Int) < (k : Int) := by omega
          have hmN : n + m < n + k := by omega
          obtain ⟨c, hc, hs, h1, h0, h40⟩ : ∃ c, Lies wr g ((n + m) * 41) c ∧ c.size = 41 ∧ c.all (·.oneCell') = true ∧ c[0]? = some (.string (wordB m)) ∧ c[40]? = some (.slice none 0 0) := by
            have hmm := ((HM.out.1.grow (HG.out.trans HZ.out)).rows _ (List.mem_of_getElem? HE.out)).2
            exact hmm m hmk
          have CW0 := fun W => CWA m W (by omega)
          obtain ⟨x, hx⟩ : ∃ x, wordB m = x := ⟨_, rfl⟩
          have CW : ∀ W, Calls Try.prog 79 #[.int .i64 m] W fun e w' => e = .returned (.string x) ∧ w' = W := by rw [← hx]; exact CW0
          rw [hx] at h0
          have HC := hid (⟨hc, hs, h1⟩ : Lies wr g ((n + m) * 41) c ∧ c.size = 41 ∧ c.all (·.oneCell') = true)
          obtain ⟨N1, N2, N3⟩ := new_var wr c
          have V0 := lies_cell N2.lies 0 (.string x) h0
          have V40 := lies_cell N2.lies 40 (.slice none 0 0) h40
          have HN1 := hid N1
          clear hc hs h1 h0 h40 CW0 hx N1 N2 N3
          go_upto_region 9 with (first
            | (with_reducible refine wpList_exec (.agg c) ?_ ?_ ?_; exact exec_load30 _ rfl g ((n + m) * 41) rfl c HC.out.2.1 HC.out.1; kernel_rfl)
            | (with_reducible refine wpList_execW (.pointer (some ⟨wr.heap.size, 0, none⟩)) (wr.alloc (.cells z30 30)) ?_ ?_ ?_; exact exec_alloc30 rfl _; kernel_rfl)
            | (with_reducible refine wpList_skipW ((wr.alloc (.cells z30 30)).setRow wr.heap.size c) ?_ ?_ ?_; exact exec_store30 _ _ rfl wr.heap.size _ z30 rfl rfl _ (Var.new wr z30) HC.out.2.1 z30_size HC.out.2.2; kernel_rfl))
          try simp only [Act.put, List.setIfInBounds_toArray, List.set_cons_zero, List.set_cons_succ]
          generalize (wr.alloc (.cells z30 30)).setRow wr.heap.size c = wx at *
          generalize wr.heap.size = X at *

          refine wp_region_G ?_
          replace V0 := (G.drew wx).cell V0
          replace V40 := (G.drew wx).cell V40
          have HW := hid (HN1.out.trans (G.drew wx))
          generalize wx.drew = wy at *
          refine takeG 0 46 (.pointer (some ⟨X, 0, none⟩)) rfl rfl (by kernel_rfl) (by kernel_rfl) (by kernel_rfl) (fun _ _ _ h => h) (by kernel_rfl) (fun wz hz => ?_) ?_
          · go_simp
          try simp only [Act.put, List.setIfInBounds_toArray, List.set_cons_zero, List.set_cons_succ]
          refine takeG 1 47 (.string x) rfl rfl (by kernel_rfl) (by kernel_rfl) (by kernel_rfl) (fun _ _ _ h => h) (by kernel_rfl) (fun wz hz => ?_) ?_
          · have y0 := hz.cell V0; go_simp
          try simp only [Act.put, List.setIfInBounds_toArray, List.set_cons_zero, List.set_cons_succ]
          refine takeG 2 48 (.int .i64 ((n + m : Nat) : Int)) rfl rfl (by kernel_rfl) (by kernel_rfl) (by kernel_rfl) (fun _ _ _ h => h) (by kernel_rfl) (fun wz hz => ?_) ?_
          · rfl
          try simp only [Act.put, List.setIfInBounds_toArray, List.set_cons_zero, List.set_cons_succ]
          refine takeG 3 49 (.int .i64 n) rfl rfl (by kernel_rfl) (by kernel_rfl) (by kernel_rfl) (fun _ _ _ h => h) (by kernel_rfl) (fun wz hz => ?_) ?_
          · rfl
          try simp only [Act.put, List.setIfInBounds_toArray, List.set_cons_zero, List.set_cons_succ]
          refine takeG 4 50 (.int .i64 m) rfl rfl (by kernel_rfl) (by kernel_rfl) (by kernel_rfl) (fun _ _ _ h => h) (by kernel_rfl) (fun wz hz => ?_) ?_
          · go_simp; rw [IntKind.wrap_i64]; omega
          try simp only [Act.put, List.setIfInBounds_toArray, List.set_cons_zero, List.set_cons_succ]
          refine callG 5 51 (.string x) 79 #[.int .i64 m] rfl rfl (by kernel_rfl) (by kernel_rfl) (by kernel_rfl) (fun _ _ _ h => h) (by kernel_rfl) (fun wz => by go_simp) (fun wz hz => ?_) ?_
          · exact (CW wz).mono fun e w' ⟨h1, h2⟩ => ⟨h1, by rw [h2]; exact Below.refl _ _⟩
          try simp only [Act.put, List.setIfInBounds_toArray, List.set_cons_zero, List.set_cons_succ]
          refine takeG 6 52 (.bool false) rfl rfl (by kernel_rfl) (by kernel_rfl) (by kernel_rfl) (fun _ _ _ h => h) (by kernel_rfl) (fun wz hz => ?_) ?_
          · go_simp
          try simp only [Act.put, List.setIfInBounds_toArray, List.set_cons_zero, List.set_cons_succ]
          refine takeG 7 53 (.bool false) rfl rfl (by kernel_rfl) (by kernel_rfl) (by kernel_rfl) (fun _ _ _ h => h) (by kernel_rfl) (fun wz hz => ?_) ?_
          · rfl
          try simp only [Act.put, List.setIfInBounds_toArray, List.set_cons_zero, List.set_cons_succ]
          refine takeG 8 54 (.pointer (some ⟨X, 40, none⟩)) rfl rfl (by kernel_rfl) (by kernel_rfl) (by kernel_rfl) (fun _ _ _ h => h) (by kernel_rfl) (fun wz hz => ?_) ?_
          · go_simp
          try simp only [Act.put, List.setIfInBounds_toArray, List.set_cons_zero, List.set_cons_succ]
          refine takeG 9 55 (.slice none 0 0) rfl rfl (by kernel_rfl) (by kernel_rfl) (by kernel_rfl) (fun _ _ _ h => h) (by kernel_rfl) (fun wz hz => ?_) ?_
          · have y0 := hz.cell V40; go_simp
          try simp only [Act.put, List.setIfInBounds_toArray, List.set_cons_zero, List.set_cons_succ]
          refine takeG 10 56 (.int .i64 0) rfl rfl (by kernel_rfl) (by kernel_rfl) (by kernel_rfl) (fun _ _ _ h => h) (by kernel_rfl) (fun wz hz => ?_) ?_
          · go_simp
          try simp only [Act.put, List.setIfInBounds_toArray, List.set_cons_zero, List.set_cons_succ]
          refine takeG 11 57 (.bool false) rfl rfl (by kernel_rfl) (by kernel_rfl) (by kernel_rfl) (fun _ _ _ h => h) (by kernel_rfl) (fun wz hz => ?_) ?_
          · go_simp
          try simp only [Act.put, List.setIfInBounds_toArray, List.set_cons_zero, List.set_cons_succ]
          refine takeG 12 58 (.bool false) rfl rfl (by kernel_rfl) (by kernel_rfl) (by kernel_rfl) (fun _ _ _ h => h) (by kernel_rfl) (fun wz hz => ?_) ?_
          · go_simp
          try simp only [Act.put, List.setIfInBounds_toArray, List.set_cons_zero, List.set_cons_succ]
          refine doneG (by kernel_rfl) (fun w9 hg9 => ?_)
          have R9 := hid (HZ.out.trans (HW.out.trans hg9))
          clear hg9
          go_wp2_with fail
          go_roundw
          case rel => exact ⟨m + 1, by go_num, by omega, R9.out⟩
          case measure => simp; omega
        · have hmI : ¬ (m : Int) < (k : Int) := by omega
          have R9 := hid (HG.out.trans HZ.out)
          go_wp2_with fail
          go_roundw
          case rel => exact ⟨j + 1, by go_num, by omega, R9.out⟩
          case measure => simp; omega
    · have hltI : ¬ (j : Int) < (L : Int) := by omega
      have q22 : ∃ a p, wr.cell? ⟨R, 22, none⟩ = some (.slice a L p) := by
        have h := HM.out.1.grow HG.out
        obtain ⟨a, p, e⟩ := owns_form h.o1
        exact ⟨a, p, by rw [h.c22, e, HM.out.2.1]⟩
      obtain ⟨a, p, q22⟩ := q22
      go_wp2_with fail
      go_ret
      exact ⟨rfl, HG.out⟩

set_option maxHeartbeats 1600000 in
set_option maxRecDepth 100000 in
theorem roomHold_any (R : Nat) (s : Sg) (w : World) (h : RM w R s) (hl : s.ls.length ≤ 60000) : Calls Try.prog 13 #[.pointer (some ⟨R, 0, none⟩)] w fun e w' => e = .returned (.bool true) ∧ G w w' := by
  have C51 := holdNodes_any R s w h hl
  have C40 := hold40_idle R w (h.idle 0 (by decide) (by decide) (by decide))
  have C41 := hold41_idle R w (h.idle 2 (by decide) (by decide) (by decide))
  have C42 := hold42_idle R w (h.idle 4 (by decide) (by decide) (by decide))
  have C43 := hold43_idle R w (h.idle 6 (by decide) (by decide) (by decide))
  have C44 := hold44_idle R w (h.idle 8 (by decide) (by decide) (by decide))
  have C45 := hold45_idle R w (h.idle 10 (by decide) (by decide) (by decide))
  have C46 := hold46_idle R w (h.idle 12 (by decide) (by decide) (by decide))
  have C47 := hold47_idle R w (h.idle 14 (by decide) (by decide) (by decide))
  have C48 := hold48_idle R w (h.idle 16 (by decide) (by decide) (by decide))
  have C49 := hold49_idle R w (h.idle 18 (by decide) (by decide) (by decide))
  have C50 := hold50_idle R w (h.idle 20 (by decide) (by decide) (by decide))
  have C52 : ∀ w', G w w' → Calls Try.prog 52 #[.pointer (some ⟨R, 0, none⟩)] w' fun e w2 => e = .returned (.bool true) ∧ w2 = w' := fun w' hg => hold52_idle R w' ((h.grow hg).idle 24 (by decide) (by decide) (by decide))
  clear h
  go_enter Try.func13, Try.ntmps13
  go_wp2_with (first
    | (go_at_call 40; refine C40.mono ?_; rintro e w2 ⟨rfl, e2⟩; subst e2)
    | (go_at_call 41; refine C41.mono ?_; rintro e w2 ⟨rfl, e2⟩; subst e2)
    | (go_at_call 42; refine C42.mono ?_; rintro e w2 ⟨rfl, e2⟩; subst e2)
    | (go_at_call 43; refine C43.mono ?_; rintro e w2 ⟨rfl, e2⟩; subst e2)
    | (go_at_call 44; refine C44.mono ?_; rintro e w2 ⟨rfl, e2⟩; subst e2)
    | (go_at_call 45; refine C45.mono ?_; rintro e w2 ⟨rfl, e2⟩; subst e2)
    | (go_at_call 46; refine C46.mono ?_; rintro e w2 ⟨rfl, e2⟩; subst e2)
    | (go_at_call 47; refine C47.mono ?_; rintro e w2 ⟨rfl, e2⟩; subst e2)
    | (go_at_call 48; refine C48.mono ?_; rintro e w2 ⟨rfl, e2⟩; subst e2)
    | (go_at_call 49; refine C49.mono ?_; rintro e w2 ⟨rfl, e2⟩; subst e2)
    | (go_at_call 50; refine C50.mono ?_; rintro e w2 ⟨rfl, e2⟩; subst e2)
    | (go_at_call 51; refine C51.mono ?_; rintro e w3 ⟨rfl, hg3⟩; have C52' := C52 w3 hg3; have HG3 := hid hg3; clear C52 hg3)
    | (go_at_call 52; refine C52'.mono ?_; rintro e w4 ⟨rfl, e2⟩; subst e2))
  go_ret
  exact ⟨rfl, HG3.out⟩
end Go.Proofs.Ytjkbhfkeagfhbaa
namespace Go.Proofs.Ytjkbhfkeagfhbaa
open Go.RowKit

set_option maxRecDepth 100000 in
set_option maxHeartbeats 1000000 in
theorem roomNodes_any (w0 : World) (R : Nat) (hR0 : w0.heap.size = R) (f : F) (vl : Value) (w : World) (s : Sg) (hS : HasS w0 vl f) (hb : Below R w0 w) (hm : RM w R s) (hw : f.weight ≤ 20000) (hn : s.ls.length + f.size ≤ 60000) :
    Calls Try.prog 33 #[.pointer (some ⟨R, 0, none⟩), vl] w fun e w' => ∃ kv s', e = .returned kv ∧ LayTo R w s w' s' kv f := by
  have C70 := lay_any w0 R hR0 (f.size + 1) f (Nat.lt_succ_self _) vl 40 w s hS hb hm (by omega) (by omega) hw hn
  obtain ⟨a, cap, rfl, _⟩ := hS.form
  clear hS hb hm hw hn
  go_enter Try.func33, Try.ntmps33
  go_wp2_with fail
  refine C70.mono ?_
  rintro e w1 ⟨kv, s', rfl, h⟩
  have HX := hid h
  obtain ⟨a1, cap1, rfl, _⟩ := h.2.2.2
  clear h C70
  go_wp2
  go_ret
  exact ⟨_, _, rfl, HX.out⟩
set_option maxRecDepth 100000 in
set_option maxHeartbeats 2000000 in
theorem roomNode_any (w0 : World) (R : Nat) (hR0 : w0.heap.size = R) (ks : F) (c : Array Value) (nm : ByteArray) (v : Vd) (m : Md) (w : World) (s : Sg) (hN : HasN w0 c nm v m ks) (hb : Below R w0 w) (hm : RM w R s) (hw : ks.weight ≤ 20000) (hn : s.ls.length + ks.size ≤ 60000) :
    Calls Try.prog 7 #[.pointer (some ⟨R, 0, none⟩), .agg c] w fun e w' => ∃ kv s', e = .returned (.agg (nc nm v m kv)) ∧ LayTo R w s w' s' kv ks := by
  obtain ⟨kv0, hc, hS⟩ := hN
  have hsz : c.size = 41 := by rw [hc]; exact nc_size ..
  have hgB : Below w.heap.size w ((w.alloc (.cells c 30)).alloc (.cells z30 30)) := (G.alloc _ _).trans (G.alloc _ _)
  have hRl : R < w.heap.size := hm.lt (.inl (.inl rfl))
  have hV0 := (Var.new w c).grow (G.alloc (w.alloc (.cells c 30)) (.cells z30 30))
  have hV1 := Var.new (w.alloc (.cells c 30)) z30
  rw [World.size_alloc] at hV1
  have C70 := roomNodes_any w0 R hR0 ks kv0 _ s hS (hb.trans (hgB.mono (by omega))) (hm.grow hgB) hw hn
  obtain ⟨a, cap, rfl, _⟩ := hS.form
  have c40 := lies_cell hV0.lies 40 (.slice a ks.len cap) (by rw [hc]; exact nc_kids ..)
  have HX := hid (⟨hgB, hm, hV0, hV1, hc, by simp⟩ : Below w.heap.size w ((w.alloc (.cells c 30)).alloc (.cells z30 30)) ∧ RM w R s ∧ Var ((w.alloc (.cells c 30)).alloc (.cells z30 30)) w.heap.size c ∧ Var ((w.alloc (.cells c 30)).alloc (.cells z30 30)) (w.heap.size + 1) z30 ∧ c = nc nm v m (.slice a ks.len cap) ∧ ((w.alloc (.cells c 30)).alloc (.cells z30 30)).heap.size = w.heap.size + 2)
  clear hgB hm hV0 hV1 hc hS hb hw hn
  go_enter Try.func7, Try.ntmps7
  go_upto_region 1 with (with_reducible refine wpList_execW (.pointer (some ⟨(w.alloc (.cells c 30)).heap.size, 0, none⟩)) ((w.alloc (.cells c 30)).alloc (.cells z30 30)) ?_ ?_ ?_; exact exec_alloc30 rfl _; kernel_rfl)
  try simp only [Act.put, List.setIfInBounds_toArray, List.set_cons_zero, List.set_cons_succ, World.size_alloc]
  generalize (w.alloc (.cells c 30)).alloc (.cells z30 30) = w2 at *
  obtain ⟨B, hB⟩ : ∃ B, w.heap.size = B := ⟨_, rfl⟩
  rw [hB] at c40 HX ⊢
  have HB := hid hB
  clear hB
  go_wp2_with (first
    | (go_at_call 33; refine C70.mono ?_; rintro e w3 ⟨kv, s', rfl, hL⟩; have HL := hid hL; obtain ⟨a3, cap3, rfl, hl3⟩ := hL.2.2.2; clear hL C70; have hV0 : Var w3 B c := (HL.out.2.1.block B (by have := HX.out.2.2.2.2.2; omega) (fun e => by have := HX.out.2.1.lt (.inl e); have := HB.out; omega)).trans HX.out.2.2.1; have hfz : w3.frozen? ⟨B, 40, none⟩ = false := var_frozen hV0 40; have q40 := lies_cell hV0.lies 40 (.slice a ks.len cap) (by rw [HX.out.2.2.2.2.1]; exact nc_kids ..); have hVS : Var (w3.setCell ⟨B, 40, none⟩ (.slice a3 ks.len cap3)) B (nc nm v m (.slice a3 ks.len cap3)) := by { have := hV0.setCell 40 (.slice a3 ks.len cap3); rw [HX.out.2.2.2.2.1, nc_kset] at this; exact this }; have hVT : Var (w3.setCell ⟨B, 40, none⟩ (.slice a3 ks.len cap3)) (B + 1) z30 := (Below.heap_setCell _ _ _ _ (by show B + 1 ≠ B; omega)).trans ((HL.out.2.1.block (B + 1) (by have := HX.out.2.2.2.2.2; omega) (fun e => by have := HX.out.2.1.lt (.inl e); have := HB.out; omega)).trans HX.out.2.2.2.1); have HV := hid (⟨hVS, hVT⟩ : _ ∧ _); clear hVS hVT hV0 hl3)
    | (with_reducible refine wpList_exec (.agg (nc nm v m (.slice a3 ks.len cap3))) ?_ ?_ ?_; exact exec_load30 _ rfl B 0 rfl _ (nc_size ..) HV.out.1.lies; kernel_rfl)
    | (with_reducible refine wpList_skipW ((w3.setCell ⟨B, 40, none⟩ (.slice a3 ks.len cap3)).setRow (B + 1) (nc nm v m (.slice a3 ks.len cap3))) ?_ ?_ ?_; exact exec_store30 _ _ rfl (B + 1) _ z30 rfl rfl _ HV.out.2 (nc_size ..) z30_size (nc_one _ _ _ _ rfl); kernel_rfl))
  refine bodyPost_ret (results_cell_row (P := Try.prog) (p := 4) (ty := 30) rfl _ _ (B + 1) 30 (nc nm v m (.slice a3 ks.len cap3)) (0, 0) _ rfl HV.out.2.set under30 rfl (by rw [size30, nc_size])) rfl ?_
  refine ⟨_, s', rfl, HL.out.later HX.out.2.1 (by rw [HB.out]; exact HX.out.1) (fun b hb => ?_) ⟨rfl, rfl, rfl, by simp, fun b hb => ?_⟩⟩
  · have h1 := HX.out.2.2.2.2.2
    have h2 := HB.out
    exact (setRow_other _ (B + 1) b _ (by omega)).trans (Below.heap_setCell _ _ _ b (by show b ≠ B; omega))
  · have h2 := HB.out
    exact (setRow_other _ (B + 1) b _ (by omega)).trans (Below.heap_setCell _ _ _ b (by show b ≠ B; omega))

/-- the block of a new Room -/
def roomObj : Obj := .cells #[Value.slice none 0 0, Value.slice none 0 0, Value.slice none 0 0, Value.slice none 0 0, Value.slice none 0 0, Value.slice none 0 0, Value.slice none 0 0, Value.slice none 0 0, Value.slice none 0 0, Value.slice none 0 0, Value.slice none 0 0, Value.slice none 0 0, Value.slice none 0 0, Value.slice none 0 0, Value.slice none 0 0, Value.slice none 0 0, Value.slice none 0 0, Value.slice none 0 0, Value.slice none 0 0, Value.slice none 0 0, Value.slice none 0 0, Value.slice none 0 0, Value.slice none 0 0, Value.slice none 0 0, Value.slice none 0 0, Value.slice none 0 0] 48
def sg0 : Sg := ⟨.slice none 0 0, .slice none 0 0, []⟩
theorem room_new (w : World) : RM (w.alloc roomObj) w.heap.size sg0 := by
  have h := World.alloc_heap_new w roomObj
  have hc : ∀ i, i < 26 → (w.alloc roomObj).cell? ⟨w.heap.size, i, none⟩ = some (.slice none 0 0) := by
    intro i hi
    have e : roomObj = .cells (List.replicate 26 (Value.slice none 0 0)).toArray 48 := rfl
    rw [e] at h
    simp only [World.cell?, e, h]
    show (List.replicate 26 (Value.slice none 0 0)).toArray[i]? = _
    rw [List.getElem?_toArray, List.getElem?_replicate, if_pos hi]
  refine ⟨fun i hi _ _ => hc i hi, hc 22 (by decide), hc 23 (by decide), fun o => ?_, World.ownsRow_nil _ _ _ _, World.ownsRow_nil _ _ _ _, fun b hb => by simp [sg0, Value.ownBlock] at hb, fun e he => by simp [sg0] at he, fun e he => by simp [sg0] at he, fun e he => by simp [sg0] at he⟩
  simp only [World.frozen?, h]
  simp [roomObj]

/-- a block that opens as a row of things does -/
def Rw (w : World) (b : Nat) : Prop := ∃ s i, w.cell? ⟨b, 0, none⟩ = some (.string s) ∧ w.cell? ⟨b, 1, none⟩ = some (.int .i64 i)
theorem rw_of_lies {w : World} {g : Nat} {nm : ByteArray} {v : Vd} {m : Md} {kv : Value} (h : Lies w g 0 (nc nm v m kv)) : Rw w g := ⟨nm, v.kind, lies_cell h 0 _ (nc_name ..), lies_cell h 1 _ (by simp [nc, vx])⟩
theorem HasRD.rw {w : World} : ∀ {f : F} {S : Nat → Prop} {g o : Nat}, HasRD w f S g o → HasRD w f (fun b => S b ∧ Rw w b) g o
  | .nil, _, _, _, _ => trivial
  | .cons _ _ _ ks _, S, g, o, ⟨S1, S2, a, cap, h1, h2, hc, hl, hk, hr⟩ => by
    refine ⟨fun b => S1 b ∧ Rw w b, fun b => S2 b ∧ Rw w b, a, cap, fun b hb => ⟨⟨(h1 b hb.1).1, hb.2⟩, fun e => (h1 b hb.1).2 e.1⟩, fun b hb => ⟨h2 b hb.1, hb.2⟩, hc, hl, ?_, hr.rw⟩
    rcases hk with hk | ⟨g', ha, hs, hf, h⟩
    · exact .inl hk
    · cases ks with
      | nil => exact .inl rfl
      | cons nm' v' m' ks' r' =>
        have hg : Rw w g' := by obtain ⟨_, _, _, _, _, _, hc', _⟩ := h; exact rw_of_lies hc'
        exact .inr ⟨g', ha, ⟨hs, hg⟩, hf, h.rw.keep (fun b hb => ⟨rfl, ⟨hb.1.1, hb.2⟩, hb.1.2⟩) rfl⟩
theorem HasSD.rw {w : World} {S : Nat → Prop} {v : Value} {f : F} (h : HasSD w S v f) : HasSD w (fun b => S b ∧ Rw w b) v f := by
  obtain ⟨a, cap, hv, hl, h⟩ := h
  refine ⟨a, cap, hv, hl, ?_⟩
  rcases h with hk | ⟨g', ha, hs, hf, h⟩
  · exact .inl hk
  · cases f with
    | nil => exact .inl rfl
    | cons nm' v' m' ks' r' =>
      have hg : Rw w g' := by obtain ⟨_, _, _, _, _, _, hc', _⟩ := h; exact rw_of_lies hc'
      exact .inr ⟨g', ha, ⟨hs, hg⟩, hf, h.rw.keep (fun b hb => ⟨rfl, ⟨hb.1.1, hb.2⟩, hb.1.2⟩) rfl⟩
theorem tc_not {w : World} {p : Nat} {v : Vd} {m : Md} {pk : Value} (h : Lies w p 0 (tc v m pk)) : ¬ Rw w p := fun ⟨s, i, h0, _⟩ => by
  have := lies_cell h 0 (.int .i64 v.kind) (by simp [tc, vx])
  rw [this] at h0; cases h0
theorem kc_not {w : World} {q p : Nat} {nm : ByteArray} {pa pb : Value} {a b d : Nat} (h : Lies w q 0 (kc nm p pa pb a b d)) : ¬ Rw w q := fun ⟨s, i, _, h1⟩ => by
  have := lies_cell h 1 (.pointer (some ⟨p, 0, none⟩)) (by simp [kc])
  rw [this] at h1; cases h1
theorem At.keepR {w w' : World} (hb : ∀ b, ¬ Rw w b → w'.heap[b]? = w.heap[b]?) : ∀ {k : K} {u : Value}, At w k u → At w' k u
  | .nil, _, h => h
  | .node _ _ _ _ _ _ _ _, _, ⟨h1, pk, pa, pb, ⟨h2, h3⟩, h4, h5, h6⟩ => ⟨h1, pk, pa, pb, ⟨h2.sameB (hb _ (kc_not h2)), h3.sameB (hb _ (tc_not h3))⟩, At.keepR hb h4, At.keepR hb h5, At.keepR hb h6⟩
theorem AtT.keepR {w w' : World} (hb : ∀ b, ¬ Rw w b → w'.heap[b]? = w.heap[b]?) {p : Nat} {v : Vd} {m : Md} {k : K} (h : AtT w p v m k) : AtT w' p v m k := by
  obtain ⟨pk, h1, h2⟩ := h
  exact ⟨pk, h1.sameB (hb _ (tc_not h1)), h2.keepR hb⟩
end Go.Proofs.Ytjkbhfkeagfhbaa
