/-
  A SETUP'S READER, the program's: words and numbers that are wanted, and the end.
-/
import Derived.Test.YtfigneaaeakbcaaDoorRe
namespace Go.Proofs.YtfigneaaeakbcaaDoor
open Go.RowKit Hm
attribute [local go_sem] Oper.semAt_some

theorem g_new {b : Nat} {w w1 w2 : World} (h : G w w1) (k : Kp (fun g => g = b) w1 w2) (hb : w.heap.size ≤ b) : G w w2 := ((Kp.of h : Kp (fun _ => False) w w1).new k hb).below (Nat.le_refl _) (fun _ q => q.elim)
theorem G.tr {w w1 w2 : World} (h : G w w1) (k : G w1 w2) : G w w2 := Below.trans (B := w.heap.size) h (Below.mono k h.size)
def WdP (c : Nat) (s : By) (ws : List W) (e : Nat) (w : World) (E : Ending) (w' : World) : Prop := Kp (fun g => g = c) w w' ∧ match wordW s ws e with
  | .ok r => E = .returned .nilIface ∧ Cr c r e w'
  | .error y => ∃ v, E = .returned v ∧ Flt w' v y
def NmP (c : Nat) (lo hi : Int) (ws : List W) (e : Nat) (w : World) (E : Ending) (w' : World) : Prop := Kp (fun g => g = c) w w' ∧ match numW lo hi ws e with
  | .ok (n, r) => E = .returned (.tuple #[.int .i64 n, .nilIface]) ∧ Cr c r e w'
  | .error y => ∃ v, E = .returned (.tuple #[.int .i64 0, v]) ∧ Flt w' v y
def RsP (ws : List W) (w : World) (E : Ending) (w' : World) : Prop := G w w' ∧ match restW ws with
  | none => E = .returned .nilIface
  | some y => ∃ v, E = .returned v ∧ Flt w' v y
theorem numK_no {lo hi n : Int} {x : W} (h : match numR x.text with | some v => false = true ∧ n = v | none => True) : numK lo hi x = none := by
  unfold numK
  split at h
  · cases h.1
  · rename_i hv; rw [hv]
theorem numK_kd {lo hi : Int} {x : W} (h : x.kind ≠ 0) : numK lo hi x = none := by
  unfold numK
  split
  · exact if_neg fun q => h q.1
  · rfl
set_option maxRecDepth 100000 in
set_option maxHeartbeats 4000000 in
theorem rest_any (c : Nat) (ws : List W) (e : Nat) (w : World) (h : Cr c ws e w) : Calls Tryd.prog 26 #[.pointer (some ⟨c, 0, none⟩)] w (RsP ws w) := by
  have CM := hid (has_more c ws e w h)
  have CF := hid (fun (a r : Nat) (W : World) => fault_any a r W)
  obtain ⟨p, cap, hb, hl⟩ := h
  cases ws with
  | nil =>
    clear hb hl
    go_enter Tryd.func26, Tryd.ntmps26
    go_wp2_with (go_at_call 38; refine CM.out.mono ?_; rintro E W ⟨rfl, hW⟩; rw [hW]; clear hW W)
    go_ret
    exact ⟨Below.refl _ _, rfl⟩
  | cons x r =>
    obtain ⟨g, o, rfl, hgc, _, hcap, hat⟩ := hl (by simp)
    have hL0 := hat 0 (wc x) rfl
    rw [Nat.zero_mul, Nat.add_zero] at hL0
    have c0 : w.cell? ⟨g, o, none⟩ = some (.int .i64 (x.pl : Int)) := hL0 0 _ rfl
    have cc : w.cell? ⟨c, 0, none⟩ = some (.slice (some ⟨g, o, none⟩) (r.length + 1) cap) := by rw [cell_heap hb]; rfl
    have hi1 : ¬ (r.length : Int) + 1 ≤ 0 := by omega
    have hi2 : ¬ ((r.length + 1 : Nat) : Int) ≤ 0 := by omega
    clear hb hl hat hL0
    go_enter Tryd.func26, Tryd.ntmps26
    go_wp2_with (first
      | (go_at_call 38; refine CM.out.mono ?_; rintro E W ⟨rfl, hW⟩; rw [hW]; clear hW W)
      | (go_at_call 11; refine (CF.out x.pl 200 w).mono ?_; rintro E w3 ⟨v3, rfl, f1, f2⟩; have H3 := hid (⟨f1, f2⟩ : _ ∧ _); clear f1 f2))
    go_ret
    exact ⟨H3.out.2, v3, rfl, H3.out.1⟩
set_option maxRecDepth 100000 in
set_option maxHeartbeats 4000000 in
theorem word_any (c : Nat) (s : ByteArray) (ws : List W) (e : Nat) (w : World) (h : Cr c ws e w) : Calls Tryd.prog 23 #[.pointer (some ⟨c, 0, none⟩), .string s] w (WdP c (tl s) ws e w) := by
  have CF := hid (fun (a r : Nat) (W : World) => fault_any a r W)
  have CT := take_any c ws e w h
  have hcl := h.lt
  cases ht : takeW ws e with
  | error y =>
    have CT : Hid (Calls Tryd.prog 35 #[.pointer (some ⟨c, 0, none⟩)] w fun E w' => ∃ N, E = .returned (.tuple #[.agg #[.int .i64 0, .int .i64 0, .string ⟨#[]⟩], .iface 58 (.pointer (some ⟨N, 0, none⟩))]) ∧ Kp (fun g => g = c) w w' ∧ Flt w' (.iface 58 (.pointer (some ⟨N, 0, none⟩))) y) := CT.mono (by
      rintro E w' ⟨k, h2⟩
      rw [ht] at h2
      obtain ⟨v, rfl, hf⟩ := h2
      obtain ⟨N, rfl, hN⟩ := hf
      exact ⟨N, rfl, k, N, rfl, hN⟩)
    have HT := hid ht
    clear ht h
    go_enter Tryd.func23, Tryd.ntmps23
    go_wp2_with (first
      | (go_at_call 35; refine CT.out.mono ?_; rintro E w1 ⟨N, rfl, k1, f1⟩; have H1 := hid (⟨k1, f1⟩ : _ ∧ _); clear k1 f1)
      | ((with_reducible refine pl_alloc 5 90 #[.int .i64 0, .int .i64 0, .string ⟨#[]⟩] ?_ ?_ ?_ ?_ ?_); rfl; rfl; kernel_rfl; exact zero90; intro w2 b2 hb2 hu2 hv2 hs2; have H2 := hid (⟨hb2, hu2, hv2, hs2⟩ : _ ∧ _ ∧ _ ∧ _); clear hb2 hu2 hv2 hs2)
      | ((with_reducible refine pl_store 90 (.tmp 5) (.tmp 10) b2 #[.int .i64 0, .int .i64 0, .string ⟨#[]⟩] #[.int .i64 0, .int .i64 0, .string ⟨#[]⟩] ?_ ?_ ?_ ?_ ?_ ?_ ?_ ?_ ?_ ?_); rfl; rfl; kernel_rfl; rfl; rfl; exact H2.out.2.2.1; exact siz90; exact rfl; exact (by simp [Value.oneCell']); intro w3 k3 v3 s3; have H3 := hid (⟨k3, v3, s3⟩ : _ ∧ _ ∧ _); clear k3 v3 s3))
    go_ret
    obtain ⟨k, f⟩ := H1.out
    obtain ⟨p1, p2, p3, p4⟩ := H2.out
    obtain ⟨q1, q2, q3⟩ := H3.out
    refine ⟨(k.snd (Kp.of p2)).new q1 (by have := k.size; omega), ?_⟩
    unfold wordW
    rw [HT.out]
    exact ⟨_, rfl, (f.up p2).kp q1 (fun g cs eg hc => by have eg : g = b2 := eg; rw [eg, p3] at hc; cases hc)⟩
  | ok xr =>
    obtain ⟨x, r⟩ := xr
    have CT : Hid (Calls Tryd.prog 35 #[.pointer (some ⟨c, 0, none⟩)] w fun E w' => E = .returned (.tuple #[.agg (wc x), .nilIface]) ∧ Kp (fun g => g = c) w w' ∧ Cr c r e w') := CT.mono (by
      rintro E w' ⟨k, h2⟩
      rw [ht] at h2
      exact ⟨h2.1, k, h2.2⟩)
    have CI := hid (fun W => is_any x s W)
    have HT := hid ht
    clear ht h
    by_cases hx : x.kind = 0 ∧ x.text = tl s
    · have HX := hid hx
      have CI : Hid (∀ W, Calls Tryd.prog 36 #[.agg (wc x), .string s] W fun E w' => E = .returned (.bool true) ∧ G W w') := fun W => (CI.out W).mono (by rintro E w' ⟨rfl, g⟩; exact ⟨by simp [HX.out], g⟩)
      clear hx
      go_enter Tryd.func23, Tryd.ntmps23
      go_wp2_with (first
        | (go_at_call 35; refine CT.out.mono ?_; rintro E w1 ⟨rfl, k1, f1⟩; have H1 := hid (⟨k1, f1⟩ : _ ∧ _); clear k1 f1)
        | ((with_reducible refine pl_alloc 5 90 #[.int .i64 0, .int .i64 0, .string ⟨#[]⟩] ?_ ?_ ?_ ?_ ?_); rfl; rfl; kernel_rfl; exact zero90; intro w2 b2 hb2 hu2 hv2 hs2; have H2 := hid (⟨hb2, hu2, hv2, hs2⟩ : _ ∧ _ ∧ _ ∧ _); clear hb2 hu2 hv2 hs2)
        | ((with_reducible refine pl_store 90 (.tmp 5) (.tmp 10) b2 (wc x) #[.int .i64 0, .int .i64 0, .string ⟨#[]⟩] ?_ ?_ ?_ ?_ ?_ ?_ ?_ ?_ ?_ ?_); rfl; rfl; kernel_rfl; rfl; rfl; exact H2.out.2.2.1; exact siz90; exact rfl; exact (wc_one x); intro w3 k3 v3 s3; have H3 := hid (⟨k3, v3, s3⟩ : _ ∧ _ ∧ _); clear k3 v3 s3)
        | ((with_reducible refine pl_load 15 90 (.tmp 5) b2 0 (wc x) _ ?_ ?_ ?_ ?_ ?_ Tryd.underlying90 ?_ ?_ ?_); rfl; rfl; kernel_rfl; rfl; exact (Lies.of_heap H3.out.2.1); rfl; exact siz90)
        | (go_at_call 36; refine (CI.out w3).mono ?_; rintro E w4 ⟨rfl, g4⟩; have H4 := hid g4; have cc0 : w4.cell? ⟨b2, 0, none⟩ = some (.int .i64 (x.pl : Int)) := (by rw [cell_heap ((H4.out.block b2 (by have := H3.out; have := H2.out; omega)).trans H3.out.2.1)]; rfl); clear g4))
      go_ret
      obtain ⟨k, f⟩ := H1.out
      obtain ⟨p1, p2, p3, p4⟩ := H2.out
      obtain ⟨q1, q2, q3⟩ := H3.out
      have g13 : G w1 w4 := (g_new p2 q1 (by omega)).tr H4.out
      refine ⟨k.snd (Kp.of g13), ?_⟩
      unfold wordW
      rw [HT.out]
      simp only [if_pos HX.out]
      exact ⟨rfl, f.up g13⟩
    · have HX := hid hx
      have CI : Hid (∀ W, Calls Tryd.prog 36 #[.agg (wc x), .string s] W fun E w' => E = .returned (.bool false) ∧ G W w') := fun W => (CI.out W).mono (by rintro E w' ⟨rfl, g⟩; exact ⟨by simp only [HX.out, decide_false], g⟩)
      clear hx
      go_enter Tryd.func23, Tryd.ntmps23
      go_wp2_with (first
        | (go_at_call 35; refine CT.out.mono ?_; rintro E w1 ⟨rfl, k1, f1⟩; have H1 := hid (⟨k1, f1⟩ : _ ∧ _); clear k1 f1)
        | ((with_reducible refine pl_alloc 5 90 #[.int .i64 0, .int .i64 0, .string ⟨#[]⟩] ?_ ?_ ?_ ?_ ?_); rfl; rfl; kernel_rfl; exact zero90; intro w2 b2 hb2 hu2 hv2 hs2; have H2 := hid (⟨hb2, hu2, hv2, hs2⟩ : _ ∧ _ ∧ _ ∧ _); clear hb2 hu2 hv2 hs2)
        | ((with_reducible refine pl_store 90 (.tmp 5) (.tmp 10) b2 (wc x) #[.int .i64 0, .int .i64 0, .string ⟨#[]⟩] ?_ ?_ ?_ ?_ ?_ ?_ ?_ ?_ ?_ ?_); rfl; rfl; kernel_rfl; rfl; rfl; exact H2.out.2.2.1; exact siz90; exact rfl; exact (wc_one x); intro w3 k3 v3 s3; have H3 := hid (⟨k3, v3, s3⟩ : _ ∧ _ ∧ _); clear k3 v3 s3)
        | ((with_reducible refine pl_load 15 90 (.tmp 5) b2 0 (wc x) _ ?_ ?_ ?_ ?_ ?_ Tryd.underlying90 ?_ ?_ ?_); rfl; rfl; kernel_rfl; rfl; exact (Lies.of_heap H3.out.2.1); rfl; exact siz90)
        | (go_at_call 36; refine (CI.out w3).mono ?_; rintro E w4 ⟨rfl, g4⟩; have H4 := hid g4; have cc0 : w4.cell? ⟨b2, 0, none⟩ = some (.int .i64 (x.pl : Int)) := (by rw [cell_heap ((H4.out.block b2 (by have := H3.out; have := H2.out; omega)).trans H3.out.2.1)]; rfl); clear g4)
        | (go_at_call 11; refine (CF.out x.pl 200 w4).mono ?_; rintro E w5 ⟨v5, rfl, f1, f2⟩; have H5 := hid (⟨f1, f2⟩ : _ ∧ _); clear f1 f2))
      go_ret
      obtain ⟨k, f⟩ := H1.out
      obtain ⟨p1, p2, p3, p4⟩ := H2.out
      obtain ⟨q1, q2, q3⟩ := H3.out
      have g13 : G w1 w5 := ((g_new p2 q1 (by omega)).tr H4.out).tr H5.out.2
      refine ⟨k.snd (Kp.of g13), ?_⟩
      unfold wordW
      rw [HT.out]
      simp only [if_neg HX.out]
      exact ⟨v5, rfl, H5.out.1⟩

set_option maxRecDepth 100000 in
set_option maxHeartbeats 8000000 in
theorem number_any (c : Nat) (lo hi : Int) (ws : List W) (e : Nat) (w : World) (h : Cr c ws e w) (hV : ∀ W, Below c w W → Vs W) (hws : ∀ x ∈ ws, x.text.length ≤ 100000) : Calls Tryd.prog 25 #[.pointer (some ⟨c, 0, none⟩), .int .i64 lo, .int .i64 hi] w (NmP c lo hi ws e w) := by
  have CF := hid (fun (a r : Nat) (W : World) => fault_any a r W)
  have CT := take_any c ws e w h
  have hcl := h.lt
  cases ht : takeW ws e with
  | error y =>
    have CT : Hid (Calls Tryd.prog 35 #[.pointer (some ⟨c, 0, none⟩)] w fun E w' => ∃ N, E = .returned (.tuple #[.agg #[.int .i64 0, .int .i64 0, .string ⟨#[]⟩], .iface 58 (.pointer (some ⟨N, 0, none⟩))]) ∧ Kp (fun g => g = c) w w' ∧ Flt w' (.iface 58 (.pointer (some ⟨N, 0, none⟩))) y) := CT.mono (by
      rintro E w' ⟨k, h2⟩
      rw [ht] at h2
      obtain ⟨v, rfl, hf⟩ := h2
      obtain ⟨N, rfl, hN⟩ := hf
      exact ⟨N, rfl, k, N, rfl, hN⟩)
    have HT := hid ht
    clear ht h
    go_enter Tryd.func25, Tryd.ntmps25
    go_wp2_with (first
      | (go_at_call 35; refine CT.out.mono ?_; rintro E w1 ⟨N, rfl, k1, f1⟩; have H1 := hid (⟨k1, f1⟩ : _ ∧ _); clear k1 f1)
      | ((with_reducible refine pl_alloc 8 90 #[.int .i64 0, .int .i64 0, .string ⟨#[]⟩] ?_ ?_ ?_ ?_ ?_); rfl; rfl; kernel_rfl; exact zero90; intro w2 b2 hb2 hu2 hv2 hs2; have H2 := hid (⟨hb2, hu2, hv2, hs2⟩ : _ ∧ _ ∧ _ ∧ _); clear hb2 hu2 hv2 hs2)
      | ((with_reducible refine pl_store 90 (.tmp 8) (.tmp 15) b2 #[.int .i64 0, .int .i64 0, .string ⟨#[]⟩] #[.int .i64 0, .int .i64 0, .string ⟨#[]⟩] ?_ ?_ ?_ ?_ ?_ ?_ ?_ ?_ ?_ ?_); rfl; rfl; kernel_rfl; rfl; rfl; exact H2.out.2.2.1; exact siz90; exact rfl; exact (by simp [Value.oneCell']); intro w3 k3 v3 s3; have H3 := hid (⟨k3, v3, s3⟩ : _ ∧ _ ∧ _); clear k3 v3 s3))
    refine bodyPost_ret (results_tmp2 rfl _ _ _) rfl ?_
    obtain ⟨k, f⟩ := H1.out
    obtain ⟨p1, p2, p3, p4⟩ := H2.out
    obtain ⟨q1, q2, q3⟩ := H3.out
    refine ⟨(k.snd (Kp.of p2)).new q1 (by have := k.size; omega), ?_⟩
    unfold numW
    rw [HT.out]
    exact ⟨_, rfl, (f.up p2).kp q1 (fun g cs eg hc => by have eg : g = b2 := eg; rw [eg, p3] at hc; cases hc)⟩
  | ok xr =>
    obtain ⟨x, r⟩ := xr
    have CT : Hid (Calls Tryd.prog 35 #[.pointer (some ⟨c, 0, none⟩)] w fun E w' => E = .returned (.tuple #[.agg (wc x), .nilIface]) ∧ Kp (fun g => g = c) w w' ∧ Cr c r e w') := CT.mono (by
      rintro E w' ⟨k, h2⟩
      rw [ht] at h2
      exact ⟨h2.1, k, h2.2⟩)
    have hxt : x.text.length ≤ 100000 := by
      cases ws with
      | nil => cases ht
      | cons y t =>
        have ht : (if y.kind = 2 then Except.error (y.pl, 200) else Except.ok (y, t)) = (Except.ok (x, r) : Except Er (W × List W)) := ht
        split at ht
        · cases ht
        · injection ht with ht; injection ht with h1 h2; subst h1; exact hws y (by simp)
    have CN := hid (fun W (k : ∀ W', G W W' → Vs W') => numOf_any ⟨x.text.toArray⟩ W k (by rw [← tl_len]; simpa [tl, ByteArray.toList_eq] using hxt))
    have HT := hid ht
    have HV := hid hV
    clear ht h hV hws hxt
    go_enter Tryd.func25, Tryd.ntmps25
    go_upto_region 5 with (first
      | (go_at_call 35; refine CT.out.mono ?_; rintro E w1 ⟨rfl, k1, f1⟩; have H1 := hid (⟨k1, f1⟩ : _ ∧ _); clear k1 f1)
      | ((with_reducible refine pl_alloc 8 90 #[.int .i64 0, .int .i64 0, .string ⟨#[]⟩] ?_ ?_ ?_ ?_ ?_); rfl; rfl; kernel_rfl; exact zero90; intro w2 b2 hb2 hu2 hv2 hs2; have H2 := hid (⟨hb2, hu2, hv2, hs2⟩ : _ ∧ _ ∧ _ ∧ _); clear hb2 hu2 hv2 hs2)
      | ((with_reducible refine pl_store 90 (.tmp 8) (.tmp 15) b2 (wc x) #[.int .i64 0, .int .i64 0, .string ⟨#[]⟩] ?_ ?_ ?_ ?_ ?_ ?_ ?_ ?_ ?_ ?_); rfl; rfl; kernel_rfl; rfl; rfl; exact H2.out.2.2.1; exact siz90; exact rfl; exact (wc_one x); intro w3 k3 v3 s3; have H3 := hid (⟨k3, v3, s3⟩ : _ ∧ _ ∧ _); clear k3 v3 s3; have cc2 : w3.cell? ⟨b2, 2, none⟩ = some (.string ⟨x.text.toArray⟩) := (by rw [cell_heap H3.out.2.1]; rfl))
      | (go_at_call 37; refine (CN.out w3 (by intro W' gg; refine HV.out W' (Below.trans (B := c) (H1.out.1.below (by omega) (fun g e => by omega)) (Below.mono (G.tr (g_new H2.out.2.1 H3.out.1 (by have := H2.out; omega)) gg) (by have := H1.out.1.size; omega))))).mono ?_; rintro E w4 ⟨g4, n, b, rfl, m4⟩; have H4 := hid (⟨g4, m4⟩ : _ ∧ _); clear g4 m4))
    have H3' : Hid (G w1 w4 ∧ (match numR x.text with | some v => b = true ∧ n = v | none => b = false) ∧ w4.heap[b2]? = some (.cells (wc x) 90 (0, 0))) := by
      obtain ⟨p1, p2, p3, p4⟩ := H2.out
      obtain ⟨q1, q2, q3⟩ := H3.out
      have h4 := H4.out.2
      rw [show tl ⟨x.text.toArray⟩ = x.text from by simp [tl, ByteArray.toList_eq]] at h4
      exact ⟨(g_new p2 q1 (by omega)).tr H4.out.1, h4, (H4.out.1.block b2 (by omega)).trans q2⟩
    have c1 : w4.cell? ⟨b2, 1, none⟩ = some (.int .i64 (x.kind : Int)) := by rw [cell_heap H3'.out.2.2]; rfl
    have c0 : w4.cell? ⟨b2, 0, none⟩ = some (.int .i64 (x.pl : Int)) := by rw [cell_heap H3'.out.2.2]; rfl
    have hres : Hid (Kp (fun g => g = c) w w4 ∧ Cr c r e w4) := by
      obtain ⟨k, f⟩ := H1.out
      exact ⟨k.snd (Kp.of H3'.out.1), f.up H3'.out.1⟩
    clear H2 H3 H4
    have BAD : Hid (∀ (v : Value) (w5 : World), numK lo hi x = none → Flt w5 v (x.pl, 201) → G w4 w5 → NmP c lo hi ws e w (.returned (.tuple #[.int .i64 0, v])) w5) := fun v w5 hn hf hg => by
      refine ⟨hres.out.1.snd (Kp.of hg), ?_⟩
      unfold numW
      rw [HT.out]
      simp only [hn]
      exact ⟨v, rfl, hf⟩
    have hrel := hid H3'.out.2.1
    by_cases h1 : x.kind = 0
    · have b1 : ((x.kind : Int) != 0) = false := by simp [h1]
      cases b with
      | false =>
        go_wp2_with (first
          | (go_at_call 11; refine (CF.out x.pl 201 w4).mono ?_; rintro E w5 ⟨v5, rfl, f1, f2⟩; have H5 := hid (⟨f1, f2⟩ : _ ∧ _); clear f1 f2))
        refine bodyPost_ret (results_tmp2 rfl _ _ _) rfl ?_
        exact BAD.out v5 w5 (numK_no hrel.out) H5.out.1 H5.out.2
      | true =>
        have hn : Hid (numR x.text = some n) := by
          have := hrel.out
          split at this
          · rename_i v hv; show _ = _; rw [hv, this.2]
          · cases this
        clear hrel
        by_cases h2 : n < lo
        · skip
          go_wp2_with (first
            | (go_at_call 11; refine (CF.out x.pl 201 w4).mono ?_; rintro E w5 ⟨v5, rfl, f1, f2⟩; have H5 := hid (⟨f1, f2⟩ : _ ∧ _); clear f1 f2))
          refine bodyPost_ret (results_tmp2 rfl _ _ _) rfl ?_
          exact BAD.out v5 w5 (by unfold numK; rw [hn.out]; exact if_neg (by omega)) H5.out.1 H5.out.2
        · by_cases h3 : hi < n
          · skip
            go_wp2_with (first
              | (go_at_call 11; refine (CF.out x.pl 201 w4).mono ?_; rintro E w5 ⟨v5, rfl, f1, f2⟩; have H5 := hid (⟨f1, f2⟩ : _ ∧ _); clear f1 f2))
            refine bodyPost_ret (results_tmp2 rfl _ _ _) rfl ?_
            exact BAD.out v5 w5 (by unfold numK; rw [hn.out]; exact if_neg (by omega)) H5.out.1 H5.out.2
          · go_wp2
            refine bodyPost_ret (results_tmp2 rfl _ _ _) rfl ?_
            refine ⟨hres.out.1, ?_⟩
            unfold numW
            rw [HT.out]
            have hk : numK lo hi x = some n := by unfold numK; rw [hn.out]; exact if_pos ⟨h1, by omega, by omega⟩
            simp only [hk]
            exact ⟨rfl, hres.out.2⟩
    · have b1 : ((x.kind : Int) != 0) = true := by simp; omega
      go_wp2_with (first
        | (go_at_call 11; refine (CF.out x.pl 201 w4).mono ?_; rintro E w5 ⟨v5, rfl, f1, f2⟩; have H5 := hid (⟨f1, f2⟩ : _ ∧ _); clear f1 f2))
      refine bodyPost_ret (results_tmp2 rfl _ _ _) rfl ?_
      exact BAD.out v5 w5 (numK_kd h1) H5.out.1 H5.out.2
end Go.Proofs.YtfigneaaeakbcaaDoor
