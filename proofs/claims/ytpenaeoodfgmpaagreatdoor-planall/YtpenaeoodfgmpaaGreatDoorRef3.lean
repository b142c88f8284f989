/-
  twineref15.Left by contract.
-/
import Derived.Test.YtpenaeoodfgmpaaGreatDoorSmall
import Derived.Test.YtpenaeoodfgmpaaGreatDoorRefL
import Derived.Deep.DeepCutAuto
import Derived.Deep.LoopGhost
import Derived.Test.YtpenaeoodfgmpaaGreatDoorLeave
import Derived.Deep.CutBlock
namespace Go.Proofs.YtpenaeoodfgmpaaGreatDoor
open Go.RowKit

set_option maxRecDepth 100000 in
theorem above0_any (n : Int) (w : World) : Calls Tryz.prog 63 #[.int .i64 n] w fun e w' => e = .returned (.int .i64 (up0 n)) ∧ w = w' := by
  by_cases h : n ≤ 0
  · have e : up0 n = 0 := by unfold up0 mx; split <;> omega
    rw [e]; clear e
    by_cases h2 : n = 0
    · subst h2
      go_enter Tryz.func63, Tryz.ntmps63
      go_wp2
      all_goals go_ret
      all_goals exact ⟨rfl, rfl⟩
    · have h3 : n < 0 := by omega
      go_enter Tryz.func63, Tryz.ntmps63
      go_wp2
      all_goals go_ret
      all_goals exact ⟨rfl, rfl⟩
  · have e : up0 n = n := by unfold up0 mx; split <;> omega
    rw [e]; clear e
    have h3 : ¬ n < 0 := by omega
    go_enter Tryz.func63, Tryz.ntmps63
    go_wp2
    all_goals go_ret
    all_goals exact ⟨rfl, rfl⟩
theorem above0_q (n : Int) (w : World) : Calls Tryz.prog 63 #[.int .i64 n] w fun e w' => e = .returned (.int .i64 (up0 n)) ∧ w' = w :=
  (above0_any n w).mono fun _ _ h => ⟨h.1, h.2.symm⟩
set_option maxRecDepth 100000 in
theorem most_any (n : Int) (w : World) : Calls Tryz.prog 61 #[.int .i64 n] w fun e w' => e = .returned (.int .i64 (cap n)) ∧ w = w' := by
  obtain ⟨M1, hM1⟩ : ∃ M1, (if n < 1 then 1 else n) = M1 := ⟨_, rfl⟩
  obtain ⟨MM, hMM⟩ : ∃ MM, cap n = MM := ⟨_, rfl⟩
  have hM2 : (if 1048576 < M1 then 1048576 else M1) = MM := by
    rw [← hMM, ← hM1]; unfold cap mn mx; repeat' split
    all_goals omega
  rw [hMM]
  clear hMM
  go_enter Tryz.func61, Tryz.ntmps61
  go_wp2
  go_ret
  exact ⟨rfl, rfl⟩
set_option maxRecDepth 100000 in
theorem rplus_any (a b : Int) (w : World) (ha : InR a) (hb : InR b) (h0 : 0 ≤ b) : Calls Tryz.prog 64 #[.int .i64 a, .int .i64 b] w fun e w' => e = .returned (.int .i64 (pl a b)) ∧ w = w' := by
  unfold InR at ha hb
  by_cases h1 : 0 < b
  · by_cases h2 : 9223372036854775807 - b < a
    · have e : pl a b = 9223372036854775807 := by unfold pl mn; split <;> omega
      rw [e]; clear e
      go_enter Tryz.func64, Tryz.ntmps64
      go_wp2
      all_goals go_ret
      all_goals exact ⟨rfl, rfl⟩
    · have e : pl a b = a + b := by unfold pl mn; split <;> omega
      rw [e]; clear e
      go_enter Tryz.func64, Tryz.ntmps64
      go_wp2
      all_goals go_ret
      all_goals exact ⟨rfl, rfl⟩
  · have h3 : b = 0 := by omega
    subst h3
    have e : pl a 0 = a := by unfold pl mn; split <;> omega
    rw [e]; clear e
    go_enter Tryz.func64, Tryz.ntmps64
    go_wp2
    all_goals go_ret
    all_goals exact ⟨rfl, rfl⟩
set_option maxRecDepth 100000 in
theorem rless_any (a b : Int) (w : World) (ha : InR a) (hb : InR b) (h0 : 0 ≤ b) : Calls Tryz.prog 65 #[.int .i64 a, .int .i64 b] w fun e w' => e = .returned (.int .i64 (ms a b)) ∧ w = w' := by
  unfold InR at ha hb
  by_cases h1 : 0 < b
  · by_cases h2 : a < -9223372036854775808 + b
    · have e : ms a b = -9223372036854775808 := by unfold ms mx; split <;> omega
      rw [e]; clear e
      go_enter Tryz.func65, Tryz.ntmps65
      go_wp2
      all_goals go_ret
      all_goals exact ⟨rfl, rfl⟩
    · have e : ms a b = a - b := by unfold ms mx; split <;> omega
      rw [e]; clear e
      go_enter Tryz.func65, Tryz.ntmps65
      go_wp2
      all_goals go_ret
      all_goals exact ⟨rfl, rfl⟩
  · have h3 : b = 0 := by omega
    subst h3
    have e : ms a 0 = a := by unfold ms mx; split <;> omega
    rw [e]; clear e
    go_enter Tryz.func65, Tryz.ntmps65
    go_wp2
    all_goals go_ret
    all_goals exact ⟨rfl, rfl⟩
end Go.Proofs.YtpenaeoodfgmpaaGreatDoor
namespace Go.Proofs.YtpenaeoodfgmpaaGreatDoor
open Go.RowKit

theorem hasC_at {w : World} {ao : Option Addr} {n cp : Nat} {R : List Cd} (h : HasC w (.slice ao n cp) R) {i : Nat} {x : Cd} (hi : R[i]? = some x) : ∃ g o, ao = some ⟨g, o, none⟩ ∧ Lies w g (o + i * 10) (cc x) := by
  obtain ⟨a, c, e, h, _⟩ := h
  injection e with e1 e2 e3
  subst e1
  exact h i x hi
/-- what grows answers -/
def gsV (c : Cd) : Int := if srt (cnt c) = 0 then 1 else if srt (cnt c) = 1 then 2 else 0
theorem srt_cases (c : Cd) : (c.take ≤ c.keep ∧ srt c = 2) ∨ (¬ c.take ≤ c.keep ∧ ((c.what = 3 ∧ srt c = 0) ∨ (c.what ≠ 3 ∧ (c.what = 1 ∨ c.what = 2 ∨ c.what = 5) ∧ srt c = 1) ∨ (c.what ≠ 3 ∧ c.what ≠ 1 ∧ c.what ≠ 2 ∧ c.what ≠ 5 ∧ srt c = 2))) := by
  unfold srt
  by_cases h : c.take ≤ c.keep
  · exact .inl ⟨h, by simp [h]⟩
  · refine .inr ⟨h, ?_⟩
    by_cases h3 : c.what = 3
    · exact .inl ⟨h3, by simp [h, h3]⟩
    · by_cases h4 : c.what = 1 ∨ c.what = 2 ∨ c.what = 5
      · exact .inr (.inl ⟨h3, h4, by simp [h, h3, h4]⟩)
      · exact .inr (.inr ⟨h3, by omega, by omega, by omega, by simp [h, h3, h4]⟩)
set_option maxHeartbeats 2000000 in
set_option maxRecDepth 100000 in
theorem grows_any (c : Cd) (w : World) : Calls Tryz.prog 90 #[.agg (cc c)] w fun e w' => e = .returned (.int .i64 (gsV c)) ∧ G w w' := by
  obtain ⟨B, hB⟩ : ∃ B, w.heap.size = B := ⟨_, rfl⟩
  obtain ⟨w1, hw1⟩ : ∃ w1, w.alloc (.cells (cc c) 62) = w1 := ⟨_, rfl⟩
  have cq : ∀ i u, (cc c)[i]? = some u → w1.cell? ⟨B, i, none⟩ = some u := fun i u hi => by
    rw [← hw1, ← hB]; exact (cell_of_row _ _ i _ _ _ (heap_alloc_new w _)).trans hi
  have q1 : w1.cell? ⟨B, 1, none⟩ = some (.int .i64 c.what) := cq 1 _ rfl
  have q4 : w1.cell? ⟨B, 4, none⟩ = some (.int .i64 c.keep) := cq 4 _ rfl
  have q5 : w1.cell? ⟨B, 5, none⟩ = some (.int .i64 c.take) := cq 5 _ rfl
  have HG1 : Hid (G w w1) := by rw [← hw1]; exact G.al _ _
  have hcase := srt_cases (cnt c)
  have ew : (cnt c).what = c.what := rfl
  have ek : (cnt c).keep = up0 c.keep := rfl
  have et : (cnt c).take = up0 c.take := rfl
  rw [ew, ek, et] at hcase
  obtain ⟨gv, hgv⟩ : ∃ gv, gsV c = gv := ⟨_, rfl⟩
  have HGV := hid hgv
  rw [hgv]
  clear hgv cq ew ek et
  unfold cc at hw1 ⊢
  have CK := hid (fun W => above0_q c.keep W)
  have CT := hid (fun W => above0_q c.take W)
  generalize up0 c.keep = uk at *
  generalize up0 c.take = ut at *
  go_enter Tryz.func90, Tryz.ntmps90
  go_upto_region 1 with fail
  go_quiet ((first | (go_at_call_of 63 (Value.int IntKind.i64 c.take); exact Calls.quiet_of_same (CT.out _)) | (go_at_call 63; exact Calls.quiet_of_same (CK.out _))))
  obtain ⟨wz, hwz⟩ : ∃ wz, w1.drewN nq = wz := ⟨_, rfl⟩
  have gz : G w1 wz := by rw [← hwz]; exact (G.refl w1).drewN nq
  have r1 := (gz.cell (p := ⟨B, 1, none⟩) (World.block_lt_of_cell? w1 _ q1)).trans q1
  have HGZ := hid (HG1.out.up gz)
  rw [hwz]
  clear hwz gz q1 q4 q5
  rcases hcase with ⟨h1, hs⟩ | ⟨h1, ⟨h3, hs⟩ | ⟨h3, h4, hs⟩ | ⟨h3, h4, h5, h6, hs⟩⟩
  · obtain rfl : gv = 0 := by rw [← HGV.out]; simp [gsV, hs]
    clear hs
    go_wp2
    go_ret
    exact ⟨rfl, HGZ.out⟩
  · obtain rfl : gv = 1 := by rw [← HGV.out]; simp [gsV, hs]
    have e3 : (c.what == 3) = true := by simp [h3]
    clear hs h3
    go_wp2
    go_ret
    exact ⟨rfl, HGZ.out⟩
  · obtain rfl : gv = 2 := by rw [← HGV.out]; simp [gsV, hs]
    have e3 : (c.what == 3) = false := by simp [h3]
    clear hs h3
    have h4' : (c.what == 1) = true ∨ ((c.what == 1) = false ∧ (c.what == 2) = true) ∨ ((c.what == 1) = false ∧ (c.what == 2) = false ∧ (c.what == 5) = true) := by
      rcases h4 with h | h | h <;> simp [h]
    clear h4
    rcases h4' with e1 | ⟨e1, e2⟩ | ⟨e1, e2, e5⟩
    · go_wp2
      go_ret
      exact ⟨rfl, HGZ.out⟩
    · go_wp2
      go_ret
      exact ⟨rfl, HGZ.out⟩
    · go_wp2
      go_ret
      exact ⟨rfl, HGZ.out⟩
  · obtain rfl : gv = 0 := by rw [← HGV.out]; simp [gsV, hs]
    have e3 : (c.what == 3) = false := by simp [h3]
    have e1 : (c.what == 1) = false := by simp [h4]
    have e2 : (c.what == 2) = false := by simp [h5]
    have e5 : (c.what == 5) = false := by simp [h6]
    clear hs h3 h4 h5 h6
    go_wp2
    go_ret
    exact ⟨rfl, HGZ.out⟩
/-- the worst, by exact numbers, of the first k cells -/
def wE (C : List Cd) (P : Nat → Bool) : Nat → Int
  | 0 => 0
  | k + 1 => match C[k]? with
    | some c => wE C P k + (if P k then c.keep else mx c.keep c.take)
    | none => wE C P k
theorem wE_step {C : List Cd} {P : Nat → Bool} {k : Nat} {c : Cd} (h : C[k]? = some c) : wE C P (k + 1) = wE C P k + (if P k then c.keep else mx c.keep c.take) := by simp only [wE, h]
theorem wE_nn {C : List Cd} {P : Nat → Bool} (h : ∀ c ∈ C, c.pos) : ∀ k, 0 ≤ wE C P k
  | 0 => by simp [wE]
  | k + 1 => by
    have ih := wE_nn (P := P) h k
    cases hc : C[k]? with
    | none => simp only [wE, hc]; exact ih
    | some c =>
      have h1 := h c (List.mem_of_getElem? hc)
      have := mx_nn (b := c.take) h1.1
      have := h1.1
      simp only [wE, hc]
      split <;> omega
theorem wE_eq {C : List Cd} {P : Nat → Bool} {R : List Int} (hR : ∀ k, k < C.length → R.contains (k : Int) = P k) : ∀ k, k ≤ C.length → wE C P k = wS C R k
  | 0, _ => by simp [wE, wS]
  | k + 1, hk => by
    have ih := wE_eq hR k (by omega)
    cases hc : C[k]? with
    | none => simp only [wE, wS, hc]; exact ih
    | some c => simp only [wE, wS, hc, ih, hR k (by omega)]
theorem wT_iff {C : List Cd} {most : Int} {P : Nat → Bool} (hP : ∀ c ∈ C, c.pos) (hm : 0 ≤ most) : wP C most P C.length ≤ most ↔ wE C P C.length ≤ most := by
  have hR : ∀ k, k < C.length → (((List.range C.length).filter P).map (fun i : Nat => (i : Int))).contains (k : Int) = P k := fun k hk => by
    cases hp : P k with
    | true =>
      rw [List.contains_eq_mem]
      exact decide_eq_true (List.mem_map.2 ⟨k, List.mem_filter.2 ⟨List.mem_range.2 hk, hp⟩, rfl⟩)
    | false =>
      rw [List.contains_eq_mem]
      refine decide_eq_false fun h => ?_
      obtain ⟨i, hi, e⟩ := List.mem_map.1 h
      obtain rfl : i = k := by omega
      rw [(List.mem_filter.1 hi).2] at hp
      cases hp
  rw [wE_eq hR _ (Nat.le_refl _)]
  constructor
  · intro h
    rw [wP_eq hP hm hR _ (Nat.le_refl _) h]
    exact h
  · intro h
    exact Int.le_trans (wP_le hR _ (Nat.le_refl _)) h
end Go.Proofs.YtpenaeoodfgmpaaGreatDoor
namespace Go.Proofs.YtpenaeoodfgmpaaGreatDoor
open Go.RowKit

/-- which cells are left out, as a function -/
def pB (B : List Bool) (i : Nat) : Bool := B[i]?.getD false
theorem pB_at {B : List Bool} {i : Nat} {b : Bool} (h : B[i]? = some b) : pB B i = b := by simp [pB, h]
def MAX : Int := 9223372036854775807
theorem pl_sat {a b : Int} (hb : 0 ≤ b) (hb2 : b ≤ MAX) : pl (mn a MAX) b = mn (a + b) MAX := by
  unfold pl mn MAX at *
  repeat' split
  all_goals omega
theorem mn_in {a : Int} (ha : 0 ≤ a) : InR (mn a MAX) := by unfold InR mn MAX; split <;> omega
theorem mx_le {a b : Int} (ha : a ≤ MAX) (hb : b ≤ MAX) : mx a b ≤ MAX := by unfold mx; split <;> assumption
set_option maxHeartbeats 2000000 in
set_option maxRecDepth 100000 in
theorem rWorst_any (ao : Option Addr) (cp h : Nat) (L : List Cd) (B : List Bool) (w : World) (hv : HasC w (.slice ao L.length cp) L) (hB : RowB w h B) (hl : B.length = L.length) (hn : L.length ≤ 400) :
    Calls Tryz.prog 60 #[.slice ao L.length cp, .slice (some ⟨h, 0, none⟩) L.length L.length] w fun e w' => e = .returned (.int .i64 (mn (wE (L.map cnt) (pB B) L.length) MAX)) ∧ w = w' := by
  obtain ⟨n, hn'⟩ : ∃ n, L.length = n := ⟨_, rfl⟩
  have HV := hid hv
  have HN := hid hn'
  have HB := hid hB
  have HOK : Hid (∀ c ∈ L, c.ok) := hv.choose_spec.choose_spec.2.2
  have HNN := hid (wE_nn (C := L.map cnt) (P := pB B) (fun c hc => by obtain ⟨d, _, rfl⟩ := List.mem_map.1 hc; exact cnt_pos d))
  rw [hn'] at hn hl ⊢
  clear hv hn' hB
  go_enter Tryz.func60, Tryz.ntmps60
  go_wp2
  go_loopg [5, 6, 7] n (fun gh s i _ wr => ∃ k : Nat, k ≤ n ∧ gh = n - k ∧ i = .int .i64 k ∧ s = .int .i64 (mn (wE (L.map cnt) (pB B) k) MAX) ∧ w = wr)
  case atStart => exact ⟨0, Nat.zero_le _, rfl, rfl, rfl, rfl⟩
  case round =>
    obtain ⟨k, hk, rfl, rfl, rfl, rfl⟩ := hrel
    by_cases hlt : k < n
    · obtain ⟨c, hc⟩ : ∃ c, L[k]? = some c := ⟨L[k]'(by rw [HN.out]; exact hlt), by simp⟩
      obtain ⟨bb, hbb⟩ : ∃ bb, B[k]? = some bb := ⟨B[k]'(by omega), by simp⟩
      obtain ⟨g, o, rfl, hl'⟩ := hasC_at HV.out hc
      have q4 : w.cell? ⟨g, o + k * 10 + 4, none⟩ = some (.int .i64 c.keep) := hl' 4 _ rfl
      have q5 : w.cell? ⟨g, o + k * 10 + 5, none⟩ = some (.int .i64 c.take) := hl' 5 _ rfl
      have qb := HB.out.at hbb
      have hst := wE_step (P := pB B) (show (L.map cnt)[k]? = some (cnt c) by rw [List.getElem?_map, hc]; rfl)
      rw [pB_at hbb] at hst
      have ek : (cnt c).keep = up0 c.keep := rfl
      have et : (cnt c).take = up0 c.take := rfl
      rw [ek, et] at hst
      have hok := HOK.out c (List.mem_of_getElem? hc)
      have k0 := up0_nn c.keep
      have t0 := up0_nn c.take
      have ki : up0 c.keep ≤ MAX := (up0_in hok.2.2.2.1).2
      have ti : up0 c.take ≤ MAX := (up0_in hok.2.2.2.2.1).2
      have CK := hid (above0_any c.keep w)
      have CT := hid (above0_any c.take w)
      have hs0 := HNN.out k
      have ltI : (k : Int) < (n : Int) := by omega
      have geI : (0 : Int) ≤ (k : Int) := by omega
      clear hc hbb hl' ek et hok
      generalize up0 c.keep = uk at *
      generalize up0 c.take = ut at *
      have HS := hid hst
      clear hst
      generalize wE (L.map cnt) (pB B) k = S at *
      cases bb with
      | true =>
        have CP := hid (rplus_any (mn S MAX) uk w (mn_in hs0) ⟨by omega, ki⟩ k0)
        rw [pl_sat k0 ki] at CP
        obtain ⟨Y, hY⟩ : ∃ Y, mn S MAX = Y := ⟨_, rfl⟩
        rw [hY] at CP ⊢
        clear hY
        go_wp2_with (first
          | (go_at_call 63; refine CK.out.mono ?_; rintro e w2 ⟨rfl, rfl⟩)
          | (go_at_call 64; refine CP.out.mono ?_; rintro e w2 ⟨rfl, rfl⟩))
        go_roundg (n - (k + 1))
        case measure => omega
        case rel =>
          refine ⟨k + 1, by omega, rfl, by go_num, ?_, rfl⟩
          rw [HS.out]
          simp
      | false =>
        obtain ⟨mm, hmm⟩ : ∃ mm, (if uk < ut then ut else uk) = mm := ⟨_, rfl⟩
        have hm2 : mx uk ut = mm := by rw [← hmm]; unfold mx; split <;> split <;> omega
        have HM := hid hm2
        have m0 : 0 ≤ mm := by rw [← hm2]; exact mx_nn k0
        have mi : mm ≤ MAX := by rw [← hm2]; exact mx_le ki ti
        clear hm2
        have CP := hid (rplus_any (mn S MAX) mm w (mn_in hs0) ⟨by omega, mi⟩ m0)
        rw [pl_sat m0 mi] at CP
        obtain ⟨Y, hY⟩ : ∃ Y, mn S MAX = Y := ⟨_, rfl⟩
        rw [hY] at CP ⊢
        clear hY
        go_upto_region 6 with (go_at_call 63; refine CK.out.mono ?_; rintro e w2 ⟨rfl, rfl⟩)
        go_wp2_with (first
          | (go_at_call 63; refine CT.out.mono ?_; rintro e w2 ⟨rfl, rfl⟩)
          | (go_at_call 64; refine CP.out.mono ?_; rintro e w2 ⟨rfl, rfl⟩))
        go_roundg (n - (k + 1))
        case measure => omega
        case rel =>
          refine ⟨k + 1, by omega, rfl, by go_num, ?_, rfl⟩
          rw [HS.out, HM.out]
          simp
    · obtain rfl : k = n := by omega
      go_wp2
      go_ret
      exact ⟨rfl, rfl⟩
theorem lastF_yes {C : List Cd} {P : Nat → Bool} {s k : Nat} {c : Cd} (h : C[k]? = some c) (hp : P k = false) (hs : srt c = s) : lastF C P s (k + 1) = (k : Int) := by simp [lastF, h, hp, hs]
theorem lastF_no {C : List Cd} {P : Nat → Bool} {s k : Nat} {c : Cd} (h : C[k]? = some c) (hp : ¬ (P k = false ∧ srt c = s)) : lastF C P s (k + 1) = lastF C P s k := by simp only [lastF, h, if_neg hp]
theorem gsV_eq (c : Cd) (s : Nat) (hs : s ≤ 1) : gsV c = (s : Int) + 1 ↔ srt (cnt c) = s := by
  unfold gsV
  have : s = 0 ∨ s = 1 := by omega
  rcases this with rfl | rfl
  · split
    · simp_all
    · split <;> simp_all
  · split
    · simp_all
    · split <;> simp_all
set_option maxHeartbeats 2000000 in
set_option maxRecDepth 100000 in
theorem rlast_any (ao : Option Addr) (cp h : Nat) (L : List Cd) (B : List Bool) (s : Nat) (hs : s ≤ 1) (w : World) (hv : HasC w (.slice ao L.length cp) L) (hB : RowB w h B) (hl : B.length = L.length) (hn : L.length ≤ 400) :
    Calls Tryz.prog 62 #[.slice ao L.length cp, .slice (some ⟨h, 0, none⟩) L.length L.length, .int .i64 ((s : Int) + 1)] w fun e w' => e = .returned (.int .i64 (lastF (L.map cnt) (pB B) s L.length)) ∧ G w w' := by
  obtain ⟨n, hn'⟩ : ∃ n, L.length = n := ⟨_, rfl⟩
  have HV := hid hv
  have HN := hid hn'
  have HB := hid hB
  rw [hn'] at hn hl ⊢
  clear hv hn' hB
  obtain ⟨X, hX⟩ : ∃ X, lastF (L.map cnt) (pB B) s n = X := ⟨_, rfl⟩
  have HX := hid hX
  rw [hX]
  clear hX
  obtain ⟨si, hsi⟩ : ∃ si, (s : Int) + 1 = si := ⟨_, rfl⟩
  have HSI := hid hsi
  rw [hsi]
  clear hsi
  go_enter Tryz.func62, Tryz.ntmps62
  go_wp2
  go_loopg [7] n (fun gh i wr => ∃ k : Nat, k ≤ n ∧ gh = 0 + k ∧ i = .int .i64 ((k : Int) - 1) ∧ Hid (lastF (L.map cnt) (pB B) s k = X ∧ G w wr))
  case atStart => exact ⟨n, Nat.le_refl _, by omega, rfl, HX.out, G.refl w⟩
  case round =>
    obtain ⟨k, hk, rfl, rfl, HR⟩ := hrel
    cases k with
    | zero =>
      have hx := HR.out.1
      have HG := hid HR.out.2
      have e : X = -1 := by rw [← hx]; rfl
      subst e
      clear hx HR HX
      go_wp2
      go_ret
      exact ⟨rfl, HG.out⟩
    | succ k =>
      obtain ⟨c, hc⟩ : ∃ c, L[k]? = some c := ⟨L[k]'(by rw [HN.out]; omega), by simp⟩
      obtain ⟨bb, hbb⟩ : ∃ bb, B[k]? = some bb := ⟨B[k]'(by omega), by simp⟩
      obtain ⟨g, o, rfl, hl'⟩ := hasC_at (HV.out.up HR.out.2) hc
      have HL := hid hl'
      have qb := (HB.out.keep HR.out.2).at hbb
      have hC : (L.map cnt)[k]? = some (cnt c) := by rw [List.getElem?_map, hc]; rfl
      have hp := pB_at hbb
      have ek : ((k + 1 : Nat) : Int) - 1 = (k : Int) := by omega
      rw [ek]
      have ltI : (k : Int) < (n : Int) := by omega
      have geI : (0 : Int) ≤ (k : Int) := by omega
      have CG := hid (grows_any c wr)
      have hiff := gsV_eq c s hs
      rw [HSI.out] at hiff
      clear hc hbb hl' ek
      generalize gsV c = gv at *
      cases bb with
      | true =>
        have HL2 := hid (lastF_no (P := pB B) (s := s) hC (by rw [hp]; simp))
        clear hC hp hiff
        go_wp2
        go_roundg (0 + k)
        case measure => omega
        case rel => exact ⟨k, by omega, rfl, rfl, by rw [← HL2.out]; exact HR.out.1, HR.out.2⟩
      | false =>
        by_cases hg : gv = si
        · have HL2 : Hid (X = (k : Int)) := by rw [← HR.out.1]; exact lastF_yes hC hp (hiff.1 hg)
          have eg : (gv == si) = true := by simp [hg]
          clear hC hp hiff hg
          go_wp2_with (first
            | ((with_reducible refine wpList_execW (.agg (cc c)) wr ?_ ?_ ?_); exact exec_load 62 _ rfl g (o + k * 10) (cc c) _ rfl _ HL.out under43 rfl size43; kernel_rfl)
            | (go_at_call 90; refine CG.out.mono ?_; rintro e w2 ⟨rfl, hg2⟩; have HG2 := hid hg2; clear hg2))
          go_ret
          exact ⟨by rw [HL2.out]; rfl, HR.out.2.up HG2.out⟩
        · have HL2 := hid (lastF_no (P := pB B) (s := s) hC (by rw [hp]; exact fun h => hg (hiff.2 h.2)))
          have eg : (gv == si) = false := by simp [hg]
          clear hC hp hiff hg
          go_wp2_with (first
            | ((with_reducible refine wpList_execW (.agg (cc c)) wr ?_ ?_ ?_); exact exec_load 62 _ rfl g (o + k * 10) (cc c) _ rfl _ HL.out under43 rfl size43; kernel_rfl)
            | (go_at_call 90; refine CG.out.mono ?_; rintro e w2 ⟨rfl, hg2⟩; have HG2 := hid hg2; clear hg2))
          go_roundg (0 + k)
          case measure => omega
          case rel => exact ⟨k, by omega, rfl, rfl, by rw [← HL2.out]; exact HR.out.1, HR.out.2.up HG2.out⟩
end Go.Proofs.YtpenaeoodfgmpaaGreatDoor
namespace Go.Proofs.YtpenaeoodfgmpaaGreatDoor
open Go.RowKit

/-- what the loop holds: the first m are left out -/
structure LR (C : List Cd) (MM : Int) (w wr : World) (h m : Nat) (B : List Bool) : Prop where
  row : RowB wr h B
  len : B.length = C.length
  at' : ∀ i, i < C.length → B[i]? = some ((tk C MM m).contains i)
  le : m ≤ (rsF C MM).length
  past : ∀ k, k < m → ¬ wT C MM k ≤ MM
  gr : G w wr
theorem LR.pb {C : List Cd} {MM : Int} {w wr : World} {h m : Nat} {B : List Bool} (H : LR C MM w wr h m B) : ∀ i, i < C.length → pB B i = (tk C MM m).contains i := fun i hi => pB_at (H.at' i hi)
theorem wE_congr {C : List Cd} {P Q : Nat → Bool} (h : ∀ i, i < C.length → P i = Q i) : ∀ k, k ≤ C.length → wE C P k = wE C Q k
  | 0, _ => rfl
  | k + 1, hk => by
    have ih := wE_congr h k (by omega)
    simp only [wE, ih, h k (by omega)]
theorem lastF_congr {C : List Cd} {P Q : Nat → Bool} (s : Nat) (h : ∀ i, i < C.length → P i = Q i) : ∀ k, k ≤ C.length → lastF C P s k = lastF C Q s k
  | 0, _ => rfl
  | k + 1, hk => by
    have ih := lastF_congr s h k (by omega)
    simp only [lastF, ih, h k (by omega)]
theorem LR.we {C : List Cd} {MM : Int} {w wr : World} {h m : Nat} {B : List Bool} (H : LR C MM w wr h m B) (hP : ∀ c ∈ C, c.pos) (hm : 0 ≤ MM) : wT C MM m ≤ MM ↔ wE C (pB B) C.length ≤ MM := by
  rw [wE_congr H.pb _ (Nat.le_refl _)]
  exact wT_iff hP hm
theorem LR.last {C : List Cd} {MM : Int} {w wr : World} {h m : Nat} {B : List Bool} (H : LR C MM w wr h m B) (s : Nat) : lastF C (pB B) s C.length = lastF C (fun i => (tk C MM m).contains i) s C.length := lastF_congr s H.pb _ (Nat.le_refl _)
theorem LR.step {C : List Cd} {MM : Int} {w wr w1 : World} {h m : Nat} {B : List Bool} (H : LR C MM w wr h m B) (hh : w.heap.size = h) (hg : G wr w1) {q : Nat × Int} (hq : (rsF C MM)[m]? = some q) (hgt : ¬ wT C MM m ≤ MM) : LR C MM w (w1.setCell ⟨h, q.1, none⟩ (.bool true)) h (m + 1) (B.set q.1 true) := by
  have hql := rsF_cell (List.mem_of_getElem? hq)
  have hb : But h w1 (w1.setCell ⟨h, q.1, none⟩ (.bool true)) := (But.refl h w1).setCell q.1 _
  refine ⟨(H.row.keep hg).set q.1 true, by simpa using H.len, fun i hi => ?_, ?_, fun k hk => ?_, (H.gr.up hg).trans (hb.below (Nat.le_of_eq hh) (H.gr.up hg).size)⟩
  · rw [tk_succ hq]
    by_cases e : q.1 = i
    · subst e
      rw [List.getElem?_set_self (by rw [H.len]; exact hi)]
      simp
    · rw [List.getElem?_set_ne e, H.at' i hi]
      have : i ≠ q.1 := fun e2 => e e2.symm
      simp [this]
  · have := (List.getElem?_eq_some_iff.1 hq).1
    omega
  · by_cases e : k = m
    · subst e; exact hgt
    · exact H.past k (by omega)
theorem LR.done {C : List Cd} {MM : Int} {w wr : World} {h m : Nat} {B : List Bool} (H : LR C MM w wr h m B) (hd : m < (rsF C MM).length → wT C MM m ≤ MM) : RowB wr h (leave C MM) := by
  rw [← leave_is H.le hd H.past H.len H.at']
  exact H.row
set_option maxHeartbeats 4000000 in
set_option maxRecDepth 100000 in
theorem rLeft_any (ao : Option Addr) (cp : Nat) (L : List Cd) (most : Int) (w : World) (hv : HasC w (.slice ao L.length cp) L) (hn : L.length ≤ 400) :
    Calls Tryz.prog 17 #[.slice ao L.length cp, .int .i64 most] w fun e w' => e = .returned (.slice (some ⟨w.heap.size, 0, none⟩) L.length L.length) ∧ RowB w' w.heap.size (leave (L.map cnt) (cap most)) ∧ G w w' := by
  obtain ⟨n, hn'⟩ : ∃ n, L.length = n := ⟨_, rfl⟩
  obtain ⟨i0, hi, hz0, hz1, hz2⟩ := info_parts Tryz.info4
  have hM : (Instr.makeSlice 68 (.int .i64 (n : Int)) (.int .i64 (n : Int))).run Tryz.prog w = .ok (.slice (some ⟨w.heap.size, 0, none⟩) n n) (w.alloc (.cells (madeCells #[.bool false] n) 4)) := by
    have := run_make (P := Tryz.prog) w 68 4 i0 (.bool false) Tryz.underlying68 hi hz0 .i64 .i64 n n (by omega) (Int.le_refl _) (by rw [hz2]; omega) (by omega)
    rw [hz1] at this
    simpa [Value.cells] using this
  obtain ⟨wm, ewm⟩ : ∃ wm, w.alloc (.cells (madeCells #[.bool false] n) 4) = wm := ⟨_, rfl⟩
  rw [ewm] at hM
  have hrm : RowB wm w.heap.size (List.replicate n false) := by
    unfold RowB
    rw [← ewm, heap_alloc_new]
    congr 2
    apply Array.ext_getElem?
    intro i
    by_cases hi : i < n <;> simp [madeCells, hi, Nat.mod_one]
  have hbm : G w wm := by rw [← ewm]; exact G.al _ _
  obtain ⟨C, hC⟩ : ∃ C, L.map cnt = C := ⟨_, rfl⟩
  obtain ⟨MM, hMM⟩ : ∃ MM, cap most = MM := ⟨_, rfl⟩
  obtain ⟨h, hh⟩ : ∃ h, w.heap.size = h := ⟨_, rfl⟩
  have HH := hid hh
  have hCn : C.length = n := by rw [← hC, List.length_map, hn']
  have hPP : ∀ c ∈ C, c.pos := fun c hc => by rw [← hC] at hc; obtain ⟨d, _, rfl⟩ := List.mem_map.1 hc; exact cnt_pos d
  have hMb := cap_bd most
  have C1 := hid (fun B W hW hR hl => rWorst_any ao cp h L B W hW hR hl hn)
  have C2 := hid (fun s hs B W hW hR hl => rlast_any ao cp h L B s hs W hW hR hl hn)
  have C3 := hid (fun W => most_any most W)
  rw [hC, hn'] at C1 C2
  rw [hMM] at C3 hMb
  have HNX := hid (fun m => nxt_at (C := C) (most := MM) (m := m) n hCn.symm)
  have HRF := hid (fun (q : Nat × Int) (m : Nat) (hq : (rsF C MM)[m]? = some q) => (rsF_cell (List.mem_of_getElem? hq)).1)
  have H0 : Hid (LR C MM w wm h 0 (List.replicate n false)) := ⟨by rw [← hh]; exact hrm, by simp [hCn], fun i hi => by simp [tk, show i < n by omega], Nat.zero_le _, fun k hk => by omega, hbm⟩
  have HWE := hid (fun (wr : World) (m : Nat) (B : List Bool) (H : LR C MM w wr h m B) => H.we hPP (by omega))
  have HV := hid hv
  have HCN := hid hCn
  rw [hC, hMM, hh, hn']
  rw [hh] at hM
  rw [hn'] at hn HV
  obtain ⟨rl, hrl⟩ : ∃ rl, (rsF C MM).length = rl := ⟨_, rfl⟩
  have HRL := hid hrl
  have kM := hM
  rw [hCn] at HRF HWE
  clear hv hM hrm hbm hC hCn hPP hMM hn' hh hrl ewm
  go_enter Tryz.func17, Tryz.ntmps17
  go_wp2
  go_loopg [6] rl (fun gh _ wr => ∃ (m : Nat) (B : List Bool), gh = rl - m ∧ Hid (LR C MM w wr h m B))
  case atStart => exact ⟨0, _, rfl, H0.out⟩
  case round =>
    clear H0
    obtain ⟨m, B, rfl, HR⟩ := hrel
    have hBn : B.length = n := by rw [HR.out.len, HCN.out]
    have A1 := hid (C1.out B wr (HV.out.up HR.out.gr) HR.out.row hBn)
    have hwe := HWE.out wr m B HR.out
    obtain ⟨Y, hY⟩ : ∃ Y, wE C (pB B) n = Y := ⟨_, rfl⟩
    rw [hY] at A1 hwe
    obtain ⟨Z, hZ⟩ : ∃ Z, mn Y MAX = Z := ⟨_, rfl⟩
    have hZY : MM < Z ↔ ¬ Y ≤ MM := by rw [← hZ]; unfold mn MAX; split <;> omega
    rw [hZ] at A1
    clear hY hZ
    by_cases hgt : MM < Z
    · have hnt : ¬ wT C MM m ≤ MM := fun h => hZY.1 hgt (hwe.1 h)
      have hnx := HNX.out m
      have hl0 := HR.out.last 0
      have hl1 := HR.out.last 1
      rw [HCN.out] at hl0 hl1
      have A2 := hid (fun W (hg : G wr W) => C2.out 0 (by omega) B W ((HV.out.up HR.out.gr).up hg) (HR.out.row.keep hg) hBn)
      have A3 := hid (fun W (hg : G wr W) => C2.out 1 (by omega) B W ((HV.out.up HR.out.gr).up hg) (HR.out.row.keep hg) hBn)
      rw [hl0] at A2
      rw [hl1] at A3
      have HT := hid hnt
      obtain ⟨X0, hX0⟩ : ∃ X0, lastF C (fun i => (tk C MM m).contains i) 0 n = X0 := ⟨_, rfl⟩
      obtain ⟨X1, hX1⟩ : ∃ X1, lastF C (fun i => (tk C MM m).contains i) 1 n = X1 := ⟨_, rfl⟩
      rw [hX0] at A2 hnx
      rw [hX1] at A3 hnx
      have HNXM := hid hnx
      have HBN := hid hBn
      clear hl0 hl1 hX0 hX1 hnx hnt hZY hwe hBn
      go_upto_region 3 with (first
        | (go_at_call 60; refine A1.out.mono ?_; rintro e w2 ⟨rfl, rfl⟩)
        | (go_at_call 61; refine (C3.out _).mono ?_; rintro e w2 ⟨rfl, rfl⟩))
      by_cases hga : m < (gat C MM 0 n).length
      · obtain ⟨q, hq, hx⟩ := HNXM.out.1 hga
        subst hx
        have hqn := HRF.out q m hq
        have q0 : ¬ ((q.1 : Nat) : Int) < 0 := by omega
        have q1 : ((q.1 : Nat) : Int) < (n : Int) := by omega
        have q2 : (0 : Int) ≤ ((q.1 : Nat) : Int) := by omega
        have HQ := hid hq
        clear hq
        go_upto_region 7 with (go_at_call 62; refine (A2.out _ (G.refl _)).mono ?_; rintro e w2 ⟨rfl, hg2⟩; have HG2 := hid hg2; have hcx := (HR.out.row.keep hg2).frozen q.1; obtain ⟨bx, hbx⟩ : ∃ bx, B[q.1]? = some bx := ⟨B[q.1]'(by rw [HBN.out]; exact hqn), by simp⟩; have hcy := (HR.out.row.keep hg2).at hbx; clear hg2 hbx)
        have HS := hid (HR.out.step HH.out HG2.out HQ.out (by have := HT.out; omega))
        go_wp2
        go_roundg (rl - (m + 1))
        case measure => have := (List.getElem?_eq_some_iff.1 HQ.out).1; rw [HRL.out] at this; omega
        case rel => exact ⟨m + 1, _, rfl, HS.out⟩
      · obtain ⟨hx0, hx1, hx2⟩ := HNXM.out.2 (by omega)
        subst hx0
        go_upto_region 4 with (go_at_call 62; refine (A2.out _ (G.refl _)).mono ?_; rintro e w2 ⟨rfl, hg2⟩; have HG2 := hid hg2; clear hg2)
        have A4 := hid (A3.out w2 HG2.out)
        cases hq : (rsF C MM)[m]? with
        | none =>
          have e1 := hx2 hq
          subst e1
          have HD : Hid (RowB w2 h (leave C MM)) := (HR.out.done (fun hlt => by rw [List.getElem?_eq_none_iff] at hq; omega)).keep HG2.out
          clear hq hx1 hx2
          go_wp2_with (go_at_call 62; refine A4.out.mono ?_; rintro e w3 ⟨rfl, hg3⟩; have HG3 := hid hg3; clear hg3)
          go_ret
          exact ⟨rfl, HD.out.keep HG3.out, (HR.out.gr.up HG2.out).up HG3.out⟩
        | some q =>
          have e1 := hx1 q hq
          subst e1
          have hqn := HRF.out q m hq
          have q0 : ¬ ((q.1 : Nat) : Int) < 0 := by omega
          have q1 : ((q.1 : Nat) : Int) < (n : Int) := by omega
          have q2 : (0 : Int) ≤ ((q.1 : Nat) : Int) := by omega
          have HQ := hid hq
          clear hq hx1 hx2
          go_upto_region 7 with (go_at_call 62; refine A4.out.mono ?_; rintro e w3 ⟨rfl, hg3⟩; have HG3 := hid (HG2.out.up hg3); have hcx := (HR.out.row.keep HG3.out).frozen q.1; obtain ⟨bx, hbx⟩ : ∃ bx, B[q.1]? = some bx := ⟨B[q.1]'(by rw [HBN.out]; exact hqn), by simp⟩; have hcy := (HR.out.row.keep HG3.out).at hbx; clear hg3 hbx)
          have HS := hid (HR.out.step HH.out HG3.out HQ.out (by have := HT.out; omega))
          go_wp2
          go_roundg (rl - (m + 1))
          case measure => have := (List.getElem?_eq_some_iff.1 HQ.out).1; rw [HRL.out] at this; omega
          case rel => exact ⟨m + 1, _, rfl, HS.out⟩
    · have HD : Hid (RowB wr h (leave C MM)) := HR.out.done (fun _ => hwe.2 (by omega))
      clear hZY hwe hBn
      go_wp2_with (first
        | (go_at_call 60; refine A1.out.mono ?_; rintro e w2 ⟨rfl, rfl⟩)
        | (go_at_call 61; refine (C3.out _).mono ?_; rintro e w2 ⟨rfl, rfl⟩))
      go_ret
      exact ⟨rfl, HD.out, HR.out.gr⟩
end Go.Proofs.YtpenaeoodfgmpaaGreatDoor
