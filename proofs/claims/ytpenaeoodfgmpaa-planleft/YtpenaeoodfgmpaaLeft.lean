/-
  PlanLeft: the walk.
-/
import Derived.Test.YtpenaeoodfgmpaaApp
import Derived.Deep.CutBlock
namespace Go.Proofs.Ytpenaeoodfgmpaa
open Go.RowKit

set_option maxHeartbeats 8000000 in
set_option maxRecDepth 100000 in
theorem left_walk (ao : Option Addr) (cp : Nat) (L : List Cd) (most : Int) (w : World) (hv : HasC w (.slice ao L.length cp) L) (hl : L.length ≤ 9223372036854775807) :
    Calls Try.prog 3 #[.agg #[.slice ao L.length cp], .int .i64 most] w fun e w' => e = .returned (.bool true) ∧ G w w' := by
  have HV := hid hv
  obtain ⟨M, hM⟩ : ∃ M, w.heap.size = M := ⟨_, rfl⟩
  have K1 := hid (few_any ao cp L (w.alloc (.cells #[.slice ao L.length cp] 24)) (hv.up (G.al _ _)) hl)
  have K2 := hid (fun W => known_any W)
  have HM0 : Hid ((w.alloc (.cells #[.slice ao L.length cp] 24)).heap[M]? = some (.cells #[.slice ao L.length cp] 24 (0, 0))) := by rw [← hM]; exact heap_alloc_new _ _
  obtain ⟨n, hn⟩ : ∃ n, L.length = n := ⟨_, rfl⟩
  have HNL := hid hn
  rw [hn] at K1 HM0 HV hl ⊢
  have K3 := hid (fun W hW h300 => plain_any ao cp L W hW h300)
  rw [hn] at K3
  clear hv hn
  go_enter Try.func3, Try.ntmps3
  go_upto_region 5 with (first
    | (go_at_call 7; refine K1.out.mono ?_; rintro e w1 ⟨b, rfl, hb3, hg1⟩; have H1 := hid (And.intro hb3 ((G.al _ _).up hg1)); have H1' := hid hg1; clear hb3 hg1; cases b)
    | (go_at_call 8; refine (K2.out _).mono ?_; rintro e w2 ⟨rfl, h2⟩; have H2 := hid h2; clear h2))
  · go_ret
    exact ⟨rfl, H1.out.2⟩
  have h3 : n ≤ 300 := by have := H1.out.1 (by first | rfl | trivial); rw [HNL.out] at this; exact this
  have HGW : Hid (G w w2) := H1.out.2.up H2.out
  have hm2 : w2.heap[M]? = some (.cells #[.slice ao n cp] 24 (0, 0)) := by
    have hg := H1'.out.up H2.out
    exact (hg.block M (by simp [← hM])).trans HM0.out
  have kc := cell_of_row w2 M 0 _ _ _ hm2
  have kf := frozen_of_row w2 M 0 _ _ hm2
  simp only [List.getElem?_toArray, List.getElem?_cons_zero] at kc
  have HM2 := hid hm2
  have A3 := hid (K3.out w2 (HV.out.up HGW.out) h3)
  have HMM := hid hM
  clear hm2 hM K1 K2 K3 H1 H1' H2 HM0
  obtain ⟨C, hC⟩ : ∃ C, L.map smC = C := ⟨_, rfl⟩
  have HC := hid hC
  have hCn : C.length = n := by rw [← hC, List.length_map, HNL.out]
  unfold PlnR at A3
  rw [hC, hCn] at A3
  have hCo : ∀ c ∈ C, c.ok := by
    rw [← hC]; intro c hc; obtain ⟨d, hd, rfl⟩ := List.mem_map.1 hc; exact smC_ok (HV.out.choose_spec.choose_spec.2.2 d hd)
  have hCs : ∀ c ∈ C, c.sm := by
    rw [← hC]; intro c hc; obtain ⟨d, hd, rfl⟩ := List.mem_map.1 hc; exact smC_sm d
  have hCp : ∀ c ∈ C, c.pos := by
    rw [← hC]; intro c hc; obtain ⟨d, hd, rfl⟩ := List.mem_map.1 hc; exact smC_pos d
  have HCO := hid (And.intro hCo (And.intro hCs hCp))
  have HCN := hid hCn
  clear hC hCo hCs hCp
  go_upto_region 6 with (go_at_call 9; refine A3.out.mono ?_; rintro e w3 ⟨ac, kc3, rfl, o3, g3⟩; have H3 := hid (And.intro o3 g3); clear o3 g3; have km3 := (H3.out.2.block M (Array.getElem?_eq_some_iff.1 HM2.out).1).trans HM2.out; have kc3' := cell_of_row w3 M 0 _ _ _ km3; have kf3' := frozen_of_row w3 M 0 _ _ km3; simp only [List.getElem?_toArray, List.getElem?_cons_zero] at kc3'; have KM3 := hid km3; clear km3)
  obtain ⟨w4, hw4⟩ : ∃ w4, w3.setCell ⟨M, 0, none⟩ (.slice ac n kc3) = w4 := ⟨_, rfl⟩
  have hb4 : But M w3 w4 := by rw [← hw4]; exact (But.refl M w3).setCell 0 _
  have hm4 : w4.heap[M]? = some (.cells #[.slice ac n kc3] 24 (0, 0)) := by rw [← hw4, heap_setCell_same _ _ _ _ _ _ KM3.out]; rfl
  have HMlt : Hid (M < w2.heap.size) := (Array.getElem?_eq_some_iff.1 HM2.out).1
  have HG4 : Hid (G w w4) := (HGW.out.up H3.out.2).trans (hb4.below (Nat.le_of_eq HMM.out) (HGW.out.up H3.out.2).size)
  have HC4 : Hid (HasC w4 (.slice ac n kc3) C) := OwnsC.has (owns_but H3.out.1 hb4 HMlt.out) HCO.out.1
  have A4 := hid (of_any ac kc3 C most w4 (by have := HC4.out; rwa [HCN.out]) (by rw [HCN.out]; omega))
  rw [HCN.out] at A4
  have k4 := cell_of_row w4 M 0 _ _ _ hm4
  simp only [List.getElem?_toArray, List.getElem?_cons_zero] at k4
  have HM4 := hid hm4
  rw [hw4]
  clear kc kf kc3' kf3' hw4 hb4 hm4 A3 H3 KM3 HM2
  obtain ⟨p, hp⟩ : ∃ p, planF C most = p := ⟨_, rfl⟩
  have HPP := hid hp
  rw [hp] at A4
  clear hp
  go_upto_region 7 with (go_at_call 10; refine A4.out.mono ?_; rintro e w5 ⟨vi, vl, rfl, oi, ol, _, g5⟩; obtain ⟨ai, ci, ei⟩ := owns_form oi; subst ei; obtain ⟨al, cl, el⟩ := owns_form ol; subst el; have H5 := hid (And.intro oi (And.intro ol g5)); clear oi ol g5)
  obtain ⟨B, hBl, hBq, hpi, hpl, hq2⟩ := plan_facts HPP.out HCO.out.2.2
  clear hpi hq2
  obtain ⟨P, hP⟩ : ∃ P, w5.heap.size = P := ⟨_, rfl⟩
  obtain ⟨w6, hw6⟩ : ∃ w6, w5.alloc (.cells (pCells p (.slice ai p.items.length ci) (.slice al p.left.length cl)) 34) = w6 := ⟨_, rfl⟩
  have HL0 : Hid (LawS w w6 M P (.slice ac n kc3) (.slice ai p.items.length ci) (.slice al p.left.length cl) C p) := by
    obtain ⟨oi, ol, g5⟩ := H5.out
    have ga := G.al w5 (.cells (pCells p (.slice ai p.items.length ci) (.slice al p.left.length cl)) 34)
    rw [hw6] at ga
    refine ⟨((g5.up ga).block M (Array.getElem?_eq_some_iff.1 HM4.out).1).trans HM4.out, by rw [← hP, ← hw6]; exact heap_alloc_new _ _, (HC4.out.up g5).up ga, oi.has.up ga, ol.has.up ga, (HG4.out.up g5).up ga⟩
  obtain ⟨R, hR⟩ : ∃ R, p.left = R := ⟨_, rfl⟩
  obtain ⟨MM, hMM⟩ : ∃ MM, cap most = MM := ⟨_, rfl⟩
  obtain ⟨ga, hga⟩ : ∃ ga, grw C 0 C.length = ga := ⟨_, rfl⟩
  obtain ⟨gb, hgb⟩ : ∃ gb, grw C 1 C.length = gb := ⟨_, rfl⟩
  have hMb := cap_bd most
  have LF := hid (left_facts (C := C) (most := MM) (B := B) (R := R) HCO.out.2.2 (by omega) (by rw [← hMM]; exact hBq) (by rw [← hR]; exact hpl) hga.symm hgb.symm)
  have HRI : Hid (∀ (i : Nat) (x y : Int), R[i]? = some x → R[i + 1]? = some y → x < y) := by
    rw [← hR, hpl]; exact pls_rises B _
  have hll : R.length ≤ 400 := by rw [← hR, hpl]; have := pls_len B B.length; have := HCN.out; omega
  have hlga : ga.length ≤ 300 := by rw [← hga]; have := grw_len C 0 C.length; have := HCN.out; omega
  have hlgb : gb.length ≤ 300 := by rw [← hgb]; have := grw_len C 1 C.length; have := HCN.out; omega
  obtain ⟨ti, hti⟩ : ∃ ti, p.items.length = ti := ⟨_, rfl⟩
  obtain ⟨tl, htl⟩ : ∃ tl, R.length = tl := ⟨_, rfl⟩
  obtain ⟨la, hla⟩ : ∃ la, ga.length = la := ⟨_, rfl⟩
  obtain ⟨lb, hlb⟩ : ∃ lb, gb.length = lb := ⟨_, rfl⟩
  have HTL := hid (And.intro htl (And.intro hla hlb))
  have A11 := hid (growing_any ac kc3 C w6 (by have := HL0.out.hc; rwa [HCN.out]) (by rw [HCN.out]; omega))
  rw [hga, hgb, HCN.out] at A11
  have A13 := hid (fun (W : World) (au : Option Addr) (cu : Nat) (R' : List Int) (h1 : HasC W (.slice ac n kc3) C) (h2 : HasN W (.slice au R'.length cu) R') (hr : R'.length ≤ 400) => worst_any ac au kc3 cu C R' W (by rwa [HCN.out]) h2 HCO.out.2.1 (by rw [HCN.out]; exact h3) hr)
  rw [HCN.out] at A13 LF
  have HWB := hid (fun R' : List Int => wS_bd (L := C) (R := R') HCO.out.2.1 n)
  obtain ⟨M1, hM1⟩ : ∃ M1, (if most < 1 then 1 else most) = M1 := ⟨_, rfl⟩
  have hM2 : (if 1048576 < M1 then 1048576 else M1) = MM := by
    rw [← hMM, ← hM1]; unfold cap mn mx; repeat' split
    all_goals omega
  rw [hMM] at hMb
  have HPL := hid hR
  rw [hR, htl, hti] at HL0 hw6 ⊢
  rw [htl] at hll
  rw [hla] at hlga
  rw [hlb] at hlgb
  rw [htl, hla, hlb] at LF
  unfold pCells at hw6
  rw [hw6]
  have m0 : w6.cell? ⟨M, 0, none⟩ = some (.slice ac n kc3) := cell_of_row _ _ 0 _ _ _ HL0.out.mv
  have pc1 : w6.cell? ⟨P, 1, none⟩ = some (.slice al tl cl) := cell_of_row _ _ 1 _ _ _ HL0.out.pv
  rw [hP]
  clear hw6 hP hBl hBq hpl hR hMM hga hgb hti htl hla hlb k4 A4 HM4 HC4 H5
  go_upto_region 9 with (go_at_call 11; refine A11.out.mono ?_; rintro e w7 ⟨v0, v1, rfl, hN⟩; obtain ⟨aa, ca, ea⟩ := owns_form hN.out.1; obtain ⟨ab, cb, eb⟩ := owns_form hN.out.2.1; subst ea eb; rw [HTL.out.2.1, HTL.out.2.2] at hN ⊢)
  have HN7 := hid hN.out
  have HL7 := hid (HL0.out.up HN7.out.2.2.2)
  clear hM1 hM2 hN A11 m0 pc1 HL0
  go_wp2
  go_loopg [8] tl (fun gh i wr => ∃ k : Nat, gh = tl - k ∧ i = .int .i64 ((k : Int) + 1) ∧ k ≤ tl ∧ Hid (∃ m, wr = w7.drewN m))
  case atStart => exact ⟨0, rfl, rfl, Nat.zero_le _, ⟨0, rfl⟩⟩
  case round =>
  obtain ⟨k, rfl, rfl, hk, HD⟩ := hrel
  have HL8 : Hid (LawS w wr M P (.slice ac n kc3) (.slice ai ti ci) (.slice al tl cl) C p ∧ G w7 wr) := by
    obtain ⟨m, rfl⟩ := HD.out
    exact ⟨HL7.out.up ((G.refl w7).drewN m), (G.refl w7).drewN m⟩
  have pc1 : wr.cell? ⟨P, 1, none⟩ = some (.slice al tl cl) := cell_of_row _ _ 1 _ _ _ HL8.out.1.pv
  by_cases hlt : k + 1 < tl
  · obtain ⟨x, hx⟩ : ∃ x, R[k]? = some x := ⟨R[k]'(by rw [HTL.out.1]; omega), by simp⟩
    obtain ⟨y, hy⟩ : ∃ y, R[k + 1]? = some y := ⟨R[k + 1]'(by rw [HTL.out.1]; omega), by simp⟩
    have hxy : ¬ y ≤ x := by have := HRI.out k x y hx hy; omega
    have hasN : HasN wr (.slice al tl cl) R := by rw [← HPL.out]; exact HL8.out.1.hn
    obtain ⟨g, o, rfl, q0⟩ := hasN.at hx
    obtain ⟨g', o', e, q1⟩ := hasN.at hy
    injection e with e
    injection e with e1 e2
    subst e1 e2
    have ltI : (k : Int) + 1 < (tl : Int) := by omega
    have lt2 : (k : Int) < (tl : Int) := by omega
    have geI : (0 : Int) ≤ (k : Int) := by omega
    have tN : (((k : Int) + 1).toNat) = k + 1 := by omega
    have wN : IntKind.i64.wrap (k : Int) = (k : Int) := by rw [IntKind.wrap_i64] <;> omega
    clear hx hy hasN
    go_upto_region 12 with fail
    go_quiet (fail)
    obtain ⟨wz, hwz⟩ : ∃ wz, wr.drewN nq = wz := ⟨_, rfl⟩
    have HD2 : Hid (∃ m, wz = w7.drewN m) := by obtain ⟨m, rfl⟩ := HD.out; exact ⟨_, by rw [← hwz, World.drewN_drewN]⟩
    rw [hwz]
    clear hwz q0 q1 pc1
    go_wp2
    go_roundg (tl - (k + 1))
    case measure => omega
    case rel => exact ⟨k + 1, rfl, by go_num, by omega, HD2.out⟩
  · have ltI : ¬ (k : Int) + 1 < (tl : Int) := by omega
    have HN8 : Hid (N2 w6 wr (.slice aa la ca) (.slice ab lb cb) ga gb) := by
      obtain ⟨h1, h2, h4, h5⟩ := HN7.out
      have hg := HL8.out.2
      exact ⟨h1.up hg, h2.up hg, h4, h5.up hg⟩
    have HNIL : Hid (OwnsN wr wr.heap.size (.slice none 0 0) []) := World.ownsRow_nil _ _ _ _
    clear HD HN7 HL7
    go_upto_if 60 with fail
    go_cut [10, 11] (fun x v w' => ∃ (X : Int) (aw : Option Addr) (cw : Nat) (Wl : List Int), x = .int .i64 X ∧ v = .slice aw tl cw ∧ Hid (HasN w' (.slice aw tl cw) Wl ∧ Wl.length = tl ∧ (∀ y ∈ R, y ∈ Wl) ∧ (0 < tl → (tl ≤ la ∧ ga[la - tl]? = some X) ∨ (la < tl ∧ gb[lb - (tl - la)]? = some X)) ∧ G wr w'))
    case first =>
      by_cases hta : tl ≤ la
      · have taI : (tl : Int) ≤ (la : Int) := by omega
        obtain ⟨src, hsrc, hsl⟩ := slice_run HN8.out.1 HTL.out.2.1 (d := la - tl) (by omega)
        obtain ⟨vW, w9, happ, hown, hgr⟩ := app_run 29 HNIL.out hsrc (Nat.le_refl _) (by simp; have := HTL.out.2.1; omega)
        have edI : ((la - tl : Nat) : Int) = (la : Int) - (tl : Int) := by omega
        rw [edI] at hsl
        have HSL := hid hsl
        have HAP := hid happ
        rw [List.nil_append] at hown
        have g9 : G wr w9 := ⟨hgr.os, hgr.tape, hgr.output, hgr.size, fun k hk => hgr.block k hk (by simp [Value.ownBlock])⟩
        obtain ⟨aw, cw, ew⟩ := owns_form hown
        have hdl : (ga.drop (la - tl)).length = tl := by simp; have := HTL.out.2.1; omega
        rw [hdl] at ew
        subst ew
        have HO9 := hid (And.intro hown g9)
        clear hsl happ hown hgr g9 hsrc edI hdl
        go_upto_region 19 with (first
          | ((with_reducible refine wpList_execW src wr ?_ ?_ ?_); exact exec_slice (v := .slice aa la ca) (d := (la : Int) - (tl : Int)) rfl rfl rfl HSL.out; kernel_rfl)
          | ((with_reducible refine wpList_execW (.slice aw tl cw) w9 ?_ ?_ ?_); exact exec_app (v := .slice none 0 0) (src := src) rfl rfl rfl HAP.out; kernel_rfl))
        by_cases ht0 : tl = 0
        · have t0I : ¬ (0 : Int) < (tl : Int) := by omega
          have HT0 := hid ht0
          clear ht0
          go_wp2
          go_meet
          refine ⟨-1, aw, cw, ga.drop (la - tl), rfl, rfl, ?_, ?_, ?_, ?_, HO9.out.2⟩
          · have := HO9.out.1.has; exact this
          · simp; have := HTL.out.2.1; omega
          · have := LF.out.2.1 hta; exact this
          · intro h; have := HT0.out; omega
        · have t0I : (0 : Int) < (tl : Int) := by omega
          obtain ⟨X, hX⟩ : ∃ X, ga[la - tl]? = some X := ⟨ga[la - tl]'(by rw [HTL.out.2.1]; omega), by simp⟩
          have hasG : HasN w9 (.slice aa la ca) ga := (HN8.out.1.up HO9.out.2).has
          obtain ⟨g, o, rfl, q0⟩ := hasG.at hX
          have HX := hid hX
          have d0 : (0 : Int) ≤ (la : Int) - (tl : Int) := by omega
          have d1 : (la : Int) - (tl : Int) < (la : Int) := by omega
          have d2 : ((la : Int) - (tl : Int)).toNat = la - tl := by omega
          clear hX hasG
          go_wp2
          go_meet
          refine ⟨X, aw, cw, ga.drop (la - tl), rfl, rfl, ?_, ?_, ?_, ?_, HO9.out.2⟩
          · have := HO9.out.1.has; exact this
          · simp; have := HTL.out.2.1; omega
          · have := LF.out.2.1 hta; exact this
          · intro _; exact .inl ⟨hta, HX.out⟩
      · have taI : ¬ (tl : Int) ≤ (la : Int) := by omega
        have htab : tl ≤ la + lb := LF.out.1
        have tbI : (tl : Int) ≤ (la : Int) + (lb : Int) := by omega
        obtain ⟨src, hsrc, hsl⟩ := slice_run HN8.out.2.1 HTL.out.2.2 (d := lb - (tl - la)) (by omega)
        have edI : ((lb - (tl - la) : Nat) : Int) = (lb : Int) - ((tl : Int) - (la : Int)) := by omega
        rw [edI] at hsl
        have HSL := hid hsl
        have HSR := hid hsrc
        obtain ⟨X, hX⟩ : ∃ X, gb[lb - (tl - la)]? = some X := ⟨gb[lb - (tl - la)]'(by rw [HTL.out.2.2]; omega), by simp⟩
        have HX := hid hX
        clear hsl hsrc edI htab hX
        go_upto_region 23 with fail
        refine wp_region_any (by kernel_rfl) ?_
        change wpAny _ _ _ _ _ _ _ (World.drew _)
        refine wpAny_take (i := 0) (v := .slice none 0 0) rfl (by kernel_rfl) (by kernel_rfl) (by kernel_rfl) (fun _ _ _ h => h) (Or.inl ⟨by kernel_rfl, ?_⟩) ?_
        · intro wz; go_simp
        refine wpAny_take (i := 1) (v := .slice aa la ca) rfl (by kernel_rfl) (by kernel_rfl) (by kernel_rfl) (fun _ _ _ h => h) (Or.inl ⟨by kernel_rfl, ?_⟩) ?_
        · intro wz; go_simp
        refine wpAny_take (i := 3) (v := .slice ab lb cb) rfl (by kernel_rfl) (by kernel_rfl) (by kernel_rfl) (fun _ _ _ h => h) (Or.inl ⟨by kernel_rfl, ?_⟩) ?_
        · intro wz; go_simp
        refine wpAny_take (i := 4) (v := .slice ab lb cb) rfl (by kernel_rfl) (by kernel_rfl) (by kernel_rfl) (fun _ _ _ h => h) (Or.inl ⟨by kernel_rfl, ?_⟩) ?_
        · intro wz; go_simp
        refine wpAny_take (i := 5) (v := .int .i64 (lb : Int)) rfl (by kernel_rfl) (by kernel_rfl) (by kernel_rfl) (fun _ _ _ h => h) (Or.inl ⟨by kernel_rfl, ?_⟩) ?_
        · intro wz; go_simp
        refine wpAny_take (i := 6) (v := .int .i64 ((tl : Int) - (la : Int))) rfl (by kernel_rfl) (by kernel_rfl) (by kernel_rfl) (fun _ _ _ h => h) (Or.inl ⟨by kernel_rfl, ?_⟩) ?_
        · intro wz; go_simp
        refine wpAny_take (i := 7) (v := .int .i64 ((lb : Int) - ((tl : Int) - (la : Int)))) rfl (by kernel_rfl) (by kernel_rfl) (by kernel_rfl) (fun _ _ _ h => h) (Or.inl ⟨by kernel_rfl, ?_⟩) ?_
        · intro wz; go_simp; try (rw [IntKind.wrap_i64] <;> omega)
        try simp only [Act.put, List.getElem_toArray, List.getElem_cons_zero, List.getElem_cons_succ, List.setIfInBounds_toArray, List.set_cons_zero, List.set_cons_succ]
        refine wpAny_take (i := 8) (v := src) rfl (by kernel_rfl) (by kernel_rfl) (by kernel_rfl) (fun _ _ _ h => h) (Or.inl ⟨by kernel_rfl, ?_⟩) ?_
        · intro wz; exact exec_slice (v := .slice ab lb cb) (d := (lb : Int) - ((tl : Int) - (la : Int))) rfl rfl rfl HSL.out
        try simp only [Act.put, List.getElem_toArray, List.getElem_cons_zero, List.getElem_cons_succ, List.setIfInBounds_toArray, List.set_cons_zero, List.set_cons_succ]
        refine wpAny_ready (rs := [2]) (by kernel_rfl) (by simp) ?_
        refine AllReady.cons rfl (fun K' hK' => ?_) AllReady.nil
        rw [if_pos (by kernel_rfl)]
        have gd : G wr wr.drew := ⟨rfl, rfl, rfl, Nat.le_refl _, fun _ _ => rfl⟩
        obtain ⟨v1, w9, hr1, ho1, hg1⟩ := app_run 29 (HNIL.out.up gd) (HN8.out.1.up gd).src (Nat.le_refl _) (by simp; have := HTL.out.2.1; omega)
        rw [List.nil_append] at ho1
        have g9 : G wr w9 := gd.up ⟨hg1.os, hg1.tape, hg1.output, hg1.size, fun k hk => hg1.block k hk (by simp [Value.ownBlock])⟩
        refine wp_exec (exec_app (v := .slice none 0 0) (src := .slice aa la ca) rfl rfl rfl hr1) ?_
        refine hK' _ _ ?_
        clear hK' K' hr1 hg1 gd
        try simp only [Act.put, List.getElem_toArray, List.getElem_cons_zero, List.getElem_cons_succ, List.setIfInBounds_toArray, List.set_cons_zero, List.set_cons_succ]
        refine wpAny_ready (rs := [9]) (by kernel_rfl) (by simp) ?_
        refine AllReady.cons rfl (fun K' hK' => ?_) AllReady.nil
        rw [if_pos (by kernel_rfl)]
        obtain ⟨v2, w10, hr2, ho2, hg2⟩ := app_run 29 ho1 (HSR.out.upG g9) g9.size (by simp; have := HTL.out.2.1; have := HTL.out.2.2; omega)
        have g10 : G wr w10 := grow_below (G.refl wr) g9 (fun b hb => (World.ownsRow.lt ho1 b hb).1) hg2
        obtain ⟨aw, cw, ew⟩ := owns_form ho2
        have hdl : (ga ++ gb.drop (lb - (tl - la))).length = tl := by simp; have := HTL.out.2.1; have := HTL.out.2.2; omega
        rw [hdl] at ew
        subst ew
        refine wp_exec (exec_app (v := v1) (src := src) rfl rfl rfl hr2) ?_
        refine hK' _ _ ?_
        clear hK' K' hr2 hg2 g9
        have HO := hid (And.intro ho2 g10)
        clear ho1 ho2 g10 hdl
        try simp only [Act.put, List.getElem_toArray, List.getElem_cons_zero, List.getElem_cons_succ, List.setIfInBounds_toArray, List.set_cons_zero, List.set_cons_succ]
        refine wpAny_take (i := 10) (v := .slice aw tl cw) rfl (by kernel_rfl) (by kernel_rfl) (by kernel_rfl) (fun _ _ _ h => h) (Or.inl ⟨by kernel_rfl, ?_⟩) ?_
        · intro wz; go_simp
        refine wpAny_done (by kernel_rfl) ?_ _
        try simp only [Act.put, List.getElem_toArray, List.getElem_cons_zero, List.getElem_cons_succ, List.setIfInBounds_toArray, List.set_cons_zero, List.set_cons_succ]
        have hasG : HasN w10 (.slice ab lb cb) gb := (HN8.out.2.1.up HO.out.2).has
        obtain ⟨g, o, rfl, q0⟩ := hasG.at HX.out
        have d0 : (0 : Int) ≤ (lb : Int) - ((tl : Int) - (la : Int)) := by omega
        have d1 : (lb : Int) - ((tl : Int) - (la : Int)) < (lb : Int) := by omega
        have d2 : ((lb : Int) - ((tl : Int) - (la : Int))).toNat = lb - (tl - la) := by omega
        clear hasG
        go_wp2
        go_meet
        refine ⟨X, aw, cw, ga ++ gb.drop (lb - (tl - la)), rfl, rfl, ?_, ?_, ?_, ?_, HO.out.2⟩
        · have := HO.out.1.has; exact this
        · simp; have := HTL.out.2.1; have := HTL.out.2.2; omega
        · exact LF.out.2.2.1 (by omega)
        · intro _; exact .inr ⟨by omega, HX.out⟩
    case rest =>
    obtain ⟨X, aw, cw, Wl, rfl, rfl, HW⟩ := hcut
    have HL9 := hid (HL8.out.1.up HW.out.2.2.2.2)
    have A12 := hid (fun x => in_any aw cw Wl x wc (by rw [HW.out.2.1]; exact HW.out.1) (by rw [HW.out.2.1]; exact hll))
    rw [HW.out.2.1] at A12
    have pc1' : wc.cell? ⟨P, 1, none⟩ = some (.slice al tl cl) := cell_of_row _ _ 1 _ _ _ HL9.out.pv
    clear pc1 HN8 HNIL HL8
    go_wp2
    go_loopg [13] tl (fun gh i wr => ∃ k : Nat, gh = tl - k ∧ i = .int .i64 (k : Int) ∧ k ≤ tl ∧ wc = wr)
    case atStart => exact ⟨0, rfl, rfl, Nat.zero_le _, rfl⟩
    case round =>
    obtain ⟨j, rfl, rfl, hj, rfl⟩ := hrel
    by_cases hjt : j < tl
    · obtain ⟨x, hx⟩ : ∃ x, R[j]? = some x := ⟨R[j]'(by rw [HTL.out.1]; omega), by simp⟩
      have hasN : HasN wc (.slice al tl cl) R := by rw [← HPL.out]; exact HL9.out.hn
      obtain ⟨g, o, rfl, q0⟩ := hasN.at hx
      have hcx : Wl.contains x = true := by simpa using HW.out.2.2.1 x (List.mem_of_getElem? hx)
      have A := hid (A12.out x)
      rw [hcx] at A
      have jI : (j : Int) < (tl : Int) := by omega
      have j0 : (0 : Int) ≤ (j : Int) := by omega
      clear hx hasN hcx
      go_wp2_with (go_at_call 12; refine A.out.mono ?_; rintro e w2 ⟨rfl, rfl⟩)
      go_roundg (tl - (j + 1))
      case measure => omega
      case rel => exact ⟨j + 1, rfl, by go_num, by omega, rfl⟩
    · obtain rfl : j = tl := by omega
      have jI : ¬ (j : Int) < (j : Int) := by omega
      go_upto_region 30 with fail
      go_cut [140] (fun s w' => s = .bool false ∧ Hid (G wc w'))
      case first =>
        have nI : ((j : Int) != (j : Int)) = false := by simp
        by_cases hab : j < la + lb
        · have abI : (j : Int) < (la : Int) + (lb : Int) := by omega
          have hle := LF.out.2.2.2.1 hab
          have A := hid (A13.out wc al cl R HL9.out.hc (by rw [HTL.out.1, ← HPL.out]; exact HL9.out.hn) (by rw [HTL.out.1]; exact hll))
          rw [HTL.out.1] at A
          have m0 : wc.cell? ⟨M, 0, none⟩ = some (.slice ac n kc3) := cell_of_row _ _ 0 _ _ _ HL9.out.mv
          generalize wS C R n = Y at A hle
          have gtI : ¬ MM < Y := by omega
          clear hle
          go_wp2_with (go_at_call 13; refine A.out.mono ?_; rintro e w2 ⟨rfl, hg2⟩; have HG2 := hid hg2; clear hg2)
          go_meet
          exact ⟨by simp [gtI], HG2.out⟩
        · have abI : ¬ (j : Int) < (la : Int) + (lb : Int) := by omega
          go_wp2
          go_meet
          exact ⟨rfl, G.refl _⟩
      case rest =>
      obtain ⟨rfl, HGc⟩ := hcut
      have HL10 := hid (HL9.out.up HGc.out)
      obtain ⟨i0, hi, hz0, hz1, hz2⟩ := info_parts Try.info3
      have HS0 : Hid (NS wc wc (.slice none 0 0) ((R.take 0).filter (fun y => y != X))) := ⟨by rw [List.take_zero, List.filter_nil]; exact World.ownsRow_nil _ _ _ _, G.refl wc⟩
      clear HL9 HGc pc1' A12
      go_wp2
      go_loopg [14, 15] j (fun gh v i wr => ∃ k : Nat, gh = j - k ∧ i = .int .i64 (k : Int) ∧ k ≤ j ∧ Hid (NS wc wr v ((R.take k).filter (fun y => y != X))))
      case atStart => exact ⟨0, rfl, rfl, Nat.zero_le _, HS0.out⟩
      case round =>
      clear HS0
      obtain ⟨q, rfl, rfl, hq, HR⟩ := hrel
      obtain ⟨a3, c3, e3⟩ := owns_form HR.out.1
      obtain ⟨LL, hLL⟩ : ∃ LL, (R.take q).filter (fun y => y != X) = LL := ⟨_, rfl⟩
      have hLn : LL.length ≤ q := by
        rw [← hLL]
        exact Nat.le_trans (List.length_filter_le _ _) (by rw [List.length_take]; omega)
      have HLL := hid hLL
      rw [hLL] at HR e3
      generalize hl3 : LL.length = l3 at e3
      subst e3
      have HL11 := hid (HL10.out.up HR.out.2)
      by_cases hqj : q < j
      · obtain ⟨x, hx⟩ : ∃ x, R[q]? = some x := ⟨R[q]'(by rw [HTL.out.1]; omega), by simp⟩
        have hasN : HasN wr (.slice al j cl) R := by rw [← HPL.out]; exact HL11.out.hn
        obtain ⟨g, o, rfl, q0⟩ := hasN.at hx
        have pc : wr.cell? ⟨P, 1, none⟩ = some (.slice (some ⟨g, o, none⟩) j cl) := cell_of_row _ _ 1 _ _ _ HL11.out.pv
        have hst : (R.take (q + 1)).filter (fun y => y != X) = LL ++ (if (x != X) then [x] else []) := by
          rw [take_succ_at hx, List.filter_append, HLL.out]
          simp only [List.filter_cons, List.filter_nil]
        have HST := hid hst
        have qI : (q : Int) < (j : Int) := by omega
        have q0I : (0 : Int) ≤ (q : Int) := by omega
        clear hx hasN hst hLL
        cases hxx : (x != X) with
        | false =>
          have HXX := hid hxx
          go_wp2
          go_roundg (j - (q + 1))
          case measure => omega
          case rel =>
            refine ⟨q + 1, rfl, by go_num, by omega, ?_⟩
            rw [HST.out, HXX.out, if_neg (by simp), List.append_nil]
            exact HR.out
        | true =>
          have HXX := hid hxx
          have HO : Hid (OwnsN (wr.alloc (.cells #[.int .i64 x] 3)) wc.heap.size (.slice a3 l3 c3) LL) := HR.out.1.up (G.al _ _)
          have HSZ := hid HR.out.2.size
          have HL := hid hl3
          clear hl3
          obtain ⟨B1, hB1⟩ : ∃ B1, wr.heap.size = B1 := ⟨_, rfl⟩
          have nPB : ¬ P = B1 := by have := World.block_lt_of_cell? wr _ pc; simp only at this; omega
          go_wp2_with (at_builtin; refine wpList_append_lies _ rfl _ _ _ rfl wc.heap.size 3 i0 _ 1 8 Try.underlying29 hi hz0 hz1 hz2 rfl (by omega) (.slice a3 l3 c3) LL.length (flat nc LL) rfl HO.out ⟨B1, 0, none⟩ 1 1 (nc x).toList rfl rfl ?c1 ?c2 (by omega) (by unfold maxLen; omega) (by omega) ?c3 (B1 + 1) ?c4 ?_)
          case c1 =>
            intro i u hj
            match i, hj with
            | 0, hj => simp [nc] at hj; subst hj; first | rfl | (rw [← hB1]; simp [Addr.add])
          case c2 => intro u hu; simp [nc] at hu; subst hu; rfl
          case c3 => simp; have := HSZ.out; omega
          case c4 => simp [hB1]
          intro g2 cap2 w2 hown hgr hat hlt2
          have HE : Hid (NS wc w2 (.slice (some ⟨g2, 0, none⟩) (LL.length + 1) cap2) (LL ++ [x])) := by
            refine ⟨?_, grow_below HR.out.2 (G.al _ _) (fun b hb => (World.ownsRow.lt HO.out b hb).1) hgr⟩
            unfold OwnsN
            rw [flat_snoc, List.length_append]
            exact hown
          clear hown hgr hat
          go_wp2
          go_roundg (j - (q + 1))
          case measure => omega
          case rel =>
            refine ⟨q + 1, rfl, by go_num, by omega, ?_⟩
            rw [HST.out, HXX.out, if_pos rfl]
            exact HE.out
      · obtain rfl : q = j := by omega
        have qI : ¬ (q : Int) < (q : Int) := by omega
        have hRt : R.take q = R := List.take_of_length_le (by rw [HTL.out.1]; omega)
        by_cases hq0 : q = 0
        · have e0 : ((q : Int) == 0) = true := by simp [hq0]
          clear hq0 hLL hl3 hRt
          go_wp2
          go_ret
          exact ⟨rfl, HL11.out.hg⟩
        · have e0 : ((q : Int) == 0) = false := by simp [hq0]
          have hlast := HW.out.2.2.2.1 (by omega)
          have hgt : ¬ wS C LL n ≤ MM := by
            have h9 := LF.out.2.2.2.2 X hlast (by omega) LL (fun y => by
              rw [← HLL.out, hRt, List.mem_filter]
              simp)
            omega
          have A := hid (A13.out wr a3 c3 LL HL11.out.hc (by rw [hl3]; exact HR.out.1.has) (by omega))
          rw [hl3] at A
          have m0 : wr.cell? ⟨M, 0, none⟩ = some (.slice ac n kc3) := cell_of_row _ _ 0 _ _ _ HL11.out.mv
          generalize wS C LL n = Y at A hgt
          have gtI : MM < Y := by omega
          clear hgt hlast hq0 hLL hl3 hRt
          go_wp2_with (go_at_call 13; refine A.out.mono ?_; rintro e w2 ⟨rfl, hg2⟩; have HG2 := hid hg2; clear hg2)
          go_ret
          exact ⟨by simp, HL11.out.hg.up HG2.out⟩
end Go.Proofs.Ytpenaeoodfgmpaa
