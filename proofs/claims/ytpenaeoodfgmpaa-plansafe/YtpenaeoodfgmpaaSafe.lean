/-
  PlanSafe: the walk.
-/
import Derived.Test.YtpenaeoodfgmpaaLaw
import Derived.Deep.DeepCutAuto
import Derived.Deep.LoopGhost
namespace Go.Proofs.Ytpenaeoodfgmpaa
open Go.RowKit

set_option maxHeartbeats 8000000 in
set_option maxRecDepth 100000 in
theorem safe_walk (ao bo : Option Addr) (cp cq : Nat) (L : List Cd) (most : Int) (F : List Bool) (w : World) (hv : HasC w (.slice ao L.length cp) L) (hl : L.length ≤ 9223372036854775807) (hF : HasB w (.slice bo F.length cq) F) :
    Calls Try.prog 4 #[.agg #[.slice ao L.length cp], .int .i64 most, .slice bo F.length cq] w fun e w' => e = .returned (.bool true) ∧ G w w' := by
  have HV := hid hv
  have HF := hid hF
  obtain ⟨M, hM⟩ : ∃ M, w.heap.size = M := ⟨_, rfl⟩
  have K1 := hid (few_any ao cp L (w.alloc (.cells #[.slice ao L.length cp] 24)) (hv.up (G.al _ _)) hl)
  have K2 := hid (fun W => known_any W)
  have HM0 : Hid ((w.alloc (.cells #[.slice ao L.length cp] 24)).heap[M]? = some (.cells #[.slice ao L.length cp] 24 (0, 0))) := by rw [← hM]; exact heap_alloc_new _ _
  obtain ⟨n, hn⟩ : ∃ n, L.length = n := ⟨_, rfl⟩
  have HNL := hid hn
  rw [hn] at K1 HM0 HV hl ⊢
  obtain ⟨nf, hnf⟩ : ∃ nf, F.length = nf := ⟨_, rfl⟩
  have HNF := hid hnf
  rw [hnf] at HF ⊢
  have K3 := hid (fun W hW h300 => plain_any ao cp L W hW h300)
  rw [hn] at K3
  clear hv hF hn hnf
  go_enter Try.func4, Try.ntmps4
  go_upto_region 5 with (first
    | (go_at_call 7; refine K1.out.mono ?_; rintro e w1 ⟨b, rfl, hb3, hg1⟩; have H1 := hid (And.intro hb3 ((G.al _ _).up hg1)); have H1' := hid hg1; clear hb3 hg1; cases b)
    | (go_at_call 8; refine (K2.out _).mono ?_; rintro e w2 ⟨rfl, h2⟩; have H2 := hid h2; clear h2))
  · go_ret
    exact ⟨rfl, H1.out.2⟩
  have h3 : n ≤ 300 := by have := H1.out.1 (by first | rfl | trivial); rw [HNL.out] at this; exact this
  have HGW : Hid (G w w2) := H1.out.2.up H2.out
  have hm2 : w2.heap[M]? = some (.cells #[.slice ao n cp] 24 (0, 0)) := by
    have hg := H1'.out.up H2.out
    exact (hg.block M (by simp [← hM])).trans HM0.out
  have kc := cell_of_row w2 M 0 _ _ _ hm2
  have kf := frozen_of_row w2 M 0 _ _ hm2
  simp only [List.getElem?_toArray, List.getElem?_cons_zero] at kc
  have HM2 := hid hm2
  have A3 := hid (K3.out w2 (HV.out.up HGW.out) h3)
  have HMM := hid hM
  clear hm2 hM K1 K2 K3 H1 H1' H2 HM0
  obtain ⟨C, hC⟩ : ∃ C, L.map smC = C := ⟨_, rfl⟩
  have HC := hid hC
  have hCn : C.length = n := by rw [← hC, List.length_map, HNL.out]
  unfold PlnR at A3
  rw [hC, hCn] at A3
  have hCo : ∀ c ∈ C, c.ok := by
    rw [← hC]; intro c hc; obtain ⟨d, hd, rfl⟩ := List.mem_map.1 hc; exact smC_ok (HV.out.choose_spec.choose_spec.2.2 d hd)
  have hCs : ∀ c ∈ C, c.sm := by
    rw [← hC]; intro c hc; obtain ⟨d, hd, rfl⟩ := List.mem_map.1 hc; exact smC_sm d
  have hCp : ∀ c ∈ C, c.pos := by
    rw [← hC]; intro c hc; obtain ⟨d, hd, rfl⟩ := List.mem_map.1 hc; exact smC_pos d
  have HCO := hid (And.intro hCo (And.intro hCs hCp))
  have HCN := hid hCn
  clear hC hCo hCs hCp
  go_upto_region 6 with (go_at_call 9; refine A3.out.mono ?_; rintro e w3 ⟨ac, kc3, rfl, o3, g3⟩; have H3 := hid (And.intro o3 g3); clear o3 g3; have km3 := (H3.out.2.block M (Array.getElem?_eq_some_iff.1 HM2.out).1).trans HM2.out; have kc3' := cell_of_row w3 M 0 _ _ _ km3; have kf3' := frozen_of_row w3 M 0 _ _ km3; simp only [List.getElem?_toArray, List.getElem?_cons_zero] at kc3'; have KM3 := hid km3; clear km3)
  obtain ⟨w4, hw4⟩ : ∃ w4, w3.setCell ⟨M, 0, none⟩ (.slice ac n kc3) = w4 := ⟨_, rfl⟩
  have hb4 : But M w3 w4 := by rw [← hw4]; exact (But.refl M w3).setCell 0 _
  have hm4 : w4.heap[M]? = some (.cells #[.slice ac n kc3] 24 (0, 0)) := by rw [← hw4, heap_setCell_same _ _ _ _ _ _ KM3.out]; rfl
  have HMlt : Hid (M < w2.heap.size) := (Array.getElem?_eq_some_iff.1 HM2.out).1
  have HG4 : Hid (G w w4) := (HGW.out.up H3.out.2).trans (hb4.below (Nat.le_of_eq HMM.out) (HGW.out.up H3.out.2).size)
  have HC4 : Hid (HasC w4 (.slice ac n kc3) C) := OwnsC.has (owns_but H3.out.1 hb4 HMlt.out) HCO.out.1
  have A4 := hid (of_any ac kc3 C most w4 (by have := HC4.out; rwa [HCN.out]) (by rw [HCN.out]; omega))
  rw [HCN.out] at A4
  have k4 := cell_of_row w4 M 0 _ _ _ hm4
  simp only [List.getElem?_toArray, List.getElem?_cons_zero] at k4
  have HM4 := hid hm4
  rw [hw4]
  clear kc kf kc3' kf3' hw4 hb4 hm4 A3 H3 KM3 HM2
  obtain ⟨p, hp⟩ : ∃ p, planF C most = p := ⟨_, rfl⟩
  have HPP := hid hp
  rw [hp] at A4
  clear hp
  go_upto_region 7 with (go_at_call 10; refine A4.out.mono ?_; rintro e w5 ⟨vi, vl, rfl, oi, ol, _, g5⟩; obtain ⟨ai, ci, ei⟩ := owns_form oi; subst ei; obtain ⟨al, cl, el⟩ := owns_form ol; subst el; have H5 := hid (And.intro oi (And.intro ol g5)); clear oi ol g5)
  obtain ⟨B, hBl, hq1, hpi, hpl, hq2⟩ := plan_facts HPP.out HCO.out.2.2
  clear hq1 hq2
  obtain ⟨P, hP⟩ : ∃ P, w5.heap.size = P := ⟨_, rfl⟩
  have HL0 : Hid (LawS w (w5.alloc (.cells (pCells p (.slice ai p.items.length ci) (.slice al p.left.length cl)) 34)) M P (.slice ac n kc3) (.slice ai p.items.length ci) (.slice al p.left.length cl) C p) := by
    obtain ⟨oi, ol, g5⟩ := H5.out
    have ga := G.al w5 (.cells (pCells p (.slice ai p.items.length ci) (.slice al p.left.length cl)) 34)
    refine ⟨((g5.up ga).block M (Array.getElem?_eq_some_iff.1 HM4.out).1).trans HM4.out, by rw [← hP]; exact heap_alloc_new _ _, (HC4.out.up g5).up ga, oi.has.up ga, ol.has.up ga, (HG4.out.up g5).up ga⟩
  unfold pCells at HL0
  have HB := hid (And.intro hBl (And.intro hpi hpl))
  have htl : p.items.length ≤ 300 := by rw [hpi]; have := its_len C B C.length; have := HCN.out; omega
  have hll : p.left.length ≤ 400 := by rw [hpl]; have := pls_len B B.length; have := HCN.out; omega
  obtain ⟨ti, hti⟩ : ∃ ti, p.items.length = ti := ⟨_, rfl⟩
  obtain ⟨tl, htl2⟩ : ∃ tl, p.left.length = tl := ⟨_, rfl⟩
  have HTL := hid (And.intro hti htl2)
  have A12 := hid (fun x W (h : HasN W (.slice al p.left.length cl) p.left) => in_any al cl p.left x W h hll)
  have A13 := hid (fun W (h1 : HasC W (.slice ac n kc3) C) (h2 : HasN W (.slice al p.left.length cl) p.left) => worst_any ac al kc3 cl C p.left W (by rwa [HCN.out]) h2 HCO.out.2.1 (by rw [HCN.out]; exact h3) hll)
  rw [HCN.out] at A13
  rw [htl2] at A12 A13
  rw [hti, htl2] at HL0
  rw [hti] at htl
  clear hBl hpi hpl hll k4 A4 HM4 HC4 H5
  rw [hti, htl2]
  clear hti htl2
  go_wp2
  rw [hP] at *
  clear hP
  go_loopg [8, 9, 10] n (fun gh k s i wr => ∃ (j : Nat) (S : Int), j ≤ n ∧ gh = n - j ∧ i = .int .i64 j ∧ k = .int .i64 ((its C B j).length : Nat) ∧ s = .int .i64 S ∧ 0 ≤ S ∧ S ≤ wS C p.left j ∧ Hid (LawS w wr M P (.slice ac n kc3) (.slice ai ti ci) (.slice al tl cl) C p))
  case atStart => exact ⟨0, 0, Nat.zero_le _, rfl, rfl, rfl, rfl, Int.le_refl _, Int.le_refl _, HL0.out⟩
  case round =>
    clear HL0
    obtain ⟨j, S, hj, rfl, rfl, rfl, rfl, hS0, hS1, HR⟩ := hrel
    have hwb := wS_bd (R := p.left) HCO.out.2.1 j
    have hKb := its_len C B j
    have m0 : wr.cell? ⟨M, 0, none⟩ = some (.slice ac n kc3) := cell_of_row _ _ 0 _ _ _ HR.out.mv
    by_cases hlt : j < n
    · obtain ⟨c, hc⟩ : ∃ c, C[j]? = some c := ⟨C[j]'(by rw [HCN.out]; exact hlt), by simp⟩
      obtain ⟨bb, hbb⟩ : ∃ bb, B[j]? = some bb := ⟨B[j]'(by rw [HB.out.1, HCN.out]; exact hlt), by simp⟩
      obtain ⟨g, o, rfl, hl0⟩ := HR.out.hc.at hc
      have HL := hid hl0
      have hin : p.left.contains (j : Int) = bb := by rw [HB.out.2.2]; exact pls_in hbb
      have HST : Hid (wS C p.left (j + 1) = wS C p.left j + (if bb then c.keep else mx c.keep c.take)) := by
        have hst := wS_step (R := p.left) hc
        rw [hin] at hst
        exact hst
      have hcs := HCO.out.2.1 c (List.mem_of_getElem? hc)
      have hmx : c.keep ≤ mx c.keep c.take ∧ c.take ≤ mx c.keep c.take := by unfold mx; split <;> omega
      have HMX := hid hmx
      unfold Cd.sm at hcs
      obtain ⟨BB, hBB⟩ : ∃ BB, wr.heap.size = BB := ⟨_, rfl⟩
      have ltI : (j : Int) < (n : Int) := by omega
      have geI : (0 : Int) ≤ (j : Int) := by omega
      have A := hid (fun W (h : G wr W) => A12.out (j : Int) W (HR.out.hn.up h))
      rw [hin] at A
      have HSB : Hid (0 ≤ S ∧ S ≤ wS C p.left j ∧ S ≤ 300 * 1099511627776) := ⟨hS0, hS1, by omega⟩
      obtain ⟨K, hK⟩ : ∃ K, (its C B j).length = K := ⟨_, rfl⟩
      have HKK := hid hK
      rw [hK] at hKb ⊢
      have K0 : (0 : Int) ≤ (K : Int) := by omega
      have KB : (K : Int) ≤ 300 := by omega
      obtain ⟨ib, hib⟩ : ∃ ib, (!bb && don c) = ib := ⟨_, rfl⟩
      have HIT : Hid (ib = true → p.items[K]? = some (mkI K j c)) := by
        intro e
        rw [← hib] at e
        simp only [Bool.and_eq_true, Bool.not_eq_true'] at e
        have h1 := its_next (n := n) hlt hc (by rw [hbb, e.1]) e.2
        rw [HKK.out] at h1
        rw [HB.out.2.1, HCN.out]
        exact h1
      have HIN : Hid (ib = false → its C B (j + 1) = its C B j) := by
        intro e
        rw [← hib] at e
        cases bb with
        | true => exact its_left hc hbb
        | false => exact its_not hc (by simpa using e)
      have HIY : Hid (ib = true → (its C B (j + 1)).length = K + 1) := by
        intro e
        rw [← hib] at e
        simp only [Bool.and_eq_true, Bool.not_eq_true'] at e
        rw [its_yes hc (by rw [hbb, e.1]) e.2, List.length_append, HKK.out]; rfl
      have HEQ : Hid (∀ t, p.items[K]? = some t → (t.cell == (j : Int)) = ib) := by
        intro t ht
        cases hi2 : ib with
        | true =>
          rw [HIT.out hi2] at ht
          injection ht with ht
          subst ht
          simp [mkI]
        | false =>
          rw [HB.out.2.1, ← HKK.out, HCN.out] at ht
          have := its_other hlt (HIN.out hi2) ht
          simpa using this
      have HDON : Hid (ib = true → bb = false ∧ (c.what = 3 ∨ c.what = 2) ∧ (c.side = 1 ∨ c.side = 2)) := by
        intro e
        rw [← hib] at e
        simp only [Bool.and_eq_true, Bool.not_eq_true', don, Bool.or_eq_true, decide_eq_true_eq] at e
        exact e
      have HDB : Hid ((!bb && ((c.what == 3 || c.what == 2) && (c.side == 1 || c.side == 2))) = ib) := by
        rw [← hib]
        unfold don
        congr 2
      clear hl0 hK hin hc hbb hmx hS0 hS1 hib hwb
      go_upto_region 12 with (first
      | ((with_reducible refine wpList_execW (.agg (cc c)) wr ?_ ?_ ?_); exact exec_load 43 _ rfl g (o + j * 10) (cc c) _ rfl _ HL.out under43 rfl size43; kernel_rfl)
      | ((with_reducible refine wpList_execW (.pointer (some ⟨BB, 0, none⟩)) (wr.alloc (.cells z43 43)) ?_ ?_ ?_); exact exec_allocT 43 z43 rfl zero43 _ _ hBB; kernel_rfl)
      | ((with_reducible refine wpList_skipW (wr.alloc (.cells (cc c) 43)) ?_ ?_ ?_); exact exec_fill 43 _ _ rfl (cc c) z43 wr (by rw [hBB]; rfl) rfl size43 rfl (cc_one c); kernel_rfl; unfold cc))
      obtain ⟨w6, hw6⟩ : ∃ w6, wr.alloc (.cells (cc c) 43) = w6 := ⟨_, rfl⟩
      have g6 : G wr w6 := by rw [← hw6]; exact G.al _ _
      have HR6 := hid (HR.out.up g6)
      have cq : ∀ i u, (cc c)[i]? = some u → w6.cell? ⟨BB, i, none⟩ = some u := fun i u hi => by
        rw [← hw6, ← hBB, new_cell]; exact hi
      have c0 : w6.cell? ⟨BB, 0, none⟩ = some (.string c.path) := cq 0 _ rfl
      have c1 : w6.cell? ⟨BB, 1, none⟩ = some (.int .i64 c.what) := cq 1 _ rfl
      have c2 : w6.cell? ⟨BB, 2, none⟩ = some (.int .i64 c.side) := cq 2 _ rfl
      have c3 : w6.cell? ⟨BB, 3, none⟩ = some (.int .i64 c.mode) := cq 3 _ rfl
      have c4 : w6.cell? ⟨BB, 4, none⟩ = some (.int .i64 c.keep) := cq 4 _ rfl
      have c5 : w6.cell? ⟨BB, 5, none⟩ = some (.int .i64 c.take) := cq 5 _ rfl
      have A2 := hid (fun W (h : G w6 W) => A.out W (g6.up h))
      have pc0 : w6.cell? ⟨P, 0, none⟩ = some (.slice ai ti ci) := cell_of_row _ _ 0 _ _ _ HR6.out.pv
      have pc1 : w6.cell? ⟨P, 1, none⟩ = some (.slice al tl cl) := cell_of_row _ _ 1 _ _ _ HR6.out.pv
      unfold cc at hw6
      rw [hw6]
      have HG6 := hid g6
      clear hw6 cq g6 m0 hBB A HR HL
      go_simp
      go_cut [12] (fun s w' => s = .bool ib ∧ w6 = w')
      case first =>
        by_cases hKt : K < ti
        · obtain ⟨t, ht⟩ : ∃ t, p.items[K]? = some t := ⟨p.items[K]'(by rw [HTL.out.1]; exact hKt), by simp⟩
          obtain ⟨gi, oi, rfl, hli⟩ := HR6.out.hi.at ht
          have t1 : w6.cell? ⟨gi, oi + K * 7 + 1, none⟩ = some (.int .i64 t.cell) := hli 1 _ rfl
          have ecell := HEQ.out t ht
          have KtI : (K : Int) < (ti : Int) := by omega
          clear ht hli hcs
          go_wp2
          go_meet
          exact ⟨rfl, rfl⟩
        · have KtI : ¬ (K : Int) < (ti : Int) := by omega
          clear hcs
          go_wp2
          go_meet
          refine ⟨?_, rfl⟩
          cases hi2 : ib with
          | false => rfl
          | true => exact absurd (by have := (List.getElem?_eq_some_iff.1 (HIT.out hi2)).1; rw [HTL.out.1] at this; exact this) hKt
      case rest =>
      obtain ⟨rfl, rfl⟩ := hcut
      go_upto_region 13 with fail
      go_cut [13] (fun s w' => s = .bool ib ∧ w6 = w')
      case first =>
        have hdb := HDB.out
        cases bb with
        | true =>
          clear hcs
          go_wp2_with (go_at_call 12; refine (A2.out _ (G.refl _)).mono ?_; rintro e w2 ⟨rfl, rfl⟩)
          go_meet
          exact ⟨by simpa using hdb, rfl⟩
        | false =>
          clear hcs
          simp only [Bool.not_false, Bool.true_and] at hdb
          cases b1 : (c.what == 3) with
          | true =>
            cases b3 : (c.side == 1) with
            | true =>
              rw [b1, b3] at hdb
              go_wp2_with (go_at_call 12; refine (A2.out _ (G.refl _)).mono ?_; rintro e w2 ⟨rfl, rfl⟩)
              go_meet
              exact ⟨by simpa using hdb, rfl⟩
            | false =>
              obtain ⟨b4, hb4⟩ : ∃ b4, (c.side == 2) = b4 := ⟨_, rfl⟩
              rw [b1, b3, hb4] at hdb
              go_wp2_with (go_at_call 12; refine (A2.out _ (G.refl _)).mono ?_; rintro e w2 ⟨rfl, rfl⟩)
              go_meet
              exact ⟨by simpa using hdb, rfl⟩
          | false =>
            cases b2 : (c.what == 2) with
            | false =>
              rw [b1, b2] at hdb
              go_wp2_with (go_at_call 12; refine (A2.out _ (G.refl _)).mono ?_; rintro e w2 ⟨rfl, rfl⟩)
              go_meet
              exact ⟨by simpa using hdb, rfl⟩
            | true =>
              cases b3 : (c.side == 1) with
              | true =>
                rw [b1, b2, b3] at hdb
                go_wp2_with (go_at_call 12; refine (A2.out _ (G.refl _)).mono ?_; rintro e w2 ⟨rfl, rfl⟩)
                go_meet
                exact ⟨by simpa using hdb, rfl⟩
              | false =>
                obtain ⟨b4, hb4⟩ : ∃ b4, (c.side == 2) = b4 := ⟨_, rfl⟩
                rw [b1, b2, b3, hb4] at hdb
                go_wp2_with (go_at_call 12; refine (A2.out _ (G.refl _)).mono ?_; rintro e w2 ⟨rfl, rfl⟩)
                go_meet
                exact ⟨by simpa using hdb, rfl⟩
      case rest =>
      obtain ⟨rfl, rfl⟩ := hcut
      have HC6 := hid (And.intro c4 c5)
      go_upto_if 86 with (go_at_call 12; refine (A2.out _ (G.refl _)).mono ?_; rintro e w2 ⟨rfl, rfl⟩)
      go_cut [8, 14] (fun k tk w' => ∃ tk' : Bool, k = .int .i64 ((its C B (j + 1)).length : Nat) ∧ tk = .bool tk' ∧ Hid (tk' = true → bb = false) ∧ Hid (G w6 w'))
      case first =>
        cases ib with
        | false =>
          clear hcs
          go_wp2
          go_meet
          exact ⟨!bb, by rw [HIN.out (by first | rfl | trivial), HKK.out], rfl, fun h => by simpa using h, G.refl _⟩
        | true =>
          obtain ⟨hbf, hwh, hsd⟩ := HDON.out (by first | rfl | trivial)
          have HBF := hid hbf
          have ht := HIT.out (by first | rfl | trivial)
          obtain ⟨gi, oi, rfl, hli⟩ := HR6.out.hi.at ht
          have hKt : K < ti := by have := (List.getElem?_eq_some_iff.1 ht).1; rw [HTL.out.1] at this; exact this
          have KtI : (K : Int) < (ti : Int) := by omega
          have HLI := hid hli
          obtain ⟨BI, hBI⟩ : ∃ BI, w6.heap.size = BI := ⟨_, rfl⟩
          obtain ⟨w7, hw7⟩ : ∃ w7, w6.alloc (.cells (ic (mkI K j c)) 45) = w7 := ⟨_, rfl⟩
          have HSD := hid (And.intro hwh hsd)
          have HW7 := hid hw7
          have hBBI : BB < BI := by rw [← hBI]; exact World.block_lt_of_cell? w6 _ c0
          clear ht hli hcs hbf hwh hsd HIN HIT HEQ HDON HDB
          go_upto_region 19 with (first
          | ((with_reducible refine wpList_execW (.agg (ic (mkI K j c))) w6 ?_ ?_ ?_); exact exec_load 45 _ rfl gi (oi + K * 7) (ic (mkI K j c)) _ rfl _ HLI.out under45 rfl size45; kernel_rfl)
          | ((with_reducible refine wpList_execW (.pointer (some ⟨BI, 0, none⟩)) (w6.alloc (.cells z45 45)) ?_ ?_ ?_); exact exec_allocT 45 z45 rfl zero45 _ _ hBI; kernel_rfl)
          | ((with_reducible refine wpList_skipW (w6.alloc (.cells (ic (mkI K j c)) 45)) ?_ ?_ ?_); exact exec_fill 45 _ _ rfl (ic (mkI K j c)) z45 w6 (by rw [hBI]; rfl) rfl size45 rfl (ic_one (mkI K j c)); kernel_rfl; rw [hw7]))
          have g7 : G w6 w7 := by rw [← hw7]; exact G.al _ _
          have cq : ∀ i u, (ic (mkI K j c))[i]? = some u → w7.cell? ⟨BI, i, none⟩ = some u := fun i u hi => by
            rw [← hw7, ← hBI, new_cell]; exact hi
          have hsd := HSD.out.2
          have x0 : w7.cell? ⟨BI, 0, none⟩ = some (.int .i64 ((K : Int) + 1)) := cq 0 _ rfl
          have x2 : w7.cell? ⟨BI, 2, none⟩ = some (.string c.path) := cq 2 _ rfl
          have x3 : w7.cell? ⟨BI, 3, none⟩ = some (.int .i64 c.what) := cq 3 _ rfl
          have x4 : w7.cell? ⟨BI, 4, none⟩ = some (.int .i64 (c.side - 1)) := by
            rw [cq 4 _ rfl]; rcases hsd with h | h <;> simp [mkI, h, ic]
          have x5 : w7.cell? ⟨BI, 5, none⟩ = some (.int .i64 (2 - c.side)) := by
            rw [cq 5 _ rfl]; rcases hsd with h | h <;> simp [mkI, h, ic]
          have x6 : w7.cell? ⟨BI, 6, none⟩ = some (.int .i64 (if c.what = 2 then c.mode else 0)) := cq 6 _ rfl
          have y0 := (g7.cell (p := ⟨BB, 0, none⟩) (by simp only; omega)).trans c0
          have y1 := (g7.cell (p := ⟨BB, 1, none⟩) (by simp only; omega)).trans c1
          have y2 := (g7.cell (p := ⟨BB, 2, none⟩) (by simp only; omega)).trans c2
          have y3 := (g7.cell (p := ⟨BB, 3, none⟩) (by simp only; omega)).trans c3
          have hs1 : 1 ≤ c.side := by omega
          have hs2 : c.side ≤ 2 := by omega
          have HG7 := hid g7
          have HR7 := hid (HR6.out.up g7)
          clear hw7 hBI cq hsd c0 c1 c2 c3 c4 c5 g7 hBBI pc0 pc1
          go_simp
          go_cut [138] (fun s w' => s = .bool false ∧ w7 = w')
          case first =>
            cases hb2 : (c.what == 2) with
            | true =>
              have e2 : c.what = 2 := by simpa using hb2
              rw [if_pos e2] at x6
              clear e2
              go_wp2
              go_meet
              exact ⟨rfl, rfl⟩
            | false =>
              have e2 : ¬ c.what = 2 := by simpa using hb2
              clear x6 e2
              go_wp2
              go_meet
              exact ⟨rfl, rfl⟩
          case rest =>
          obtain ⟨rfl, rfl⟩ := hcut
          clear x0 x2 x3 x4 x5 x6 y0 y1 y2 y3 hs1 hs2
          by_cases hkf : K < nf
          · obtain ⟨fb, hfb⟩ : ∃ fb, F[K]? = some fb := ⟨F[K]'(by rw [HNF.out]; exact hkf), by simp⟩
            obtain ⟨gf, of, rfl, hcf⟩ := (HF.out.up HR7.out.hg).at hfb
            have fI : ¬ (nf : Int) ≤ (K : Int) := by omega
            have fI2 : (K : Int) < (nf : Int) := by omega
            clear hfb
            go_wp2
            go_meet
            exact ⟨!fb, by rw [HIY.out (by first | rfl | trivial)]; go_num, rfl, fun _ => HBF.out, HG7.out⟩
          · have fI : (nf : Int) ≤ (K : Int) := by omega
            go_wp2
            go_meet
            exact ⟨true, by rw [HIY.out (by first | rfl | trivial)]; go_num, rfl, fun _ => HBF.out, HG7.out⟩
      case rest =>
      obtain ⟨tk, rfl, rfl, htk, hg7⟩ := hcut
      have hsb := HSB.out
      have c4' := (hg7.out.cell (p := ⟨BB, 4, none⟩) (World.block_lt_of_cell? w6 _ c4)).trans c4
      have c5' := (hg7.out.cell (p := ⟨BB, 5, none⟩) (World.block_lt_of_cell? w6 _ c5)).trans c5
      have HR7 := hid (HR6.out.up hg7.out)
      clear c0 c1 c2 c3 c4 c5 pc0 pc1
      obtain ⟨hb1, hb2, hb3⟩ := hsb
      have HB2 := hid hb2
      clear hb2
      cases tk with
      | true =>
        go_wp2
        go_roundg (n - (j + 1))
        case measure => omega
        case rel =>
          refine ⟨j + 1, S + c.take, by omega, rfl, by go_num, rfl, rfl, by omega, ?_, HR7.out⟩
          rw [HST.out, htk.out (by first | rfl | trivial)]
          have := HMX.out
          have := HB2.out
          simp only [Bool.false_eq_true, if_false]
          omega
      | false =>
        go_wp2
        go_roundg (n - (j + 1))
        case measure => omega
        case rel =>
          refine ⟨j + 1, S + c.keep, by omega, rfl, by go_num, rfl, rfl, by omega, ?_, HR7.out⟩
          rw [HST.out]
          have := HMX.out
          have := HB2.out
          split <;> omega
    · obtain rfl : j = n := by omega
      have hKe : (its C B j).length = ti := by rw [← HTL.out.1, HB.out.2.1, HCN.out]
      have A := hid (A13.out wr HR.out.hc HR.out.hn)
      have hle : S ≤ wS C p.left j := hS1
      have pc0 : wr.cell? ⟨P, 0, none⟩ = some (.slice ai ti ci) := cell_of_row _ _ 0 _ _ _ HR.out.pv
      have pc1 : wr.cell? ⟨P, 1, none⟩ = some (.slice al tl cl) := cell_of_row _ _ 1 _ _ _ HR.out.pv
      rw [hKe]
      clear hKe hS1
      generalize wS C p.left j = X at *
      go_wp2_with (go_at_call 13; refine A.out.mono ?_; rintro e w2 ⟨rfl, hg2⟩; have HG2 := hid hg2; clear hg2)
      go_ret
      exact ⟨rfl, HR.out.hg.up HG2.out⟩
end Go.Proofs.Ytpenaeoodfgmpaa
