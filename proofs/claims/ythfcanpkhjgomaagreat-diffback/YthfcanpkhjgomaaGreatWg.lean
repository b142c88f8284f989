import Derived.Test.YthfcanpkhjgomaaGreatWf
set_option maxRecDepth 100000
set_option maxHeartbeats 8000000
namespace Go.Proofs.YthfcanpkhjgomaaGreat
open Go.RowKit
theorem known_any (w : World) : Calls Tryz.prog 18 #[] w fun e w' => e = .returned (.bool true) ∧ G w w' := by
 have HG := hid (G.refl w)
 obtain ⟨w0, hw0⟩ : ∃ w0, w = w0 := ⟨_, rfl⟩
 rw [show (fun e w' => e = Ending.returned (.bool true) ∧ G w w') = fun e w' => e = Ending.returned (.bool true) ∧ G w0 w' by rw [hw0]]
 rw [hw0] at HG
 have H0 : Hid (G w0 w) := by rw [hw0]; exact HG.out
 clear HG hw0
 go_enter Tryz.func18, Tryz.ntmps18
 obtain ⟨n1, m1⟩ := var_new w (vx (kV 2 6 1)).toArray
 have H1 : Hid (Var24 ((w.alloc (.cells (vx Vd.zero).toArray 24)).setRow w.heap.size (vx (kV 2 6 1)).toArray) w.heap.size (vx (kV 2 6 1)).toArray ∧ G w0 ((w.alloc (.cells (vx Vd.zero).toArray 24)).setRow w.heap.size (vx (kV 2 6 1)).toArray)) := ⟨m1, (H0.out).trans n1⟩
 clear n1 m1 H0
 go_upto_region 2 with (first
  | ((with_reducible refine wpList_exec (.agg (vx (kV 2 6 1)).toArray) ?_ ?_ ?_); exact exec_bld 24 _ rfl _ rfl _ bu_1 _; kernel_rfl)
  | ((with_reducible refine wpList_execW (.pointer (some ⟨w.heap.size, 0, none⟩)) (w.alloc (.cells (vx Vd.zero).toArray 24)) ?_ ?_ ?_); exact exec_alloc24 rfl _; kernel_rfl)
  | ((with_reducible refine wpList_skipW ((w.alloc (.cells (vx Vd.zero).toArray 24)).setRow w.heap.size (vx (kV 2 6 1)).toArray) ?_ ?_ ?_); exact exec_store24 _ _ rfl w.heap.size _ (vx Vd.zero).toArray rfl rfl _ (World.alloc_heap_new _ _) (vx_size _) (vx_size _) (vx_one _); kernel_rfl))
 try simp only [Act.put, sA, sB, sC]
 generalize ((w.alloc (.cells (vx Vd.zero).toArray 24)).setRow w.heap.size (vx (kV 2 6 1)).toArray) = w1 at *
 generalize w.heap.size = b1 at *
 obtain ⟨n2, m2⟩ := var_new w1 (vx (kV 2 6 2)).toArray
 have H2 : Hid (Var24 ((w1.alloc (.cells (vx Vd.zero).toArray 24)).setRow w1.heap.size (vx (kV 2 6 2)).toArray) b1 (vx (kV 2 6 1)).toArray ∧ Var24 ((w1.alloc (.cells (vx Vd.zero).toArray 24)).setRow w1.heap.size (vx (kV 2 6 2)).toArray) w1.heap.size (vx (kV 2 6 2)).toArray ∧ G w0 ((w1.alloc (.cells (vx Vd.zero).toArray 24)).setRow w1.heap.size (vx (kV 2 6 2)).toArray)) := ⟨(H1.out.1).grow n2, m2, (H1.out.2).trans n2⟩
 clear n2 m2 H1
 go_upto_region 3 with (first
  | ((with_reducible refine wpList_exec (.agg (vx (kV 2 6 2)).toArray) ?_ ?_ ?_); exact exec_bld 24 _ rfl _ rfl _ bu_2 _; kernel_rfl)
  | ((with_reducible refine wpList_execW (.pointer (some ⟨w1.heap.size, 0, none⟩)) (w1.alloc (.cells (vx Vd.zero).toArray 24)) ?_ ?_ ?_); exact exec_alloc24 rfl _; kernel_rfl)
  | ((with_reducible refine wpList_skipW ((w1.alloc (.cells (vx Vd.zero).toArray 24)).setRow w1.heap.size (vx (kV 2 6 2)).toArray) ?_ ?_ ?_); exact exec_store24 _ _ rfl w1.heap.size _ (vx Vd.zero).toArray rfl rfl _ (World.alloc_heap_new _ _) (vx_size _) (vx_size _) (vx_one _); kernel_rfl))
 try simp only [Act.put, sA, sB, sC]
 generalize ((w1.alloc (.cells (vx Vd.zero).toArray 24)).setRow w1.heap.size (vx (kV 2 6 2)).toArray) = w2 at *
 generalize w1.heap.size = b2 at *
 obtain ⟨n3, m3⟩ := var_new w2 (vx (kV 1 5 0)).toArray
 have H3 : Hid (Var24 ((w2.alloc (.cells (vx Vd.zero).toArray 24)).setRow w2.heap.size (vx (kV 1 5 0)).toArray) b1 (vx (kV 2 6 1)).toArray ∧ Var24 ((w2.alloc (.cells (vx Vd.zero).toArray 24)).setRow w2.heap.size (vx (kV 1 5 0)).toArray) b2 (vx (kV 2 6 2)).toArray ∧ Var24 ((w2.alloc (.cells (vx Vd.zero).toArray 24)).setRow w2.heap.size (vx (kV 1 5 0)).toArray) w2.heap.size (vx (kV 1 5 0)).toArray ∧ G w0 ((w2.alloc (.cells (vx Vd.zero).toArray 24)).setRow w2.heap.size (vx (kV 1 5 0)).toArray)) := ⟨(H2.out.1).grow n3, (H2.out.2.1).grow n3, m3, (H2.out.2.2).trans n3⟩
 clear n3 m3 H2
 go_upto_region 4 with (first
  | ((with_reducible refine wpList_exec (.agg (vx (kV 1 5 0)).toArray) ?_ ?_ ?_); exact exec_bld 24 _ rfl _ rfl _ bu_3 _; kernel_rfl)
  | ((with_reducible refine wpList_execW (.pointer (some ⟨w2.heap.size, 0, none⟩)) (w2.alloc (.cells (vx Vd.zero).toArray 24)) ?_ ?_ ?_); exact exec_alloc24 rfl _; kernel_rfl)
  | ((with_reducible refine wpList_skipW ((w2.alloc (.cells (vx Vd.zero).toArray 24)).setRow w2.heap.size (vx (kV 1 5 0)).toArray) ?_ ?_ ?_); exact exec_store24 _ _ rfl w2.heap.size _ (vx Vd.zero).toArray rfl rfl _ (World.alloc_heap_new _ _) (vx_size _) (vx_size _) (vx_one _); kernel_rfl))
 try simp only [Act.put, sA, sB, sC]
 generalize ((w2.alloc (.cells (vx Vd.zero).toArray 24)).setRow w2.heap.size (vx (kV 1 5 0)).toArray) = w3 at *
 generalize w2.heap.size = b3 at *
 obtain ⟨n4, m4⟩ := var_new w3 (vx (kV 1 7 0)).toArray
 have H4 : Hid (Var24 ((w3.alloc (.cells (vx Vd.zero).toArray 24)).setRow w3.heap.size (vx (kV 1 7 0)).toArray) b1 (vx (kV 2 6 1)).toArray ∧ Var24 ((w3.alloc (.cells (vx Vd.zero).toArray 24)).setRow w3.heap.size (vx (kV 1 7 0)).toArray) b2 (vx (kV 2 6 2)).toArray ∧ Var24 ((w3.alloc (.cells (vx Vd.zero).toArray 24)).setRow w3.heap.size (vx (kV 1 7 0)).toArray) b3 (vx (kV 1 5 0)).toArray ∧ Var24 ((w3.alloc (.cells (vx Vd.zero).toArray 24)).setRow w3.heap.size (vx (kV 1 7 0)).toArray) w3.heap.size (vx (kV 1 7 0)).toArray ∧ G w0 ((w3.alloc (.cells (vx Vd.zero).toArray 24)).setRow w3.heap.size (vx (kV 1 7 0)).toArray)) := ⟨(H3.out.1).grow n4, (H3.out.2.1).grow n4, (H3.out.2.2.1).grow n4, m4, (H3.out.2.2.2).trans n4⟩
 clear n4 m4 H3
 go_upto_region 5 with (first
  | ((with_reducible refine wpList_exec (.agg (vx (kV 1 7 0)).toArray) ?_ ?_ ?_); exact exec_bld 24 _ rfl _ rfl _ bu_4 _; kernel_rfl)
  | ((with_reducible refine wpList_execW (.pointer (some ⟨w3.heap.size, 0, none⟩)) (w3.alloc (.cells (vx Vd.zero).toArray 24)) ?_ ?_ ?_); exact exec_alloc24 rfl _; kernel_rfl)
  | ((with_reducible refine wpList_skipW ((w3.alloc (.cells (vx Vd.zero).toArray 24)).setRow w3.heap.size (vx (kV 1 7 0)).toArray) ?_ ?_ ?_); exact exec_store24 _ _ rfl w3.heap.size _ (vx Vd.zero).toArray rfl rfl _ (World.alloc_heap_new _ _) (vx_size _) (vx_size _) (vx_one _); kernel_rfl))
 try simp only [Act.put, sA, sB, sC]
 generalize ((w3.alloc (.cells (vx Vd.zero).toArray 24)).setRow w3.heap.size (vx (kV 1 7 0)).toArray) = w4 at *
 generalize w3.heap.size = b4 at *
 obtain ⟨R, hR⟩ : ∃ R, w4.heap.size = R := ⟨_, rfl⟩
 obtain ⟨w5, hw5⟩ : ∃ w5, (w4.alloc (.cells cF 30)).alloc (.cells (cD R) 30) = w5 := ⟨_, rfl⟩
 have g5 : G w4 w5 := by rw [← hw5]; exact (G.alloc _ _).trans (G.alloc _ _)
 have hR1 : (w4.alloc (.cells cF 30)).heap.size = R + 1 := by rw [World.size_alloc, hR]
 have hN5 : HasN w5 (cN (R + 1)) ⟨#[]⟩ (kV 1 7 0) Md.zero fT := by
  refine has_T w5 R ?_ ?_
  ·have h1 := lies_new w4 cF 30
   rw [hR] at h1
   rw [← hw5]
   exact (G.alloc _ _).lies h1
  ·have h2 := lies_new (w4.alloc (.cells cF 30)) (cD R) 30
   rw [hR1] at h2
   rw [← hw5]
   exact h2
 have C5 := hid (grown5_any (cN (R + 1)) ⟨#[]⟩ (kV 1 7 0) Md.zero fT w5 hN5 we_T good_T.c)
 have HW5 := hid (And.intro hR (And.intro hR1 (And.intro hw5 g5)))
 clear hN5 hR hR1 hw5 g5
 go_upto_region 6 with (first
  | ((with_reducible refine wpList_exec (.agg (vx (kV 1 7 0)).toArray) ?_ ?_ ?_); exact exec_load24 _ rfl b4 0 rfl _ (vx_size _) (H4.out.2.2.2.1).lies; kernel_rfl)
  | ((with_reducible refine wpList_exec (.agg (vx (kV 1 5 0)).toArray) ?_ ?_ ?_); exact exec_load24 _ rfl b3 0 rfl _ (vx_size _) (H4.out.2.2.1).lies; kernel_rfl)
  | ((with_reducible refine wpList_exec (.agg (vx (kV 2 6 1)).toArray) ?_ ?_ ?_); exact exec_load24 _ rfl b1 0 rfl _ (vx_size _) (H4.out.1).lies; kernel_rfl)
  | ((with_reducible refine wpList_exec (.agg cF) ?_ ?_ ?_); exact exec_bld 30 _ rfl [(0, .string bF), (1, .agg (vx (kV 2 6 1)).toArray)] rfl _ bu_F _; kernel_rfl)
  | ((with_reducible refine wpList_execW (.slice (some ⟨R, 0, none⟩) 1 1) (w4.alloc (.cells cF 30)) ?_ ?_ ?_); exact exec_slice1e _ rfl cF rfl (nc_size ..) _ R HW5.out.1; kernel_rfl)
  | ((with_reducible refine wpList_exec (.agg (cD R)) ?_ ?_ ?_); exact exec_bld 30 _ rfl [(0, .string bD), (1, .agg (vx (kV 1 5 0)).toArray), (3, .slice (some ⟨R, 0, none⟩) 1 1)] rfl _ (bu_D R) _; kernel_rfl)
  | ((with_reducible refine wpList_execW (.slice (some ⟨R + 1, 0, none⟩) 1 1) w5 ?_ ?_ ?_); (rw [← HW5.out.2.2.1]; exact exec_slice1e _ rfl (cD R) rfl (nc_size ..) _ (R + 1) HW5.out.2.1); kernel_rfl)
  | ((with_reducible refine wpList_exec (.agg (cN (R + 1))) ?_ ?_ ?_); exact exec_bld 30 _ rfl [(1, .agg (vx (kV 1 7 0)).toArray), (3, .slice (some ⟨R + 1, 0, none⟩) 1 1)] rfl _ (bu_N (R + 1)) _; kernel_rfl)
  | (go_at_call 8; refine C5.out.mono ?_; rintro e w6 ⟨p1, k1, rfl, T1, f1, pl1, tr1, g6⟩; have H6 : Hid (Var24 w6 b2 (vx (kV 2 6 2)).toArray ∧ Var24 w6 b4 (vx (kV 1 7 0)).toArray ∧ Var24 w6 b1 (vx (kV 2 6 1)).toArray ∧ Var24 w6 b3 (vx (kV 1 5 0)).toArray ∧ AtTF (fun _ => True) (Tr w6) w6 p1 (kV 1 7 0) Md.zero fT ∧ G w0 w6) := (by have g := HW5.out.2.2.2.trans g6; exact ⟨H4.out.2.1.grow g, H4.out.2.2.2.1.grow g, H4.out.1.grow g, H4.out.2.2.1.grow g, AtTF.of T1 pl1 tr1 f1, H4.out.2.2.2.2.trans g⟩); clear T1 f1 pl1 tr1 g6 C5 H4 HW5))
 obtain ⟨S, hS⟩ : ∃ S, w6.heap.size = S := ⟨_, rfl⟩
 have C6 := hid (grown5_any (cN S) ⟨#[]⟩ (kV 1 7 0) Md.zero fU (w6.alloc (.cells cE 30)) (has_U _ S (by rw [← hS]; exact lies_new w6 cE 30)) we_U good_U.c)
 have HS := hid hS
 clear hS
 go_upto_region 7 with (first
  | ((with_reducible refine wpList_exec (.agg (vx (kV 1 7 0)).toArray) ?_ ?_ ?_); exact exec_load24 _ rfl b4 0 rfl _ (vx_size _) (H6.out.2.1).lies; kernel_rfl)
  | ((with_reducible refine wpList_exec (.agg (vx (kV 2 6 2)).toArray) ?_ ?_ ?_); exact exec_load24 _ rfl b2 0 rfl _ (vx_size _) (H6.out.1).lies; kernel_rfl)
  | ((with_reducible refine wpList_exec (.agg cE) ?_ ?_ ?_); exact exec_bld 30 _ rfl [(0, .string bD), (1, .agg (vx (kV 2 6 2)).toArray)] rfl _ bu_E _; kernel_rfl)
  | ((with_reducible refine wpList_execW (.slice (some ⟨S, 0, none⟩) 1 1) (w6.alloc (.cells cE 30)) ?_ ?_ ?_); exact exec_slice1e _ rfl cE rfl (nc_size ..) _ S HS.out; kernel_rfl)
  | ((with_reducible refine wpList_exec (.agg (cN S)) ?_ ?_ ?_); exact exec_bld 30 _ rfl [(1, .agg (vx (kV 1 7 0)).toArray), (3, .slice (some ⟨S, 0, none⟩) 1 1)] rfl _ (bu_N S) _; kernel_rfl)
  | (go_at_call 8; refine C6.out.mono ?_; rintro e w7 ⟨p2, k2, rfl, T2, f2, pl2, tr2, g7⟩; have H7 : Hid (T1 w7 p1 tT ∧ T1 w7 p2 tU ∧ Var24 w7 b2 (vx (kV 2 6 2)).toArray ∧ Var24 w7 b1 (vx (kV 2 6 1)).toArray ∧ Var24 w7 b3 (vx (kV 1 5 0)).toArray ∧ G w0 w7) := (by have g := (G.alloc w6 (.cells cE 30)).trans g7; exact ⟨AtTF.growT H6.out.2.2.2.2.1 g, AtTF.of T2 pl2 tr2 f2, H6.out.1.grow g, H6.out.2.2.1.grow g, H6.out.2.2.2.1.grow g, H6.out.2.2.2.2.2.trans g⟩); clear T2 f2 pl2 tr2 g7 C6 H6 HS))
 have C9 := of_given p1 p2 tT tU w7 H7.out.1 H7.out.2.1 good_T good_U we_T we_U
 go_upto_region 10 with (first
  | (go_at_call 20; refine C9.mono ?_; rintro e w8 ⟨B8, rfl, k8, g8⟩; have C8 := k8 w8 (G.refl _); rw [dif_TU] at C8; have H8 := hid g8; clear k8 g8 C9)
  | (go_at_call 19; refine C8.mono ?_; rintro e w9 ⟨ao, cp, rfl, h9, g9⟩; have H9 : Hid (Ch.HasA w9 (.slice ao 2 cp) [dA, dB] ∧ T1 w9 p1 tT ∧ T1 w9 p2 tU ∧ Var24 w9 b2 (vx (kV 2 6 2)).toArray ∧ Var24 w9 b1 (vx (kV 2 6 1)).toArray ∧ Var24 w9 b3 (vx (kV 1 5 0)).toArray ∧ G w0 w9) := (by have g := H8.out.trans g9; exact ⟨h9, H7.out.1.grow g, H7.out.2.1.grow g, H7.out.2.2.1.grow g, H7.out.2.2.2.1.grow g, H7.out.2.2.2.2.1.grow g, H7.out.2.2.2.2.2.trans g⟩); clear h9 g9 C8 H8 H7))
 obtain ⟨Q, hQ⟩ : ∃ Q, w9.heap.size = Q := ⟨_, rfl⟩
 have C13 : Calls Tryz.prog 13 #[.slice ao 2 cp, .slice (some ⟨Q, 0, none⟩) 2 2] (w9.alloc (.cells (Ch.cc dA ++ Ch.cc dB) 66)) fun e w' => e = .returned (.bool true) ∧ Drew (w9.alloc (.cells (Ch.cc dA ++ Ch.cc dB) 66)) w' :=
  Ch.same_any ao (some ⟨Q, 0, none⟩) cp 2 [dA, dB] _ (H9.out.1.below (G.alloc _ _)) (has_two w9 dA dB Q hQ) (by decide)
 have HQ := hid hQ
 clear hQ
 go_upto_region 12 with (first
  | ((with_reducible refine wpList_exec (.agg (vx (kV 1 5 0)).toArray) ?_ ?_ ?_); exact exec_load24 _ rfl b3 0 rfl _ (vx_size _) (H9.out.2.2.2.2.2.1).lies; kernel_rfl)
  | ((with_reducible refine wpList_exec (.agg (vx (kV 2 6 2)).toArray) ?_ ?_ ?_); exact exec_load24 _ rfl b2 0 rfl _ (vx_size _) (H9.out.2.2.2.1).lies; kernel_rfl)
  | ((with_reducible refine wpList_exec (.agg (vx (kV 2 6 1)).toArray) ?_ ?_ ?_); exact exec_load24 _ rfl b1 0 rfl _ (vx_size _) (H9.out.2.2.2.2.1).lies; kernel_rfl)
  | ((with_reducible refine wpList_exec (.agg (Ch.cc dA)) ?_ ?_ ?_); exact exec_bld 66 _ rfl [(0, .string bD), (1, .agg (vx (kV 1 5 0)).toArray), (2, .agg (vx (kV 2 6 2)).toArray)] rfl _ bu_A _; kernel_rfl)
  | ((with_reducible refine wpList_exec (.agg (Ch.cc dB)) ?_ ?_ ?_); exact exec_bld 66 _ rfl [(0, .string bP), (1, .agg (vx (kV 2 6 1)).toArray)] rfl _ bu_B _; kernel_rfl)
  | ((with_reducible refine wpList_execW (.slice (some ⟨Q, 0, none⟩) 2 2) (w9.alloc (.cells (Ch.cc dA ++ Ch.cc dB) 66)) ?_ ?_ ?_); exact exec_twoC _ _ rfl (Ch.cc dA) (Ch.cc dB) rfl rfl (Ch.cc_size _) (Ch.cc_size _) _ Q HQ.out; kernel_rfl)
  | (go_at_call 13; refine C13.mono ?_; rintro e wa ⟨rfl, da⟩; have HA : Hid (Ch.HasA wa (.slice ao 2 cp) [dA, dB] ∧ T1 wa p1 tT ∧ T1 wa p2 tU ∧ G w0 wa) := (by have g : G w9 wa := (G.alloc w9 _).trans da.below; exact ⟨H9.out.1.below g, H9.out.2.1.grow g, H9.out.2.2.1.grow g, H9.out.2.2.2.2.2.2.trans g⟩); clear da C13 H9 HQ))
 obtain ⟨g, o, rfl, hcp, lA, lB⟩ := HasA.two HA.out.1
 have C12 : Calls Tryz.prog 11 #[.pointer (some ⟨p1, 0, none⟩), .slice (some ⟨g, o, none⟩) 1 cp] wa fun e w' => e = .returned (.tuple #[.pointer none, .int .i64 132]) ∧ G wa w' :=
  ap_1 hcp HA.out.2.1 lA
 clear lA lB
 go_upto_region 13 with (first | ((with_reducible refine wpList_exec (.slice (some ⟨g, o, none⟩) 1 cp) ?_ ?_ ?_); exact exec_cut rfl g o cp rfl hcp _; kernel_rfl) | (go_at_call 11; refine C12.mono ?_; rintro e wb ⟨rfl, gb⟩; have HB : Hid (Ch.HasA wb (.slice (some ⟨g, o, none⟩) 2 cp) [dA, dB] ∧ T1 wb p1 tT ∧ T1 wb p2 tU ∧ G w0 wb) := ⟨HA.out.1.below gb, HA.out.2.1.grow gb, HA.out.2.2.1.grow gb, HA.out.2.2.2.trans gb⟩; clear gb C12 HA))
 obtain ⟨g', o', e', _, lA, lB⟩ := HasA.two HB.out.1
 cases e'
 refine regK p1 g o cp wb.heap.size _ wb rfl rfl rfl rfl lA lB (fun W gW hW => ap_2 (HB.out.2.1.grow gW) hW) fun r wc gc => ?_
 rw [foldK]
 have HC : Hid (Ch.HasA wc (.slice (some ⟨g, o, none⟩) 2 cp) [dA, dB] ∧ T1 wc p1 tT ∧ T1 wc p2 tU ∧ G w0 wc) := ⟨HB.out.1.below gc, HB.out.2.1.grow gc, HB.out.2.2.1.grow gc, HB.out.2.2.2.trans gc⟩
 have C14 := apply_ok (ao := some ⟨g, o, none⟩) (cp := cp) HC.out.2.1 HC.out.2.2.1 good_T good_U we_T we_U (by rw [dif_TU]; exact HC.out.1)
 rw [dif_TU] at C14
 clear lA lB HB gc
 go_simp
 go_upto_region 15 with (go_at_call 11; refine C14.mono ?_; rintro e wd ⟨z, pz, rfl, q1, q2, q3, q4, q5⟩; have HD := hid (⟨q1, q2, q3, q4, q5⟩ : T1 wd pz z ∧ z.2.2.rises ∧ z.2.2.size ≤ 50000 ∧ sameT false z tU = true ∧ G wc wd); clear q1 q2 q3 q4 q5 C14)
 have C15 := sameT_any pz p2 z tU false wd HD.out.1 (HC.out.2.2.1.grow HD.out.2.2.2.2) HD.out.2.1 good_U.rises (by have := HD.out.2.2.1; omega) (by decide +kernel)
 rw [HD.out.2.2.2.1] at C15
 go_wp2_with (first
  | (go_at_call 12; refine (num_any _ _).mono ?_; rintro e Wn ⟨rfl, en⟩; subst en)
  | (go_at_call 21; refine C15.mono ?_; rintro e we ⟨rfl, ge⟩; have HE := hid ge; clear ge C15))
 go_ret
 exact ⟨rfl, (HC.out.2.2.2.trans HD.out.2.2.2.2).trans HE.out⟩
end Go.Proofs.YthfcanpkhjgomaaGreat
