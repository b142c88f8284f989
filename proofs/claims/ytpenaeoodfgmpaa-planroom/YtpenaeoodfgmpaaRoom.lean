/-
  PlanRoom: the walk.
-/
import Derived.Test.YtpenaeoodfgmpaaLaw
import Derived.Test.YtpenaeoodfgmpaaRoomR
namespace Go.Proofs.Ytpenaeoodfgmpaa
open Go.RowKit

/-- small numbers of what is carried -/
def Cd.sr (c : Cd) : Prop := (0 ≤ c.names ∧ c.names < 1099511627776) ∧ (0 ≤ c.bytes ∧ c.bytes < 1099511627776) ∧ (0 ≤ c.hn ∧ c.hn < 1099511627776) ∧ (0 ≤ c.hb ∧ c.hb < 1099511627776)
theorem smC_sr (c : Cd) : (smC c).sr := ⟨sml_bd _, sml_bd _, sml_bd _, sml_bd _⟩
/-- a balance stays small -/
def Bd (k : Nat) (a : Int × Int) : Prop := -(k * 1099511627776 : Int) ≤ a.1 ∧ a.1 ≤ k * 1099511627776 ∧ 0 ≤ a.2 ∧ a.2 ≤ k * 1099511627776
theorem Bd.up {k : Nat} {a : Int × Int} (h : Bd k a) : Bd (k + 1) a := by unfold Bd at *; omega
theorem brg_sm {k : Nat} {a : Int × Int} {x y : Int} (h : Bd k a) (hk : k ≤ 400) (hx : 0 ≤ x ∧ x < 1099511627776) (hy : 0 ≤ y ∧ y < 1099511627776) : brg a x y = (a.1 + x - y, mx a.2 (a.1 + x)) ∧ Bd (k + 1) (brg a x y) := by
  unfold Bd at h
  have e1 : pl a.1 x = a.1 + x := by unfold pl mn; split <;> omega
  have e2 : ms (a.1 + x) y = a.1 + x - y := by unfold ms mx; split <;> omega
  have e : brg a x y = (a.1 + x - y, mx a.2 (a.1 + x)) := by unfold brg; rw [e1, e2]
  refine ⟨e, ?_⟩
  rw [e]
  unfold Bd mx
  simp only
  split <;> omega
theorem acc_bd {C : List Cd} {T : List It} {v : Int} (hs : ∀ c ∈ C, c.sr) : ∀ k, k ≤ 400 → Bd k (acc C T v k).1 ∧ Bd k (acc C T v k).2
  | 0, _ => by simp [acc, Bd]
  | k + 1, hk => by
    have ih := acc_bd (T := T) (v := v) hs k (by omega)
    simp only [acc]
    split
    · split
      · split
        · rename_i c hc
          have h1 := hs c (List.mem_of_getElem? hc)
          exact ⟨(brg_sm ih.1 (by omega) h1.1 h1.2.2.1).2, (brg_sm ih.2 (by omega) h1.2.1 h1.2.2.2).2⟩
        · exact ⟨ih.1.up, ih.2.up⟩
      · exact ⟨ih.1.up, ih.2.up⟩
    · exact ⟨ih.1.up, ih.2.up⟩
theorem its_good (L : List Cd) (B : List Bool) : ∀ k, ∀ t ∈ its L B k, (t.to = 0 ∨ t.to = 1) ∧ ∃ (i : Nat) (c : Cd), L[i]? = some c ∧ t.cell = (i : Int)
  | 0 => by simp [its]
  | k + 1 => by
    intro t ht
    simp only [its] at ht
    split at ht
    · rename_i c hc
      split at ht
      · rcases List.mem_append.1 ht with h | h
        · exact its_good L B k t h
        · simp at h
          subst h
          refine ⟨?_, k, c, hc, rfl⟩
          unfold mkI
          simp only
          split <;> simp
      · exact its_good L B k t ht
    · exact its_good L B k t ht
theorem mx_if (a b : Int) : (if a < b then b else a) = mx a b := by unfold mx; split <;> split <;> omega
/-- the two arrays: what A and B hold, and the greatest of it -/
def RoomS (wr : World) (H Gr : Nat) (a b : (Int × Int) × (Int × Int)) : Prop :=
  wr.heap[H]? = some (.cells #[.int .i64 a.1.1, .int .i64 a.2.1, .int .i64 b.1.1, .int .i64 b.2.1] 32 (0, 0)) ∧ wr.heap[Gr]? = some (.cells #[.int .i64 a.1.2, .int .i64 a.2.2, .int .i64 b.1.2, .int .i64 b.2.2] 32 (0, 0)) ∧ H ≠ Gr
theorem RoomS.up {wr w' : World} {H Gr : Nat} {a b : (Int × Int) × (Int × Int)} (h : RoomS wr H Gr a b) (hb : G wr w') : RoomS w' H Gr a b :=
  ⟨(hb.block H (Array.getElem?_eq_some_iff.1 h.1).1).trans h.1, (hb.block Gr (Array.getElem?_eq_some_iff.1 h.2.1).1).trans h.2.1, h.2.2⟩
set_option maxHeartbeats 8000000 in
set_option maxRecDepth 100000 in
theorem room_walk (ao : Option Addr) (cp : Nat) (L : List Cd) (most : Int) (w : World) (hv : HasC w (.slice ao L.length cp) L) (hl : L.length ≤ 9223372036854775807) :
    Calls Try.prog 5 #[.agg #[.slice ao L.length cp], .int .i64 most] w fun e w' => e = .returned (.bool true) ∧ G w w' := by
  have HV := hid hv
  obtain ⟨M, hM⟩ : ∃ M, w.heap.size = M := ⟨_, rfl⟩
  have K1 := hid (few_any ao cp L (w.alloc (.cells #[.slice ao L.length cp] 24)) (hv.up (G.al _ _)) hl)
  have K2 := hid (fun W => known_any W)
  have HM0 : Hid ((w.alloc (.cells #[.slice ao L.length cp] 24)).heap[M]? = some (.cells #[.slice ao L.length cp] 24 (0, 0))) := by rw [← hM]; exact heap_alloc_new _ _
  obtain ⟨n, hn⟩ : ∃ n, L.length = n := ⟨_, rfl⟩
  have HNL := hid hn
  rw [hn] at K1 HM0 HV hl ⊢
  have K3 := hid (fun W hW h300 => plain_any ao cp L W hW h300)
  rw [hn] at K3
  clear hv hn
  go_enter Try.func5, Try.ntmps5
  go_upto_region 5 with (first
    | (go_at_call 7; refine K1.out.mono ?_; rintro e w1 ⟨b, rfl, hb3, hg1⟩; have H1 := hid (And.intro hb3 ((G.al _ _).up hg1)); have H1' := hid hg1; clear hb3 hg1; cases b)
    | (go_at_call 8; refine (K2.out _).mono ?_; rintro e w2 ⟨rfl, h2⟩; have H2 := hid h2; clear h2))
  · go_ret
    exact ⟨rfl, H1.out.2⟩
  have h3 : n ≤ 300 := by have := H1.out.1 (by first | rfl | trivial); rw [HNL.out] at this; exact this
  have HGW : Hid (G w w2) := H1.out.2.up H2.out
  have hm2 : w2.heap[M]? = some (.cells #[.slice ao n cp] 24 (0, 0)) := by
    have hg := H1'.out.up H2.out
    exact (hg.block M (by simp [← hM])).trans HM0.out
  have kc := cell_of_row w2 M 0 _ _ _ hm2
  have kf := frozen_of_row w2 M 0 _ _ hm2
  simp only [List.getElem?_toArray, List.getElem?_cons_zero] at kc
  have HM2 := hid hm2
  have A3 := hid (K3.out w2 (HV.out.up HGW.out) h3)
  have HMM := hid hM
  clear hm2 hM K1 K2 K3 H1 H1' H2 HM0
  obtain ⟨C, hC⟩ : ∃ C, L.map smC = C := ⟨_, rfl⟩
  have HC := hid hC
  have hCn : C.length = n := by rw [← hC, List.length_map, HNL.out]
  unfold PlnR at A3
  rw [hC, hCn] at A3
  have hCo : ∀ c ∈ C, c.ok := by
    rw [← hC]; intro c hc; obtain ⟨d, hd, rfl⟩ := List.mem_map.1 hc; exact smC_ok (HV.out.choose_spec.choose_spec.2.2 d hd)
  have hCs : ∀ c ∈ C, c.sm := by
    rw [← hC]; intro c hc; obtain ⟨d, hd, rfl⟩ := List.mem_map.1 hc; exact smC_sm d
  have hCp : ∀ c ∈ C, c.pos := by
    rw [← hC]; intro c hc; obtain ⟨d, hd, rfl⟩ := List.mem_map.1 hc; exact smC_pos d
  have HCO := hid (And.intro hCo (And.intro hCs hCp))
  have HCN := hid hCn
  clear hC hCo hCs hCp
  go_upto_region 6 with (go_at_call 9; refine A3.out.mono ?_; rintro e w3 ⟨ac, kc3, rfl, o3, g3⟩; have H3 := hid (And.intro o3 g3); clear o3 g3; have km3 := (H3.out.2.block M (Array.getElem?_eq_some_iff.1 HM2.out).1).trans HM2.out; have kc3' := cell_of_row w3 M 0 _ _ _ km3; have kf3' := frozen_of_row w3 M 0 _ _ km3; simp only [List.getElem?_toArray, List.getElem?_cons_zero] at kc3'; have KM3 := hid km3; clear km3)
  obtain ⟨w4, hw4⟩ : ∃ w4, w3.setCell ⟨M, 0, none⟩ (.slice ac n kc3) = w4 := ⟨_, rfl⟩
  have hb4 : But M w3 w4 := by rw [← hw4]; exact (But.refl M w3).setCell 0 _
  have hm4 : w4.heap[M]? = some (.cells #[.slice ac n kc3] 24 (0, 0)) := by rw [← hw4, heap_setCell_same _ _ _ _ _ _ KM3.out]; rfl
  have HMlt : Hid (M < w2.heap.size) := (Array.getElem?_eq_some_iff.1 HM2.out).1
  have HG4 : Hid (G w w4) := (HGW.out.up H3.out.2).trans (hb4.below (Nat.le_of_eq HMM.out) (HGW.out.up H3.out.2).size)
  have HC4 : Hid (HasC w4 (.slice ac n kc3) C) := OwnsC.has (owns_but H3.out.1 hb4 HMlt.out) HCO.out.1
  have A4 := hid (of_any ac kc3 C most w4 (by have := HC4.out; rwa [HCN.out]) (by rw [HCN.out]; omega))
  rw [HCN.out] at A4
  have k4 := cell_of_row w4 M 0 _ _ _ hm4
  simp only [List.getElem?_toArray, List.getElem?_cons_zero] at k4
  have HM4 := hid hm4
  rw [hw4]
  clear kc kf kc3' kf3' hw4 hb4 hm4 A3 H3 KM3 HM2
  obtain ⟨p, hp⟩ : ∃ p, planF C most = p := ⟨_, rfl⟩
  have HPP := hid hp
  rw [hp] at A4
  clear hp
  go_upto_region 7 with (go_at_call 10; refine A4.out.mono ?_; rintro e w5 ⟨vi, vl, rfl, oi, ol, _, g5⟩; obtain ⟨ai, ci, ei⟩ := owns_form oi; subst ei; obtain ⟨al, cl, el⟩ := owns_form ol; subst el; have H5 := hid (And.intro oi (And.intro ol g5)); clear oi ol g5)
  obtain ⟨B, hBl, _, hpi, hpl, hna, hba, hnb, hbb⟩ := plan_facts HPP.out HCO.out.2.2
  have HL0 : Hid (LawS w (w5.alloc (.cells (pCells p (.slice ai p.items.length ci) (.slice al p.left.length cl)) 34)) M w5.heap.size (.slice ac n kc3) (.slice ai p.items.length ci) (.slice al p.left.length cl) C p) := by
    obtain ⟨oi, ol, g5⟩ := H5.out
    have ga := G.al w5 (.cells (pCells p (.slice ai p.items.length ci) (.slice al p.left.length cl)) 34)
    exact ⟨((g5.up ga).block M (Array.getElem?_eq_some_iff.1 HM4.out).1).trans HM4.out, heap_alloc_new _ _, (HC4.out.up g5).up ga, oi.has.up ga, ol.has.up ga, (HG4.out.up g5).up ga⟩
  have htl : p.items.length ≤ 300 := by rw [hpi]; have := its_len C B C.length; have := HCN.out; omega
  have HGD : Hid (∀ t ∈ p.items, (t.to = 0 ∨ t.to = 1) ∧ ∃ (i : Nat) (c : Cd), C[i]? = some c ∧ t.cell = (i : Int)) := by rw [hpi]; exact its_good C B C.length
  have HSR : Hid (∀ c ∈ C, c.sr) := by
    rw [← HC.out]; intro c hc; obtain ⟨d, _, rfl⟩ := List.mem_map.1 hc; exact smC_sr d
  obtain ⟨ti, hti⟩ : ∃ ti, p.items.length = ti := ⟨_, rfl⟩
  have HTI := hid hti
  have HND : Hid (p.na = (acc C p.items 0 ti).1.2 ∧ p.ba = (acc C p.items 0 ti).2.2 ∧ p.nb = (acc C p.items 1 ti).1.2 ∧ p.bb = (acc C p.items 1 ti).2.2) := by rw [← hti]; exact ⟨hna, hba, hnb, hbb⟩
  obtain ⟨P, hP⟩ : ∃ P, w5.heap.size = P := ⟨_, rfl⟩
  unfold pCells at HL0
  rw [hti] at HL0 htl ⊢
  rw [hP] at HL0
  clear hBl hpi hpl k4 A4 HM4 HC4 H5 hna hba hnb hbb hti
  go_upto_region 8 with fail
  have hzz : ∀ x : World, x = w5.alloc (.cells #[.slice ai ti ci, .slice al p.left.length cl, .int .i64 p.na, .int .i64 p.ba, .int .i64 p.nb, .int .i64 p.bb] 34) → x.heap.size = P + 1 := by rintro x rfl; simp [hP]
  obtain ⟨w6, hw6⟩ : ∃ w6, w5.alloc (.cells #[.slice ai ti ci, .slice al p.left.length cl, .int .i64 p.na, .int .i64 p.ba, .int .i64 p.nb, .int .i64 p.bb] 34) = w6 := ⟨_, rfl⟩
  have hz6 := hzz w6 hw6.symm
  rw [hw6] at HL0
  have HS0 : Hid (G w6 ((w6.alloc (.cells #[.int .i64 0, .int .i64 0, .int .i64 0, .int .i64 0] 32)).alloc (.cells #[.int .i64 0, .int .i64 0, .int .i64 0, .int .i64 0] 32)) ∧ RoomS ((w6.alloc (.cells #[.int .i64 0, .int .i64 0, .int .i64 0, .int .i64 0] 32)).alloc (.cells #[.int .i64 0, .int .i64 0, .int .i64 0, .int .i64 0] 32)) (P + 1) (P + 1 + 1) (acc C p.items 0 0) (acc C p.items 1 0)) := by
    have g1 := G.al w6 (.cells #[.int .i64 0, .int .i64 0, .int .i64 0, .int .i64 0] 32)
    have g2 := G.al (w6.alloc (.cells #[.int .i64 0, .int .i64 0, .int .i64 0, .int .i64 0] 32)) (.cells #[.int .i64 0, .int .i64 0, .int .i64 0, .int .i64 0] 32)
    refine ⟨g1.up g2, ?_, ?_, by omega⟩
    · rw [g2.block _ (by simp [hz6]), ← hz6]; exact heap_alloc_new _ _
    · have := heap_alloc_new (w6.alloc (.cells #[.int .i64 0, .int .i64 0, .int .i64 0, .int .i64 0] 32)) (.cells #[.int .i64 0, .int .i64 0, .int .i64 0, .int .i64 0] 32)
      simpa [hz6, acc] using this
  have HZ6 := hid hz6
  rw [hw6, hP]
  clear hzz hw6 hz6 hP
  go_wp2
  go_loopw [8] (fun i wr => ∃ k : Nat, k ≤ ti ∧ i = .int .i64 k ∧ Hid (G w6 wr ∧ RoomS wr (P + 1) (P + 1 + 1) (acc C p.items 0 k) (acc C p.items 1 k))) (fun i _ => ti - (intOf i).toNat)
  case atStart => exact ⟨0, Nat.zero_le _, rfl, HS0.out⟩
  case round =>
    clear HS0
    obtain ⟨k, hk, rfl, HR⟩ := hrel
    have hLS := HL0.out.up HR.out.1
    have m0 : wr.cell? ⟨M, 0, none⟩ = some (.slice ac n kc3) := cell_of_row _ _ 0 _ _ _ hLS.mv
    have pc0 : wr.cell? ⟨P, 0, none⟩ = some (.slice ai ti ci) := cell_of_row _ _ 0 _ _ _ hLS.pv
    have mlt := (Array.getElem?_eq_some_iff.1 hLS.mv).1
    have plt := (Array.getElem?_eq_some_iff.1 hLS.pv).1
    obtain ⟨BB, hBB⟩ : ∃ BB, wr.heap.size = BB := ⟨_, rfl⟩
    rw [hBB] at mlt plt
    by_cases hlt : k < ti
    · obtain ⟨t, ht⟩ : ∃ t, p.items[k]? = some t := ⟨p.items[k]'(by rw [HTI.out]; exact hlt), by simp⟩
      obtain ⟨gi, oi, rfl, hli⟩ := hLS.hi.at ht
      have ltI : (k : Int) < (ti : Int) := by omega
      have geI : (0 : Int) ≤ (k : Int) := by omega
      have kB : (k : Int) ≤ 300 := by omega
      have n1 : ¬ M = BB := by omega
      have n2 : ¬ P = BB := by omega
      have HLI := hid hli
      clear hli
      by_cases hwh : t.what = 3
      · obtain ⟨hto, i, c, hc, hci⟩ := HGD.out t (List.mem_of_getElem? ht)
        have hsr := HSR.out c (List.mem_of_getElem? hc)
        have hin : i < n := by have := (List.getElem?_eq_some_iff.1 hc).1; rw [HCN.out] at this; exact this
        have iI : (i : Int) < (n : Int) := by omega
        have i0 : (0 : Int) ≤ (i : Int) := by omega
        have hcell : cellOf C t = some c := by unfold cellOf; rw [hci]; simpa using hc
        obtain ⟨g, o, hao, hl0⟩ := hLS.hc.at hc
        subst hao
        have b0 := acc_bd (T := p.items) (v := 0) HSR.out k (by omega)
        have b1 := acc_bd (T := p.items) (v := 1) HSR.out k (by omega)
        have hR := HR.out.2
        have hlH := (Array.getElem?_eq_some_iff.1 hR.1).1
        have hlG := (Array.getElem?_eq_some_iff.1 hR.2.1).1
        rw [hBB] at hlH hlG
        have h0c := cell_of_row wr (P + 1) 0 _ _ _ hR.1
        have h1c := cell_of_row wr (P + 1) 1 _ _ _ hR.1
        have h2c := cell_of_row wr (P + 1) 2 _ _ _ hR.1
        have h3c := cell_of_row wr (P + 1) 3 _ _ _ hR.1
        have g0c := cell_of_row wr (P + 1 + 1) 0 _ _ _ hR.2.1
        have g1c := cell_of_row wr (P + 1 + 1) 1 _ _ _ hR.2.1
        have g2c := cell_of_row wr (P + 1 + 1) 2 _ _ _ hR.2.1
        have g3c := cell_of_row wr (P + 1 + 1) 3 _ _ _ hR.2.1
        have hf := fun j => frozen_of_row wr (P + 1) j _ _ hR.1
        have gf := fun j => frozen_of_row wr (P + 1 + 1) j _ _ hR.2.1
        simp only [List.getElem?_toArray, List.getElem?_cons_zero, List.getElem?_cons_succ] at h0c h1c h2c h3c g0c g1c g2c g3c
        obtain ⟨t1, t2, t3, t4, t5, t6, t7⟩ := t
        simp only at hto hwh hci
        subst hwh hci
        rcases hto with rfl | rfl
        · have E1 : Hid (acc C p.items 0 (k + 1) = (brg (acc C p.items 0 k).1 c.names c.hn, brg (acc C p.items 0 k).2 c.bytes c.hb)) := acc_step ht ⟨rfl, rfl⟩ hcell
          have E2 : Hid (acc C p.items 1 (k + 1) = acc C p.items 1 k) := acc_skip ht (fun e => by have := e.1; simp at this)
          have hq1 := (brg_sm b0.1 (by omega) hsr.1 hsr.2.2.1).1
          have hq2 := (brg_sm b0.2 (by omega) hsr.2.1 hsr.2.2.2).1
          rw [hq1, hq2] at E1
          obtain ⟨⟨⟨x1, x2⟩, ⟨x3, x4⟩⟩, hX⟩ : ∃ q, acc C p.items 0 k = q := ⟨_, rfl⟩
          obtain ⟨⟨⟨y1, y2⟩, ⟨y3, y4⟩⟩, hY⟩ : ∃ q, acc C p.items 1 k = q := ⟨_, rfl⟩
          rw [hX] at b0 h0c h1c g0c g1c
          rw [hY] at b1 h2c h3c g2c g3c
          rw [hX] at E1
          rw [hY] at E2
          rw [hX, hY] at HR
          unfold Bd at b0 b1
          simp only at b0 b1 h0c h1c h2c h3c g0c g1c g2c g3c E1
          unfold Cd.sr at hsr
          clear hq1 hq2 hX hY hcell hc ht hR
          have f0 := hf 0
          have f1 := hf 1
          have f2 := gf 0
          have f3 := gf 1
          clear hf gf
          have HL2 : Hid (Lies (wr.alloc (.cells (ic (⟨t1, (i : Int), t3, 3, t5, 0, t7⟩ : It)) 45)) g (o + i * 10) (cc c)) := hl0.up (G.al _ _)
          clear hl0
          have n3 : ¬ P + 1 = BB := by omega
          have n4 : ¬ P + 1 + 1 = BB := by omega
          go_upto_region 12 with (first
          | ((with_reducible refine wpList_execW (.agg (ic (⟨t1, (i : Int), t3, 3, t5, 0, t7⟩ : It))) wr ?_ ?_ ?_); exact exec_load 45 _ rfl gi (oi + k * 7) (ic (⟨t1, (i : Int), t3, 3, t5, 0, t7⟩ : It)) _ rfl _ HLI.out under45 rfl size45; kernel_rfl)
          | ((with_reducible refine wpList_execW (.pointer (some ⟨BB, 0, none⟩)) (wr.alloc (.cells z45 45)) ?_ ?_ ?_); exact exec_allocT 45 z45 rfl zero45 _ _ hBB; kernel_rfl)
          | ((with_reducible refine wpList_skipW (wr.alloc (.cells (ic (⟨t1, (i : Int), t3, 3, t5, 0, t7⟩ : It)) 45)) ?_ ?_ ?_); exact exec_fill 45 _ _ rfl (ic (⟨t1, (i : Int), t3, 3, t5, 0, t7⟩ : It)) z45 wr (by rw [hBB]; rfl) rfl size45 rfl (ic_one (⟨t1, (i : Int), t3, 3, t5, 0, t7⟩ : It)); kernel_rfl; unfold ic))
          go_upto_region 13 with fail
          go_upto_region 14 with (first
          | ((with_reducible refine wpList_execW (.agg (cc c)) (wr.alloc (.cells (ic (⟨t1, (i : Int), t3, 3, t5, 0, t7⟩ : It)) 45)) ?_ ?_ ?_); exact exec_load 43 _ rfl g (o + i * 10) (cc c) _ rfl _ HL2.out under43 rfl size43; kernel_rfl)
          | ((with_reducible refine wpList_execW (.pointer (some ⟨BB + 1, 0, none⟩)) ((wr.alloc (.cells (ic (⟨t1, (i : Int), t3, 3, t5, 0, t7⟩ : It)) 45)).alloc (.cells z43 43)) ?_ ?_ ?_); exact exec_allocT 43 z43 rfl zero43 _ _ (by simp [hBB]); kernel_rfl)
          | ((with_reducible refine wpList_skipW ((wr.alloc (.cells (ic (⟨t1, (i : Int), t3, 3, t5, 0, t7⟩ : It)) 45)).alloc (.cells (cc c) 43)) ?_ ?_ ?_); exact exec_fill 43 _ _ rfl (cc c) z43 (wr.alloc (.cells (ic (⟨t1, (i : Int), t3, 3, t5, 0, t7⟩ : It)) 45)) (by simp [hBB]; rfl) rfl size43 rfl (cc_one c); kernel_rfl; unfold cc ic))
          go_upto_region 15 with fail
          obtain ⟨W, hW⟩ : ∃ W, ((wr.alloc (.cells (ic (⟨t1, (i : Int), t3, 3, t5, 0, t7⟩ : It)) 45)).alloc (.cells (cc c) 43)).alloc (.cells #[.int .i64 x1, .int .i64 x3] 31) = W := ⟨_, rfl⟩
          have gW : G wr W := by rw [← hW]; exact ((G.al _ _).up (G.al _ _)).up (G.al _ _)
          have c5 : W.cell? ⟨BB, 5, none⟩ = some (.int .i64 0) := by
            rw [← hW, ((G.al _ _).up (G.al _ _)).cell (p := ⟨BB, 5, none⟩) (by simp [hBB]), ← hBB, new_cell]; rfl
          have cq : ∀ j u, (cc c)[j]? = some u → W.cell? ⟨BB + 1, j, none⟩ = some u := fun j u hj => by
            rw [← hW, (G.al _ _).cell (p := ⟨BB + 1, j, none⟩) (by simp [hBB])]
            have := new_cell (wr.alloc (.cells (ic (⟨t1, (i : Int), t3, 3, t5, 0, t7⟩ : It)) 45)) (cc c) 43 j
            rw [World.size_alloc, hBB] at this
            rw [this]; exact hj
          have c6 : W.cell? ⟨BB + 1, 6, none⟩ = some (.int .i64 c.names) := cq 6 _ rfl
          have c7 : W.cell? ⟨BB + 1, 7, none⟩ = some (.int .i64 c.bytes) := cq 7 _ rfl
          have c8 : W.cell? ⟨BB + 1, 8, none⟩ = some (.int .i64 c.hn) := cq 8 _ rfl
          have c9 : W.cell? ⟨BB + 1, 9, none⟩ = some (.int .i64 c.hb) := cq 9 _ rfl
          have cx : ∀ j u, (#[.int .i64 x1, .int .i64 x3] : Array Value)[j]? = some u → W.cell? ⟨BB + 1 + 1, j, none⟩ = some u := fun j u hj => by
            have := new_cell ((wr.alloc (.cells (ic (⟨t1, (i : Int), t3, 3, t5, 0, t7⟩ : It)) 45)).alloc (.cells (cc c) 43)) #[.int .i64 x1, .int .i64 x3] 31 j
            rw [World.size_alloc, World.size_alloc, hBB] at this
            rw [← hW, this]; exact hj
          have cx0 : W.cell? ⟨BB + 1 + 1, 0, none⟩ = some (.int .i64 x1) := cx 0 _ rfl
          have cx1 : W.cell? ⟨BB + 1 + 1, 1, none⟩ = some (.int .i64 x3) := cx 1 _ rfl
          have d0 := (gW.cell (p := ⟨P + 1, 0, none⟩) (by simp only; omega)).trans h0c
          have d1 := (gW.cell (p := ⟨P + 1, 1, none⟩) (by simp only; omega)).trans h1c
          have d2 := (gW.cell (p := ⟨P + 1 + 1, 0, none⟩) (by simp only; omega)).trans g0c
          have d3 := (gW.cell (p := ⟨P + 1 + 1, 1, none⟩) (by simp only; omega)).trans g1c
          have l0 := (gW.frozen (p := ⟨P + 1, 0, none⟩) (by simp only; omega)).trans f0
          have l1 := (gW.frozen (p := ⟨P + 1, 1, none⟩) (by simp only; omega)).trans f1
          have l2 := (gW.frozen (p := ⟨P + 1 + 1, 0, none⟩) (by simp only; omega)).trans f2
          have l3 := (gW.frozen (p := ⟨P + 1 + 1, 1, none⟩) (by simp only; omega)).trans f3
          have HGW2 := hid gW
          have HRW := hid (HR.out.2.up gW)
          unfold ic cc at hW
          rw [hW]
          have hrG : W.heap[P + 1 + 1]? = some (.cells #[.int .i64 x2, .int .i64 x4, .int .i64 y2, .int .i64 y4] 32 (0, 0)) := HRW.out.2.1
          have hrH : W.heap[P + 1]? = some (.cells #[.int .i64 x1, .int .i64 x3, .int .i64 y1, .int .i64 y3] 32 (0, 0)) := HRW.out.1
          clear hW cq cx m0 pc0 f0 f1 f2 f3 h0c h1c h2c h3c g0c g1c g2c g3c n1 n2 n3 n4 HL2 HLI hBB d0 d1 d2 d3 l0 l1 l2 l3 gW
          refine room_reg0 BB (BB + 1) (BB + 1 + 1) (P + 1 + 1) (x1, x3) (x2, x4) (c.names, c.bytes) (.int .i64 y2) (.int .i64 y4) _ W rfl rfl rfl rfl rfl ⟨by omega, by omega, by omega⟩ hrG c5 c6 c7 cx0 cx1 (by simp only; omega) (by simp only; omega) fun w9 hr9 hb9 => ?_
          rw [fold15_0]
          have e5 : w9.cell? ⟨BB, 5, none⟩ = some (.int .i64 0) := hb9.cell c5 (show BB ≠ P + 1 + 1 by omega)
          have e6 : w9.cell? ⟨BB + 1, 6, none⟩ = some (.int .i64 c.names) := hb9.cell c6 (show BB + 1 ≠ P + 1 + 1 by omega)
          have e7 : w9.cell? ⟨BB + 1, 7, none⟩ = some (.int .i64 c.bytes) := hb9.cell c7 (show BB + 1 ≠ P + 1 + 1 by omega)
          have e8 : w9.cell? ⟨BB + 1, 8, none⟩ = some (.int .i64 c.hn) := hb9.cell c8 (show BB + 1 ≠ P + 1 + 1 by omega)
          have e9 : w9.cell? ⟨BB + 1, 9, none⟩ = some (.int .i64 c.hb) := hb9.cell c9 (show BB + 1 ≠ P + 1 + 1 by omega)
          have ex0 : w9.cell? ⟨BB + 1 + 1, 0, none⟩ = some (.int .i64 x1) := hb9.cell cx0 (show BB + 1 + 1 ≠ P + 1 + 1 by omega)
          have ex1 : w9.cell? ⟨BB + 1 + 1, 1, none⟩ = some (.int .i64 x3) := hb9.cell cx1 (show BB + 1 + 1 ≠ P + 1 + 1 by omega)
          have hH9 : w9.heap[P + 1]? = some (.cells #[.int .i64 x1, .int .i64 x3, .int .i64 y1, .int .i64 y3] 32 (0, 0)) := (hb9.block (P + 1) (Array.getElem?_eq_some_iff.1 hrH).1 (by omega)).trans hrH
          have d0 := cell_of_row w9 (P + 1) 0 _ _ _ hH9
          have d1 := cell_of_row w9 (P + 1) 1 _ _ _ hH9
          have l0 := frozen_of_row w9 (P + 1) 0 _ _ hH9
          have l1 := frozen_of_row w9 (P + 1) 1 _ _ hH9
          simp only [List.getElem?_toArray, List.getElem?_cons_zero, List.getElem?_cons_succ] at d0 d1
          have HEND : Hid (G w6 ((w9.setCell ⟨P + 1, 0, none⟩ (.int .i64 (x1 + c.names - c.hn))).setCell ⟨P + 1, 1, none⟩ (.int .i64 (x3 + c.bytes - c.hb))) ∧ RoomS ((w9.setCell ⟨P + 1, 0, none⟩ (.int .i64 (x1 + c.names - c.hn))).setCell ⟨P + 1, 1, none⟩ (.int .i64 (x3 + c.bytes - c.hb))) (P + 1) (P + 1 + 1) (acc C p.items 0 (k + 1)) (acc C p.items 1 (k + 1))) := by
            have hbb : But (P + 1) w9 ((w9.setCell ⟨P + 1, 0, none⟩ (.int .i64 (x1 + c.names - c.hn))).setCell ⟨P + 1, 1, none⟩ (.int .i64 (x3 + c.bytes - c.hb))) := ((But.refl _ w9).setCell _ _).setCell _ _
            have g1 : G w6 w9 := (HR.out.1.up HGW2.out).trans (hb9.below (by have := HZ6.out; omega) (HR.out.1.up HGW2.out).size)
            refine ⟨g1.trans (hbb.below (Nat.le_of_eq HZ6.out) g1.size), ?_, ?_, by omega⟩
            · rw [heap_setCell_same _ _ _ _ _ _ (heap_setCell_same _ _ _ _ _ _ hH9), E1.out, E2.out]
              simp
            · rw [hbb.block (P + 1 + 1) (Array.getElem?_eq_some_iff.1 hr9).1 (by omega), hr9, E1.out, E2.out]
              simp only [mx_if]
          clear hr9 hb9 hH9 hrG hrH c5 c6 c7 c8 c9 cx0 cx1
          go_simp
          go_wp2
          go_roundw
          case rel => exact ⟨k + 1, by omega, by go_num, HEND.out⟩
          case measure => simp [intOf]; omega
        · have E1 : Hid (acc C p.items 1 (k + 1) = (brg (acc C p.items 1 k).1 c.names c.hn, brg (acc C p.items 1 k).2 c.bytes c.hb)) := acc_step ht ⟨rfl, rfl⟩ hcell
          have E2 : Hid (acc C p.items 0 (k + 1) = acc C p.items 0 k) := acc_skip ht (fun e => by have := e.1; simp at this)
          have hq1 := (brg_sm b1.1 (by omega) hsr.1 hsr.2.2.1).1
          have hq2 := (brg_sm b1.2 (by omega) hsr.2.1 hsr.2.2.2).1
          rw [hq1, hq2] at E1
          obtain ⟨⟨⟨x1, x2⟩, ⟨x3, x4⟩⟩, hX⟩ : ∃ q, acc C p.items 0 k = q := ⟨_, rfl⟩
          obtain ⟨⟨⟨y1, y2⟩, ⟨y3, y4⟩⟩, hY⟩ : ∃ q, acc C p.items 1 k = q := ⟨_, rfl⟩
          rw [hX] at b0 h0c h1c g0c g1c
          rw [hY] at b1 h2c h3c g2c g3c
          rw [hY] at E1
          rw [hX] at E2
          rw [hX, hY] at HR
          unfold Bd at b0 b1
          simp only at b0 b1 h0c h1c h2c h3c g0c g1c g2c g3c E1
          unfold Cd.sr at hsr
          clear hq1 hq2 hX hY hcell hc ht hR
          have f0 := hf 2
          have f1 := hf 3
          have f2 := gf 2
          have f3 := gf 3
          clear hf gf
          have HL2 : Hid (Lies (wr.alloc (.cells (ic (⟨t1, (i : Int), t3, 3, t5, 1, t7⟩ : It)) 45)) g (o + i * 10) (cc c)) := hl0.up (G.al _ _)
          clear hl0
          have n3 : ¬ P + 1 = BB := by omega
          have n4 : ¬ P + 1 + 1 = BB := by omega
          go_upto_region 12 with (first
          | ((with_reducible refine wpList_execW (.agg (ic (⟨t1, (i : Int), t3, 3, t5, 1, t7⟩ : It))) wr ?_ ?_ ?_); exact exec_load 45 _ rfl gi (oi + k * 7) (ic (⟨t1, (i : Int), t3, 3, t5, 1, t7⟩ : It)) _ rfl _ HLI.out under45 rfl size45; kernel_rfl)
          | ((with_reducible refine wpList_execW (.pointer (some ⟨BB, 0, none⟩)) (wr.alloc (.cells z45 45)) ?_ ?_ ?_); exact exec_allocT 45 z45 rfl zero45 _ _ hBB; kernel_rfl)
          | ((with_reducible refine wpList_skipW (wr.alloc (.cells (ic (⟨t1, (i : Int), t3, 3, t5, 1, t7⟩ : It)) 45)) ?_ ?_ ?_); exact exec_fill 45 _ _ rfl (ic (⟨t1, (i : Int), t3, 3, t5, 1, t7⟩ : It)) z45 wr (by rw [hBB]; rfl) rfl size45 rfl (ic_one (⟨t1, (i : Int), t3, 3, t5, 1, t7⟩ : It)); kernel_rfl; unfold ic))
          go_upto_region 13 with fail
          go_upto_region 14 with (first
          | ((with_reducible refine wpList_execW (.agg (cc c)) (wr.alloc (.cells (ic (⟨t1, (i : Int), t3, 3, t5, 1, t7⟩ : It)) 45)) ?_ ?_ ?_); exact exec_load 43 _ rfl g (o + i * 10) (cc c) _ rfl _ HL2.out under43 rfl size43; kernel_rfl)
          | ((with_reducible refine wpList_execW (.pointer (some ⟨BB + 1, 0, none⟩)) ((wr.alloc (.cells (ic (⟨t1, (i : Int), t3, 3, t5, 1, t7⟩ : It)) 45)).alloc (.cells z43 43)) ?_ ?_ ?_); exact exec_allocT 43 z43 rfl zero43 _ _ (by simp [hBB]); kernel_rfl)
          | ((with_reducible refine wpList_skipW ((wr.alloc (.cells (ic (⟨t1, (i : Int), t3, 3, t5, 1, t7⟩ : It)) 45)).alloc (.cells (cc c) 43)) ?_ ?_ ?_); exact exec_fill 43 _ _ rfl (cc c) z43 (wr.alloc (.cells (ic (⟨t1, (i : Int), t3, 3, t5, 1, t7⟩ : It)) 45)) (by simp [hBB]; rfl) rfl size43 rfl (cc_one c); kernel_rfl; unfold cc ic))
          go_upto_region 15 with fail
          obtain ⟨W, hW⟩ : ∃ W, ((wr.alloc (.cells (ic (⟨t1, (i : Int), t3, 3, t5, 1, t7⟩ : It)) 45)).alloc (.cells (cc c) 43)).alloc (.cells #[.int .i64 y1, .int .i64 y3] 31) = W := ⟨_, rfl⟩
          have gW : G wr W := by rw [← hW]; exact ((G.al _ _).up (G.al _ _)).up (G.al _ _)
          have c5 : W.cell? ⟨BB, 5, none⟩ = some (.int .i64 1) := by
            rw [← hW, ((G.al _ _).up (G.al _ _)).cell (p := ⟨BB, 5, none⟩) (by simp [hBB]), ← hBB, new_cell]; rfl
          have cq : ∀ j u, (cc c)[j]? = some u → W.cell? ⟨BB + 1, j, none⟩ = some u := fun j u hj => by
            rw [← hW, (G.al _ _).cell (p := ⟨BB + 1, j, none⟩) (by simp [hBB])]
            have := new_cell (wr.alloc (.cells (ic (⟨t1, (i : Int), t3, 3, t5, 1, t7⟩ : It)) 45)) (cc c) 43 j
            rw [World.size_alloc, hBB] at this
            rw [this]; exact hj
          have c6 : W.cell? ⟨BB + 1, 6, none⟩ = some (.int .i64 c.names) := cq 6 _ rfl
          have c7 : W.cell? ⟨BB + 1, 7, none⟩ = some (.int .i64 c.bytes) := cq 7 _ rfl
          have c8 : W.cell? ⟨BB + 1, 8, none⟩ = some (.int .i64 c.hn) := cq 8 _ rfl
          have c9 : W.cell? ⟨BB + 1, 9, none⟩ = some (.int .i64 c.hb) := cq 9 _ rfl
          have cx : ∀ j u, (#[.int .i64 y1, .int .i64 y3] : Array Value)[j]? = some u → W.cell? ⟨BB + 1 + 1, j, none⟩ = some u := fun j u hj => by
            have := new_cell ((wr.alloc (.cells (ic (⟨t1, (i : Int), t3, 3, t5, 1, t7⟩ : It)) 45)).alloc (.cells (cc c) 43)) #[.int .i64 y1, .int .i64 y3] 31 j
            rw [World.size_alloc, World.size_alloc, hBB] at this
            rw [← hW, this]; exact hj
          have cx0 : W.cell? ⟨BB + 1 + 1, 0, none⟩ = some (.int .i64 y1) := cx 0 _ rfl
          have cx1 : W.cell? ⟨BB + 1 + 1, 1, none⟩ = some (.int .i64 y3) := cx 1 _ rfl
          have d0 := (gW.cell (p := ⟨P + 1, 2, none⟩) (by simp only; omega)).trans h2c
          have d1 := (gW.cell (p := ⟨P + 1, 3, none⟩) (by simp only; omega)).trans h3c
          have d2 := (gW.cell (p := ⟨P + 1 + 1, 2, none⟩) (by simp only; omega)).trans g2c
          have d3 := (gW.cell (p := ⟨P + 1 + 1, 3, none⟩) (by simp only; omega)).trans g3c
          have l0 := (gW.frozen (p := ⟨P + 1, 2, none⟩) (by simp only; omega)).trans f0
          have l1 := (gW.frozen (p := ⟨P + 1, 3, none⟩) (by simp only; omega)).trans f1
          have l2 := (gW.frozen (p := ⟨P + 1 + 1, 2, none⟩) (by simp only; omega)).trans f2
          have l3 := (gW.frozen (p := ⟨P + 1 + 1, 3, none⟩) (by simp only; omega)).trans f3
          have HGW2 := hid gW
          have HRW := hid (HR.out.2.up gW)
          unfold ic cc at hW
          rw [hW]
          have hrG : W.heap[P + 1 + 1]? = some (.cells #[.int .i64 x2, .int .i64 x4, .int .i64 y2, .int .i64 y4] 32 (0, 0)) := HRW.out.2.1
          have hrH : W.heap[P + 1]? = some (.cells #[.int .i64 x1, .int .i64 x3, .int .i64 y1, .int .i64 y3] 32 (0, 0)) := HRW.out.1
          clear hW cq cx m0 pc0 f0 f1 f2 f3 h0c h1c h2c h3c g0c g1c g2c g3c n1 n2 n3 n4 HL2 HLI hBB d0 d1 d2 d3 l0 l1 l2 l3 gW
          refine room_reg1 BB (BB + 1) (BB + 1 + 1) (P + 1 + 1) (y1, y3) (y2, y4) (c.names, c.bytes) (.int .i64 x2) (.int .i64 x4) _ W rfl rfl rfl rfl rfl ⟨by omega, by omega, by omega⟩ hrG c5 c6 c7 cx0 cx1 (by simp only; omega) (by simp only; omega) fun w9 hr9 hb9 => ?_
          rw [fold15_1]
          have e5 : w9.cell? ⟨BB, 5, none⟩ = some (.int .i64 1) := hb9.cell c5 (show BB ≠ P + 1 + 1 by omega)
          have e6 : w9.cell? ⟨BB + 1, 6, none⟩ = some (.int .i64 c.names) := hb9.cell c6 (show BB + 1 ≠ P + 1 + 1 by omega)
          have e7 : w9.cell? ⟨BB + 1, 7, none⟩ = some (.int .i64 c.bytes) := hb9.cell c7 (show BB + 1 ≠ P + 1 + 1 by omega)
          have e8 : w9.cell? ⟨BB + 1, 8, none⟩ = some (.int .i64 c.hn) := hb9.cell c8 (show BB + 1 ≠ P + 1 + 1 by omega)
          have e9 : w9.cell? ⟨BB + 1, 9, none⟩ = some (.int .i64 c.hb) := hb9.cell c9 (show BB + 1 ≠ P + 1 + 1 by omega)
          have ex0 : w9.cell? ⟨BB + 1 + 1, 0, none⟩ = some (.int .i64 y1) := hb9.cell cx0 (show BB + 1 + 1 ≠ P + 1 + 1 by omega)
          have ex1 : w9.cell? ⟨BB + 1 + 1, 1, none⟩ = some (.int .i64 y3) := hb9.cell cx1 (show BB + 1 + 1 ≠ P + 1 + 1 by omega)
          have hH9 : w9.heap[P + 1]? = some (.cells #[.int .i64 x1, .int .i64 x3, .int .i64 y1, .int .i64 y3] 32 (0, 0)) := (hb9.block (P + 1) (Array.getElem?_eq_some_iff.1 hrH).1 (by omega)).trans hrH
          have d0 := cell_of_row w9 (P + 1) 2 _ _ _ hH9
          have d1 := cell_of_row w9 (P + 1) 3 _ _ _ hH9
          have l0 := frozen_of_row w9 (P + 1) 2 _ _ hH9
          have l1 := frozen_of_row w9 (P + 1) 3 _ _ hH9
          simp only [List.getElem?_toArray, List.getElem?_cons_zero, List.getElem?_cons_succ] at d0 d1
          have HEND : Hid (G w6 ((w9.setCell ⟨P + 1, 2, none⟩ (.int .i64 (y1 + c.names - c.hn))).setCell ⟨P + 1, 3, none⟩ (.int .i64 (y3 + c.bytes - c.hb))) ∧ RoomS ((w9.setCell ⟨P + 1, 2, none⟩ (.int .i64 (y1 + c.names - c.hn))).setCell ⟨P + 1, 3, none⟩ (.int .i64 (y3 + c.bytes - c.hb))) (P + 1) (P + 1 + 1) (acc C p.items 0 (k + 1)) (acc C p.items 1 (k + 1))) := by
            have hbb : But (P + 1) w9 ((w9.setCell ⟨P + 1, 2, none⟩ (.int .i64 (y1 + c.names - c.hn))).setCell ⟨P + 1, 3, none⟩ (.int .i64 (y3 + c.bytes - c.hb))) := ((But.refl _ w9).setCell _ _).setCell _ _
            have g1 : G w6 w9 := (HR.out.1.up HGW2.out).trans (hb9.below (by have := HZ6.out; omega) (HR.out.1.up HGW2.out).size)
            refine ⟨g1.trans (hbb.below (Nat.le_of_eq HZ6.out) g1.size), ?_, ?_, by omega⟩
            · rw [heap_setCell_same _ _ _ _ _ _ (heap_setCell_same _ _ _ _ _ _ hH9), E1.out, E2.out]
              simp
            · rw [hbb.block (P + 1 + 1) (Array.getElem?_eq_some_iff.1 hr9).1 (by omega), hr9, E1.out, E2.out]
              simp only [mx_if]
          clear hr9 hb9 hH9 hrG hrH c5 c6 c7 c8 c9 cx0 cx1
          go_simp
          go_wp2
          go_roundw
          case rel => exact ⟨k + 1, by omega, by go_num, HEND.out⟩
          case measure => simp [intOf]; omega
      · have e3 : (t.what != 3) = true := by simp [hwh]
        have E1 : Hid (acc C p.items 0 (k + 1) = acc C p.items 0 k) := acc_skip ht (fun e => hwh e.2)
        have E2 : Hid (acc C p.items 1 (k + 1) = acc C p.items 1 k) := acc_skip ht (fun e => hwh e.2)
        clear ht hwh
        go_upto_region 12 with (first
          | ((with_reducible refine wpList_execW (.agg (ic t)) wr ?_ ?_ ?_); exact exec_load 45 _ rfl gi (oi + k * 7) (ic t) _ rfl _ HLI.out under45 rfl size45; kernel_rfl)
          | ((with_reducible refine wpList_execW (.pointer (some ⟨BB, 0, none⟩)) (wr.alloc (.cells z45 45)) ?_ ?_ ?_); exact exec_allocT 45 z45 rfl zero45 _ _ hBB; kernel_rfl)
          | ((with_reducible refine wpList_skipW (wr.alloc (.cells (ic t) 45)) ?_ ?_ ?_); exact exec_fill 45 _ _ rfl (ic t) z45 wr (by rw [hBB]; rfl) rfl size45 rfl (ic_one t); kernel_rfl; unfold ic))
        go_wp2
        go_roundw
        case rel => exact ⟨k + 1, by omega, by go_num, HR.out.1.up (G.al _ _), by rw [E1.out, E2.out]; exact HR.out.2.up (G.al _ _)⟩
        case measure => simp [intOf]; omega
    · obtain rfl : k = ti := by omega
      obtain ⟨⟨⟨x1, x2⟩, ⟨x3, x4⟩⟩, hX⟩ : ∃ q, acc C p.items 0 k = q := ⟨_, rfl⟩
      obtain ⟨⟨⟨y1, y2⟩, ⟨y3, y4⟩⟩, hY⟩ : ∃ q, acc C p.items 1 k = q := ⟨_, rfl⟩
      obtain ⟨z1, z2, z3, z4⟩ := HND.out
      rw [hX] at z1 z2
      rw [hY] at z3 z4
      have hR := HR.out.2
      rw [hX, hY] at hR
      have pv := hLS.pv
      unfold pCells at pv
      simp only at z1 z2 z3 z4
      rw [z1, z2, z3, z4] at pv
      have pc2 := cell_of_row wr P 2 _ _ _ pv
      have pc3 := cell_of_row wr P 3 _ _ _ pv
      have pc4 := cell_of_row wr P 4 _ _ _ pv
      have pc5 := cell_of_row wr P 5 _ _ _ pv
      have g0c := cell_of_row wr (P + 1 + 1) 0 _ _ _ hR.2.1
      have g1c := cell_of_row wr (P + 1 + 1) 1 _ _ _ hR.2.1
      have g2c := cell_of_row wr (P + 1 + 1) 2 _ _ _ hR.2.1
      have g3c := cell_of_row wr (P + 1 + 1) 3 _ _ _ hR.2.1
      simp only [List.getElem?_toArray, List.getElem?_cons_zero, List.getElem?_cons_succ] at pc2 pc3 pc4 pc5 g0c g1c g2c g3c
      have heq := fun W => eq32 x2 x4 y2 y4 W
      have HE := hid hLS.hg
      clear hR pv hLS z1 z2 z3 z4 hX hY
      go_wp2
      go_ret
      exact ⟨rfl, HE.out⟩
end Go.Proofs.Ytpenaeoodfgmpaa
