/-
  twineref15.Of by contract.
-/
import Derived.Test.YtpenaeoodfgmpaaGreatDoorRefO
namespace Go.Proofs.YtpenaeoodfgmpaaGreatDoor
open Go.RowKit

def z55 : Array Value := #[.slice none 0 0, .slice none 0 0, .int .i64 0, .int .i64 0, .int .i64 0, .int .i64 0]
theorem zero55 : (Tryz.prog.info? 55).bind (·.zero) = some (.agg z55) := by kernel_rfl
theorem mkI_cnt (n k : Nat) (c : Cd) : mkI n k (cnt c) = mkI n k c := rfl
theorem don_cnt (c : Cd) : don (cnt c) = don c := rfl
set_option maxHeartbeats 8000000 in
set_option maxRecDepth 100000 in
theorem rOf_any (ao : Option Addr) (cp : Nat) (L : List Cd) (most : Int) (w : World) (hv : HasC w (.slice ao L.length cp) L) (hn : L.length ≤ 400) :
    Calls Tryz.prog 6 #[.agg #[.slice ao L.length cp], .int .i64 most] w fun e w' => ∃ vi vl, e = .returned (.agg (pRow vi vl (planF L most).na (planF L most).ba (planF L most).nb (planF L most).bb)) ∧ OwnsI w' w.heap.size vi (planF L most).items ∧ OwnsN w' w.heap.size vl (planF L most).left ∧ G w w' := by
  obtain ⟨n, hn'⟩ : ∃ n, L.length = n := ⟨_, rfl⟩
  obtain ⟨M, hM⟩ : ∃ M, w.heap.size = M := ⟨_, rfl⟩
  obtain ⟨C, hC⟩ : ∃ C, L.map cnt = C := ⟨_, rfl⟩
  obtain ⟨B, hB⟩ : ∃ B, leave C (cap most) = B := ⟨_, rfl⟩
  obtain ⟨T, hT⟩ : ∃ T, its C B n = T := ⟨_, rfl⟩
  have hCn : C.length = n := by rw [← hC, List.length_map, hn']
  have hBn : B.length = n := by rw [← hB, leave_len, hCn]
  have HPL : Hid (planF L most = ⟨T, pls B n, (acc C T 0 T.length).1.2, (acc C T 0 T.length).2.2, (acc C T 1 T.length).1.2, (acc C T 1 T.length).2.2⟩) := by
    unfold planF Hid
    simp only [hC, hB, hBn, hCn, hT]
  have HOK : Hid (∀ c ∈ L, c.ok) := hv.choose_spec.choose_spec.2.2
  have HTC : Hid (∀ t ∈ T, ∃ (i : Nat) (c : Cd), L[i]? = some c ∧ t.cell = (i : Int)) := by
    intro t ht
    rw [← hT] at ht
    obtain ⟨i, c, h1, h2, h3⟩ := its_cell C B n t ht
    rw [← hC, List.getElem?_map] at h2
    obtain ⟨d, hd, _⟩ := Option.map_eq_some_iff.1 h2
    exact ⟨i, d, hd, h3⟩
  have hTl : T.length ≤ n := by rw [← hT]; exact its_len C B n
  obtain ⟨w0, hw0⟩ : ∃ w0, (w.alloc (.cells #[.slice ao L.length cp] 24)).alloc (.cells z55 55) = w0 := ⟨_, rfl⟩
  have hG0 : G w w0 := by rw [← hw0]; exact (G.al _ _).up (G.al _ _)
  have hm0 : w0.heap[M]? = some (.cells #[.slice ao L.length cp] 24 (0, 0)) := by
    rw [← hw0, ← hM]
    exact ((G.al (w.alloc (.cells #[.slice ao L.length cp] 24)) (.cells z55 55)).block _ (by simp)).trans (heap_alloc_new _ _)
  have hr0 : w0.heap[M + 1]? = some (.cells z55 55 (0, 0)) := by
    rw [← hw0, ← hM]
    have := heap_alloc_new (w.alloc (.cells #[.slice ao L.length cp] 24)) (.cells z55 55)
    rw [World.size_alloc] at this
    exact this
  have A17 := hid (rLeft_any ao cp L most w0 (hv.up hG0) hn)
  rw [hC, hB] at A17
  have A18 := hid (fun W bo cq v bs h1 h2 => rneed_any ao bo cp cq L T v bs W h1 h2 (by omega) HTC.out)
  rw [hC] at A18
  have HV := hid hv
  have H0 := hid (And.intro hG0 (And.intro hm0 hr0))
  have HN := hid (And.intro hn' (And.intro hCn (And.intro hBn hC)))
  have HTT := hid hT
  have HMM := hid hM
  obtain ⟨H, hH⟩ : ∃ H, w0.heap.size = H := ⟨_, rfl⟩
  have hHM : H = M + 1 + 1 := by rw [← hH, ← hw0]; simp [hM]
  have HH := hid (And.intro hH hHM)
  rw [hH] at A17
  rw [hn'] at hn A17 A18 HV H0 hw0 ⊢
  have k0 : w0.cell? ⟨M, 0, none⟩ = some (.slice ao n cp) := cell_of_row _ _ 0 _ _ _ H0.out.2.1
  clear hv hn' hC hB hT hCn hBn hG0 hm0 hr0 hH hHM
  go_enter Tryz.func6, Tryz.ntmps6
  go_upto_region 1 with ((with_reducible refine wpList_execW (.pointer (some ⟨M + 1, 0, none⟩)) w0 ?_ ?_ ?_); exact (by rw [← hw0]; exact exec_allocT 55 z55 rfl zero55 _ _ (by simp [hM])); kernel_rfl)
  clear hM hw0
  go_upto_region 2 with (go_at_call 17; refine A17.out.mono ?_; rintro e w1 ⟨rfl, hrow, hg1⟩; have H1 := hid (And.intro hrow hg1); clear hrow hg1)
  obtain ⟨PB, hPB⟩ : ∃ PB, w1.heap.size = PB := ⟨_, rfl⟩
  have hs1 := H1.out.2.size
  have hHP : H < PB := by rw [← hPB]; exact (Array.getElem?_eq_some_iff.1 H1.out.1).1
  have HS0 : Hid (PS w1 (w1.alloc (.cells z55 55)) PB (.slice none 0 0) (.slice none 0 0) [] []) := by
    refine ⟨by rw [← hPB]; exact heap_alloc_new _ _, World.ownsRow_nil _ _ _ _, World.ownsRow_nil _ _ _ _, .inl rfl, ?_⟩
    rw [← hPB]
    exact G.al w1 (.cells z55 55)
  obtain ⟨w2, hw2⟩ : ∃ w2, w1.alloc (.cells z55 55) = w2 := ⟨_, rfl⟩
  rw [hw2] at HS0
  have HPB := hid hPB
  have HB1 : Hid (∀ wr, Below PB w1 wr → G w wr ∧ wr.heap[M]? = some (.cells #[.slice ao n cp] 24 (0, 0)) ∧ wr.heap[M + 1]? = some (.cells z55 55 (0, 0)) ∧ RowB wr H B) := by
    intro wr hb
    have h1 := H1.out.2
    have e1 := HH.out.2
    refine ⟨(H0.out.1.up h1).trans (hb.mono ?_), (hb.block M (by omega)).trans ((h1.block M (Array.getElem?_eq_some_iff.1 H0.out.2.1).1).trans H0.out.2.1), (hb.block (M + 1) (by omega)).trans ((h1.block (M + 1) (Array.getElem?_eq_some_iff.1 H0.out.2.2).1).trans H0.out.2.2), (hb.block H hHP).trans H1.out.1⟩
    rw [HMM.out]; omega
  obtain ⟨i0, hi, hz0, hz1, hz2⟩ := info_parts Tryz.info3
  obtain ⟨j0, hj, hy0, hy1, hy2⟩ := info_parts Tryz.info45
  go_upto_region 3 with ((with_reducible refine wpList_execW (.pointer (some ⟨PB, 0, none⟩)) w2 ?_ ?_ ?_); exact (by rw [← hw2]; exact exec_allocT 55 z55 rfl zero55 _ _ hPB); kernel_rfl)
  clear hw2 hPB hs1 k0 A17
  go_wp2
  go_loopg [7] n (fun gh i wr => ∃ (k : Nat) (vi vl : Value), k ≤ n ∧ gh = n - k ∧ i = .int .i64 (k : Int) ∧ Hid (PS w1 wr PB vi vl (its C B k) (pls B k)))
  case atStart => exact ⟨0, _, _, Nat.zero_le _, rfl, rfl, HS0.out⟩
  case round =>
    clear HS0
    obtain ⟨k, vi, vl, hk, rfl, rfl, HR⟩ := hrel
    obtain ⟨ai, ci, ei⟩ := owns_form HR.out.oi
    obtain ⟨al, cl, el⟩ := owns_form HR.out.ol
    have hb := HB1.out wr HR.out.gr
    obtain ⟨K, hK⟩ : ∃ K, (its C B k).length = K := ⟨_, rfl⟩
    obtain ⟨J, hJ⟩ : ∃ J, (pls B k).length = J := ⟨_, rfl⟩
    rw [hK] at ei
    rw [hJ] at el
    subst ei el
    have HKJ := hid (And.intro hK hJ)
    have hKb := its_len C B k
    have hJb := pls_len B k
    have m0 : wr.cell? ⟨M, 0, none⟩ = some (.slice ao n cp) := cell_of_row _ _ 0 _ _ _ hb.2.1
    by_cases hlt : k < n
    · obtain ⟨c, hc⟩ : ∃ c, L[k]? = some c := ⟨L[k]'(by rw [HN.out.1]; exact hlt), by simp⟩
      obtain ⟨bb, hbb⟩ : ∃ bb, B[k]? = some bb := ⟨B[k]'(by rw [HN.out.2.2.1]; exact hlt), by simp⟩
      obtain ⟨g, o, rfl, hl⟩ := hasC_at (HV.out.up hb.1) hc
      have HL := hid hl
      have qb := hb.2.2.2.at hbb
      have hCk : C[k]? = some (cnt c) := by rw [← HN.out.2.2.2, List.getElem?_map, hc]; rfl
      have hok := HOK.out c (List.mem_of_getElem? hc)
      obtain ⟨BB, hBB⟩ : ∃ BB, wr.heap.size = BB := ⟨_, rfl⟩
      obtain ⟨w6, hw6⟩ : ∃ w6, wr.alloc (.cells (cc c) 62) = w6 := ⟨_, rfl⟩
      have g6 : G wr w6 := by rw [← hw6]; exact G.al _ _
      have s6 : w6.heap.size = BB + 1 := by rw [← hw6]; simp [hBB]
      have HR6 := hid (HR.out.up g6)
      have hHlt : H < wr.heap.size := (Array.getElem?_eq_some_iff.1 hb.2.2.2).1
      have qb6 := (g6.cell (p := ⟨H, k, none⟩) (by simpa using hHlt)).trans qb
      have cqq : ∀ i u, (cc c)[i]? = some u → w6.cell? ⟨BB, i, none⟩ = some u := fun i u hi => by
        rw [← hw6, ← hBB, new_cell]; exact hi
      have c0 : w6.cell? ⟨BB, 0, none⟩ = some (.string c.path) := cqq 0 _ rfl
      have c1 : w6.cell? ⟨BB, 1, none⟩ = some (.int .i64 c.what) := cqq 1 _ rfl
      have c2 : w6.cell? ⟨BB, 2, none⟩ = some (.int .i64 c.side) := cqq 2 _ rfl
      have c3 : w6.cell? ⟨BB, 3, none⟩ = some (.int .i64 c.mode) := cqq 3 _ rfl
      have p0 : w6.cell? ⟨PB, 0, none⟩ = some (.slice ai K ci) := cell_of_row _ _ 0 _ _ _ HR6.out.pv
      have p1 : w6.cell? ⟨PB, 1, none⟩ = some (.slice al J cl) := cell_of_row _ _ 1 _ _ _ HR6.out.pv
      have kI : (k : Int) < (n : Int) := by omega
      have kz : (0 : Int) ≤ (k : Int) := by omega
      have HB6 := hid hb
      have HG6 := hid g6
      have HS6 := hid s6
      rw [hK] at hKb
      rw [hJ] at hJb
      clear hl qb cqq g6 hc hK hJ hb hHlt
      go_upto_region 7 with (first
          | ((with_reducible refine wpList_execW (.agg (cc c)) wr ?_ ?_ ?_); exact exec_load 62 _ rfl g (o + k * 10) (cc c) _ rfl _ HL.out under43 rfl size43; kernel_rfl)
          | ((with_reducible refine wpList_execW (.pointer (some ⟨BB, 0, none⟩)) (wr.alloc (.cells z43 62)) ?_ ?_ ?_); exact exec_allocT 62 z43 rfl zero43 _ _ hBB; kernel_rfl)
          | ((with_reducible refine wpList_skipW (wr.alloc (.cells (cc c) 62)) ?_ ?_ ?_); exact exec_fill 62 _ _ rfl (cc c) z43 wr (by rw [hBB]; rfl) rfl size43 rfl (cc_one c); kernel_rfl; rw [hw6]))
      clear hw6 hBB m0 HL s6
      go_simp
      cases bb with
      | true =>
        have HPL2 := hid (pls_yes hbb)
        have HIL2 := hid (its_left hCk hbb)
        have HO : Hid (OwnsN (w6.alloc (.cells #[.int .i64 (k : Int)] 3)) (PB + 1) (.slice al J cl) (pls B k)) := HR6.out.ol.up (G.al _ _)
        obtain ⟨B1, hB1⟩ : ∃ B1, w6.heap.size = B1 := ⟨_, rfl⟩
        have hPl : PB < B1 := by rw [← hB1]; exact World.block_lt_of_cell? w6 _ p0
        have nPB : ¬ PB = B1 := by omega
        have HJL : Hid ((pls B k).length = J) := HKJ.out.2
        clear hbb hCk
        go_upto_region 8 with fail
        go_wp2_with (at_builtin; refine wpList_append_lies _ rfl _ _ _ rfl (PB + 1) 3 i0 _ 1 8 Tryz.underlying28 hi hz0 hz1 hz2 rfl (by omega) (.slice al J cl) (pls B k).length (flat nc (pls B k)) rfl HO.out ⟨B1, 0, none⟩ 1 1 (nc (k : Int)).toList rfl rfl ?c1 ?c2 (by omega) (by have := HJL.out; unfold maxLen; omega) (by have := HJL.out; omega) ?c3 (B1 + 1) ?c4 ?_)
        case c1 =>
          intro i u hj
          match i, hj with
          | 0, hj => simp [nc] at hj; subst hj; rw [← hB1]; simp [Addr.add]
        case c2 => intro u hu; simp [nc] at hu; subst hu; rfl
        case c3 => simp; omega
        case c4 => simp [hB1]
        intro g2 cap2 w3 hown hgr hat hlt2
        have hPv := (G.al w6 (.cells #[.int .i64 (k : Int)] 3)).block PB (Array.getElem?_eq_some_iff.1 HR6.out.pv).1 |>.trans HR6.out.pv
        have hpw : w3.heap[PB]? = some (.cells (pRow (.slice ai K ci) (.slice al J cl) 0 0 0 0) 55 (0, 0)) := (hgr.block PB (Array.getElem?_eq_some_iff.1 hPv).1 (fun e => own_ne HO.out (Nat.lt_succ_self PB) e.symm)).trans hPv
        have pc := cell_of_row w3 PB 1 _ _ _ hpw
        have pf := frozen_of_row w3 PB 1 _ _ hpw
        simp only [pRow, List.getElem?_toArray, List.getElem?_cons_zero, List.getElem?_cons_succ] at pc
        have HE := hid (HR6.out.putN (G.al _ _) hown hgr (by
          rcases hat with h | h
          · exact .inl h
          · exact .inr (by simp [hB1]; omega)))
        clear hown hgr hat hPv hpw
        go_wp2
        go_roundg (n - (k + 1))
        case measure => omega
        case rel => exact ⟨k + 1, _, _, by omega, rfl, by go_num, by rw [HIL2.out, HPL2.out]; exact HE.out⟩
      | false =>
        have HPL2 := hid (pls_no hbb)
        have HY : Hid (don c = true → its C B (k + 1) = its C B k ++ [mkI K k c]) := fun h => by
          have := its_yes hCk hbb (by rw [don_cnt]; exact h)
          rw [mkI_cnt, HKJ.out.1] at this
          exact this
        have HNO : Hid (don c = false → its C B (k + 1) = its C B k) := fun h => its_not hCk (by rw [don_cnt]; exact h)
        obtain ⟨dc, hdc⟩ : ∃ dc, don c = dc := ⟨_, rfl⟩
        have HDC : Hid (((c.what == 3 || c.what == 2) && (c.side == 1 || c.side == 2)) = dc) := by
          rw [← hdc]; unfold don; congr 2
        have HDD := hid hdc
        clear hbb hCk hdc
        go_upto_region 9 with fail
        go_cut [54] (fun s w' => s = .bool (!dc) ∧ w6 = w')
        case first =>
          have hdb := HDC.out
          cases b1 : (c.what == 3) with
          | true =>
            have n1 : (c.what != 3) = false := by simpa using b1
            cases b3 : (c.side == 1) with
            | true =>
              have n3 : (c.side != 1) = false := by simpa using b3
              rw [b1, b3] at hdb
              simp at hdb
              subst hdb
              go_wp2
              go_meet
              exact ⟨rfl, rfl⟩
            | false =>
              have n3 : (c.side != 1) = true := by simpa using b3
              have n4 : (c.side != 2) = !dc := by rw [← hdb, b1, b3]; simp [bne]
              go_wp2
              go_meet
              exact ⟨rfl, rfl⟩
          | false =>
            have n1 : (c.what != 3) = true := by simpa using b1
            cases b2 : (c.what == 2) with
            | false =>
              have n2 : (c.what != 2) = true := by simpa using b2
              rw [b1, b2] at hdb
              simp at hdb
              subst hdb
              go_wp2
              go_meet
              exact ⟨rfl, rfl⟩
            | true =>
              have n2 : (c.what != 2) = false := by simpa using b2
              cases b3 : (c.side == 1) with
              | true =>
                have n3 : (c.side != 1) = false := by simpa using b3
                rw [b1, b2, b3] at hdb
                simp at hdb
                subst hdb
                go_wp2
                go_meet
                exact ⟨rfl, rfl⟩
              | false =>
                have n3 : (c.side != 1) = true := by simpa using b3
                have n4 : (c.side != 2) = !dc := by rw [← hdb, b1, b2, b3]; simp [bne]
                go_wp2
                go_meet
                exact ⟨rfl, rfl⟩
        case rest =>
        obtain ⟨rfl, rfl⟩ := hcut
        cases dc with
        | false =>
          have HIL2 := hid (HNO.out HDD.out)
          go_wp2
          go_roundg (n - (k + 1))
          case measure => omega
          case rel => exact ⟨k + 1, _, _, by omega, rfl, by go_num, by rw [HIL2.out, HPL2.out]; exact HR6.out⟩
        | true =>
          have HIL2 := hid (HY.out HDD.out)
          have hdd : (c.what = 3 ∨ c.what = 2) ∧ (c.side = 1 ∨ c.side = 2) := by
            have := HDD.out
            simp only [don, Bool.and_eq_true, Bool.or_eq_true, decide_eq_true_eq] at this
            exact this
          obtain ⟨hwh, hsd⟩ := hdd
          have hs1 : 1 ≤ c.side := by omega
          have hs2 : c.side ≤ 2 := by omega
          obtain ⟨it0, hit0⟩ : ∃ it0 : It, it0 = ⟨(K : Int) + 1, (k : Int), c.path, c.what, c.side - 1, 2 - c.side, 0⟩ := ⟨_, rfl⟩
          obtain ⟨w7, hw7⟩ : ∃ w7, w6.alloc (.cells (ic it0) 71) = w7 := ⟨_, rfl⟩
          have s6 := HS6.out
          have g7 : G w6 w7 := by rw [← hw7]; exact G.al _ _
          have hi7 : w7.heap[BB + 1]? = some (.cells (ic it0) 71 (0, 0)) := by rw [← hw7, ← s6]; exact heap_alloc_new _ _
          have HI7 := hid hi7
          have HWS := hid (And.intro hwh hsd)
          have HR7 := hid (HR6.out.up g7)
          have hBlt : BB < w6.heap.size := by omega
          have d1 := (g7.cell (p := ⟨BB, 1, none⟩) (by simpa using hBlt)).trans c1
          have d3 := (g7.cell (p := ⟨BB, 3, none⟩) (by simpa using hBlt)).trans c3
          have HIT0 := hid hit0
          rw [hit0] at hw7
          clear hwh hsd hit0 g7 hi7 HY HNO HDC HDD hBlt
          go_upto_region 11 with (first
            | ((with_reducible refine wpList_execW (.pointer (some ⟨BB + 1, 0, none⟩)) (w6.alloc (.cells z45 71)) ?_ ?_ ?_); exact exec_allocT 71 z45 rfl zero45 _ _ s6; kernel_rfl)
            | ((with_reducible refine wpList_skipW (w6.alloc (.cells (ic ⟨(K : Int) + 1, (k : Int), c.path, c.what, c.side - 1, 2 - c.side, 0⟩) 71)) ?_ ?_ ?_); exact exec_fill 71 _ _ rfl (ic ⟨(K : Int) + 1, (k : Int), c.path, c.what, c.side - 1, 2 - c.side, 0⟩) z45 w6 (by rw [s6]; rfl) rfl size45 rfl (ic_one _); kernel_rfl; rw [hw7]))
          clear hw7 c0 c1 c2 c3 p0 p1 qb6
          go_simp
          have HX0 : Hid (∀ md, (if c.what = 2 then c.mode else 0) = md → (⟨(K : Int) + 1, (k : Int), c.path, c.what, c.side - 1, 2 - c.side, md⟩ : It) = mkI K k c) := by
            intro md hmd
            rw [← hmd]
            unfold mkI
            rcases HWS.out.2 with h | h <;> simp [h]
          have nBP : ¬ PB = BB + 1 := by have := HR6.out.pv; have := (Array.getElem?_eq_some_iff.1 this).1; omega
          cases b2 : (c.what == 2) with
          | false =>
            have e2 : ¬ c.what = 2 := by simpa using b2
            obtain ⟨md, hmd⟩ : ∃ md : Int, md = 0 := ⟨_, rfl⟩
            have HX := hid (HX0.out md (by rw [hmd, if_neg e2]))
            have HI8 : Hid (w7.heap[BB + 1]? = some (.cells (ic (mkI K k c)) 71 (0, 0))) := by rw [← HX.out, hmd, ← HIT0.out]; exact HI7.out
            have HR8 := HR7
            clear e2 hmd d3
            go_upto_region 13 with fail
            have HO : Hid (OwnsI (w7.alloc (.cells #[.int .i64 ((K : Int) + 1), .int .i64 (k : Int), .string c.path, .int .i64 c.what, .int .i64 (c.side - 1), .int .i64 (2 - c.side), .int .i64 md] 71)) (PB + 1) (.slice ai K ci) (its C B k)) := HR8.out.oi.up (G.al _ _)
            have p0 : w7.cell? ⟨PB, 0, none⟩ = some (.slice ai K ci) := cell_of_row _ _ 0 _ _ _ HR8.out.pv
            have hPl : PB < w7.heap.size := World.block_lt_of_cell? w7 _ p0
            have HLI : Hid (Lies w7 (BB + 1) 0 (ic (mkI K k c))) := fun j u hj => by rw [Nat.zero_add, cell_of_row _ _ j _ _ _ HI8.out]; exact hj
            obtain ⟨B1, hB1⟩ : ∃ B1, w7.heap.size = B1 := ⟨_, rfl⟩
            rw [hB1] at hPl
            have nPB : ¬ PB = B1 := by omega
            have HKL : Hid ((its C B k).length = K) := HKJ.out.1
            have hicE : ic (mkI K k c) = #[.int .i64 ((K : Int) + 1), .int .i64 (k : Int), .string c.path, .int .i64 c.what, .int .i64 (c.side - 1), .int .i64 (2 - c.side), .int .i64 md] := by
              rw [← HX.out]; rfl
            have HIC := hid hicE
            clear hicE
            go_wp2_with (first
              | ((with_reducible refine wpList_execW (.agg (ic (mkI K k c))) w7 ?_ ?_ ?_); exact exec_load 71 _ rfl (BB + 1) 0 (ic (mkI K k c)) _ rfl _ HLI.out under45 rfl size45; kernel_rfl; rw [HIC.out])
              | (at_builtin; refine wpList_append_lies _ rfl _ _ _ rfl (PB + 1) 71 j0 _ 7 64 Tryz.underlying50 hj hy0 hy1 hy2 rfl (by omega) (.slice ai K ci) (its C B k).length (flat ic (its C B k)) rfl HO.out ⟨B1, 0, none⟩ 1 1 (ic (mkI K k c)).toList rfl rfl ?c1 ?c2 (by omega) (by have := HKL.out; unfold maxLen; omega) (by have := HKL.out; omega) ?c3 (B1 + 1) ?c4 ?_))
            case c1 =>
              intro i u hj2
              rw [HIC.out] at hj2
              rw [addr_add, Nat.zero_add, ← hB1, new_cell]
              simpa using hj2
            case c2 => intro u hu; exact (Array.all_eq_true_iff_forall_mem.1 (ic_one (mkI K k c))) u (by simpa using hu)
            case c3 => simp; omega
            case c4 => simp [hB1]
            intro g2 cap2 w3 hown hgr hat hlt2
            have hPv := (G.al w7 (.cells #[.int .i64 ((K : Int) + 1), .int .i64 (k : Int), .string c.path, .int .i64 c.what, .int .i64 (c.side - 1), .int .i64 (2 - c.side), .int .i64 md] 71)).block PB (Array.getElem?_eq_some_iff.1 HR8.out.pv).1 |>.trans HR8.out.pv
            have hpw : w3.heap[PB]? = some (.cells (pRow (.slice ai K ci) (.slice al J cl) 0 0 0 0) 55 (0, 0)) := (hgr.block PB (Array.getElem?_eq_some_iff.1 hPv).1 (fun e => own_ne HO.out (Nat.lt_succ_self PB) e.symm)).trans hPv
            have pc := cell_of_row w3 PB 0 _ _ _ hpw
            have pf := frozen_of_row w3 PB 0 _ _ hpw
            simp only [pRow, List.getElem?_toArray, List.getElem?_cons_zero] at pc
            have HE := hid (HR8.out.putI (G.al _ _) hown hgr (by
              rcases hat with h | h
              · exact .inl h
              · exact .inr (by simp [hB1]; omega)))
            clear hown hgr hat hPv hpw
            go_wp2
            go_roundg (n - (k + 1))
            case measure => omega
            case rel => exact ⟨k + 1, _, _, by omega, rfl, by go_num, by rw [HIL2.out, HPL2.out]; exact HE.out⟩
          | true =>
            have e2 : c.what = 2 := by simpa using b2
            obtain ⟨md, hmd⟩ : ∃ md : Int, md = c.mode := ⟨_, rfl⟩
            have HX := hid (HX0.out md (by rw [hmd, if_pos e2]))
            have f6 := frozen_of_row w7 (BB + 1) 6 _ _ HI7.out
            have q6 : w7.cell? ⟨BB + 1, 6, none⟩ = some (.int .i64 0) := by rw [cell_of_row w7 (BB + 1) 6 _ _ _ HI7.out, HIT0.out]; rfl
            obtain ⟨w8, hw8⟩ : ∃ w8, w7.setCell ⟨BB + 1, 6, none⟩ (.int .i64 c.mode) = w8 := ⟨_, rfl⟩
            have HI8 : Hid (w8.heap[BB + 1]? = some (.cells (ic (mkI K k c)) 71 (0, 0))) := by
              rw [← hw8, heap_setCell_same _ _ _ _ _ _ HI7.out, ← HX.out, hmd, HIT0.out]; rfl
            have hb8 : But (BB + 1) w7 w8 := by rw [← hw8]; exact (But.refl _ w7).setCell 6 _
            have HR8 : Hid (PS w1 w8 PB (.slice ai K ci) (.slice al J cl) (its C B k) (pls B k)) := by
              have h := HR7.out
              have hlt7 := (Array.getElem?_eq_some_iff.1 h.pv).1
              have hne1 : (Value.slice ai K ci).ownBlock ≠ some (BB + 1) := fun e => by have := (World.ownsRow.lt HR6.out.oi _ e).2; omega
              have hne2 : (Value.slice al J cl).ownBlock ≠ some (BB + 1) := fun e => by have := (World.ownsRow.lt HR6.out.ol _ e).2; omega
              refine ⟨(hb8.block PB hlt7 nBP).trans h.pv, World.ownsRow.kept h.oi (but_grown hb8) (.inr hne1), World.ownsRow.kept h.ol (but_grown hb8) (.inr hne2), h.ne, h.gr.trans (hb8.below ?_ (Nat.le_of_lt hlt7))⟩
              have := (Array.getElem?_eq_some_iff.1 HR6.out.pv).1; omega
            clear e2
            go_upto_region 13 with fail
            clear hw8 hb8 f6 q6 hmd d1 d3
            have HO : Hid (OwnsI (w8.alloc (.cells #[.int .i64 ((K : Int) + 1), .int .i64 (k : Int), .string c.path, .int .i64 c.what, .int .i64 (c.side - 1), .int .i64 (2 - c.side), .int .i64 md] 71)) (PB + 1) (.slice ai K ci) (its C B k)) := HR8.out.oi.up (G.al _ _)
            have p0 : w8.cell? ⟨PB, 0, none⟩ = some (.slice ai K ci) := cell_of_row _ _ 0 _ _ _ HR8.out.pv
            have hPl : PB < w8.heap.size := World.block_lt_of_cell? w8 _ p0
            have HLI : Hid (Lies w8 (BB + 1) 0 (ic (mkI K k c))) := fun j u hj => by rw [Nat.zero_add, cell_of_row _ _ j _ _ _ HI8.out]; exact hj
            obtain ⟨B1, hB1⟩ : ∃ B1, w8.heap.size = B1 := ⟨_, rfl⟩
            rw [hB1] at hPl
            have nPB : ¬ PB = B1 := by omega
            have HKL : Hid ((its C B k).length = K) := HKJ.out.1
            have hicE : ic (mkI K k c) = #[.int .i64 ((K : Int) + 1), .int .i64 (k : Int), .string c.path, .int .i64 c.what, .int .i64 (c.side - 1), .int .i64 (2 - c.side), .int .i64 md] := by
              rw [← HX.out]; rfl
            have HIC := hid hicE
            clear hicE
            go_wp2_with (first
              | ((with_reducible refine wpList_execW (.agg (ic (mkI K k c))) w8 ?_ ?_ ?_); exact exec_load 71 _ rfl (BB + 1) 0 (ic (mkI K k c)) _ rfl _ HLI.out under45 rfl size45; kernel_rfl; rw [HIC.out])
              | (at_builtin; refine wpList_append_lies _ rfl _ _ _ rfl (PB + 1) 71 j0 _ 7 64 Tryz.underlying50 hj hy0 hy1 hy2 rfl (by omega) (.slice ai K ci) (its C B k).length (flat ic (its C B k)) rfl HO.out ⟨B1, 0, none⟩ 1 1 (ic (mkI K k c)).toList rfl rfl ?c1 ?c2 (by omega) (by have := HKL.out; unfold maxLen; omega) (by have := HKL.out; omega) ?c3 (B1 + 1) ?c4 ?_))
            case c1 =>
              intro i u hj2
              rw [HIC.out] at hj2
              rw [addr_add, Nat.zero_add, ← hB1, new_cell]
              simpa using hj2
            case c2 => intro u hu; exact (Array.all_eq_true_iff_forall_mem.1 (ic_one (mkI K k c))) u (by simpa using hu)
            case c3 => simp; omega
            case c4 => simp [hB1]
            intro g2 cap2 w3 hown hgr hat hlt2
            have hPv := (G.al w8 (.cells #[.int .i64 ((K : Int) + 1), .int .i64 (k : Int), .string c.path, .int .i64 c.what, .int .i64 (c.side - 1), .int .i64 (2 - c.side), .int .i64 md] 71)).block PB (Array.getElem?_eq_some_iff.1 HR8.out.pv).1 |>.trans HR8.out.pv
            have hpw : w3.heap[PB]? = some (.cells (pRow (.slice ai K ci) (.slice al J cl) 0 0 0 0) 55 (0, 0)) := (hgr.block PB (Array.getElem?_eq_some_iff.1 hPv).1 (fun e => own_ne HO.out (Nat.lt_succ_self PB) e.symm)).trans hPv
            have pc := cell_of_row w3 PB 0 _ _ _ hpw
            have pf := frozen_of_row w3 PB 0 _ _ hpw
            simp only [pRow, List.getElem?_toArray, List.getElem?_cons_zero] at pc
            have HE := hid (HR8.out.putI (G.al _ _) hown hgr (by
              rcases hat with h | h
              · exact .inl h
              · exact .inr (by simp [hB1]; omega)))
            clear hown hgr hat hPv hpw
            go_wp2
            go_roundg (n - (k + 1))
            case measure => omega
            case rel => exact ⟨k + 1, _, _, by omega, rfl, by go_num, by rw [HIL2.out, HPL2.out]; exact HE.out⟩
    · obtain rfl : k = n := by omega
      have kI : ¬ (k : Int) < (k : Int) := by omega
      have hTK : K = T.length := by rw [← HTT.out, HKJ.out.1]
      subst hTK
      have HOI : Hid (OwnsI wr (PB + 1) (.slice ai T.length ci) T) := by have := HR.out.oi; rwa [HTT.out] at this
      obtain ⟨N0, hN0⟩ : ∃ N0, (acc C T 0 T.length).1.2 = N0 := ⟨_, rfl⟩
      obtain ⟨B0, hB0⟩ : ∃ B0, (acc C T 0 T.length).2.2 = B0 := ⟨_, rfl⟩
      obtain ⟨N1, hN1⟩ : ∃ N1, (acc C T 1 T.length).1.2 = N1 := ⟨_, rfl⟩
      obtain ⟨B1, hB1⟩ : ∃ B1, (acc C T 1 T.length).2.2 = B1 := ⟨_, rfl⟩
      rw [hN0, hB0, hN1, hB1] at HPL
      have HCN := hid (fun (v : Nat) (hv : v < 2) (bs : Bool) (W : World) (h1 : HasC W (.slice ao k cp) L) (h2 : HasI W (.slice ai T.length ci) T) => A18.out W ai ci (v : Int) bs h1 h2)
      have HAB : Hid (∀ (v : Nat), v < 2 → ∀ bs, (ab C T (v : Int) bs T.length).2 = if bs then (if v = 0 then B0 else B1) else (if v = 0 then N0 else N1)) := by
        intro v hv bs
        have : v = 0 ∨ v = 1 := by omega
        rcases this with rfl | rfl
        · cases bs
          · exact hN0
          · exact hB0
        · cases bs
          · exact hN1
          · exact hB1
      obtain ⟨tn, htn⟩ : ∃ tn, T.length = tn := ⟨_, rfl⟩
      have HS1 : Hid (wr.heap[PB]? = some (.cells (pRow (.slice ai tn ci) (.slice al J cl) 0 0 0 0) 55 (0, 0)) ∧ OwnsI wr (PB + 1) (.slice ai tn ci) T ∧ OwnsN wr (PB + 1) (.slice al J cl) (pls B k) ∧ Below PB w1 wr) := by
        rw [← htn]
        exact ⟨HR.out.pv, HOI.out, HR.out.ol, HR.out.gr⟩
      rw [htn] at HCN HAB
      have HTN := hid htn
      clear hN0 hB0 hN1 hB1 HR HOI hb htn hKb hJb
      go_wp2
      clear m0
      go_loopg [10] 2 (fun gh i wq => ∃ (v : Nat), v ≤ 2 ∧ gh = 2 - v ∧ i = .int .i64 (v : Int) ∧ Hid (wq.heap[PB]? = some (.cells (pRow (.slice ai tn ci) (.slice al J cl) (if 0 < v then N0 else 0) (if 0 < v then B0 else 0) (if 1 < v then N1 else 0) (if 1 < v then B1 else 0)) 55 (0, 0)) ∧ OwnsI wq (PB + 1) (.slice ai tn ci) T ∧ OwnsN wq (PB + 1) (.slice al J cl) (pls B k) ∧ Below PB w1 wq))
      case atStart => exact ⟨0, by omega, rfl, rfl, HS1.out⟩
      case round =>
        clear HS1
        obtain ⟨v, hv, rfl, rfl, HQ⟩ := hrel
        have hbq := HB1.out wr HQ.out.2.2.2
        by_cases hv2 : v < 2
        · have vI : (v : Int) < 2 := by omega
          obtain ⟨NN, hNN⟩ : ∃ NN, (if v = 0 then N0 else N1) = NN := ⟨_, rfl⟩
          obtain ⟨BT, hBT⟩ : ∃ BT, (if v = 0 then B0 else B1) = BT := ⟨_, rfl⟩
          have hC : ∀ (bs : Bool) (W : World), G wr W → Calls Tryz.prog 18 #[.agg #[.slice ao k cp], .slice ai tn ci, .int .i64 (v : Int), .bool bs] W fun e w' => e = .returned (.int .i64 (if bs then BT else NN)) ∧ G W w' := by
            intro bs W hW
            have h := HCN.out v hv2 bs W ((HV.out.up hbq.1).up hW) (HQ.out.2.1.has.up hW)
            rw [HAB.out v hv2 bs, hNN, hBT] at h
            exact h
          have HE : Hid (∀ w3, G wr w3 → (((w3.setCell ⟨PB, 2 + v * 2, none⟩ (.int .i64 NN)).setCell ⟨PB, 2 + v * 2 + 1, none⟩ (.int .i64 BT)).heap[PB]? = some (.cells (pRow (.slice ai tn ci) (.slice al J cl) (if 0 < v + 1 then N0 else 0) (if 0 < v + 1 then B0 else 0) (if 1 < v + 1 then N1 else 0) (if 1 < v + 1 then B1 else 0)) 55 (0, 0)) ∧ OwnsI ((w3.setCell ⟨PB, 2 + v * 2, none⟩ (.int .i64 NN)).setCell ⟨PB, 2 + v * 2 + 1, none⟩ (.int .i64 BT)) (PB + 1) (.slice ai tn ci) T ∧ OwnsN ((w3.setCell ⟨PB, 2 + v * 2, none⟩ (.int .i64 NN)).setCell ⟨PB, 2 + v * 2 + 1, none⟩ (.int .i64 BT)) (PB + 1) (.slice al J cl) (pls B k) ∧ Below PB w1 ((w3.setCell ⟨PB, 2 + v * 2, none⟩ (.int .i64 NN)).setCell ⟨PB, 2 + v * 2 + 1, none⟩ (.int .i64 BT)))) := by
            intro w3 hg3
            have hp3 := (hg3.block PB (Array.getElem?_eq_some_iff.1 HQ.out.1).1).trans HQ.out.1
            have hb3 : But PB w3 ((w3.setCell ⟨PB, 2 + v * 2, none⟩ (.int .i64 NN)).setCell ⟨PB, 2 + v * 2 + 1, none⟩ (.int .i64 BT)) := ((But.refl _ w3).setCell _ _).setCell _ _
            refine ⟨?_, owns_but (HQ.out.2.1.up hg3) hb3 (Nat.lt_succ_self PB), owns_but (HQ.out.2.2.1.up hg3) hb3 (Nat.lt_succ_self PB), (HQ.out.2.2.2.trans (hg3.mono (Nat.le_of_lt (Array.getElem?_eq_some_iff.1 HQ.out.1).1))).trans (hb3.below (Nat.le_refl _) (Nat.le_of_lt (Array.getElem?_eq_some_iff.1 hp3).1))⟩
            rw [heap_setCell_same _ _ _ _ _ _ (heap_setCell_same _ _ _ _ _ _ hp3)]
            have : v = 0 ∨ v = 1 := by omega
            rcases this with rfl | rfl
            · simp only [if_true] at hNN hBT
              subst hNN hBT
              rfl
            · simp at hNN hBT
              subst hNN hBT
              rfl
          have HHC := hid hC
          have HP1 := hid HQ.out.1
          clear hC
          go_upto_region 17 with fail
          refine of_reg M PB k cp tn ci v ao ai NN BT _ _ wr rfl rfl rfl rfl hv2 hbq.2.1 HP1.out rfl rfl HHC.out fun w3 hg3 => ?_
          rw [foldO]
          have HE3 := hid (HE.out w3 hg3)
          obtain ⟨w4, hw4⟩ : ∃ w4, (w3.setCell ⟨PB, 2 + v * 2, none⟩ (.int .i64 NN)).setCell ⟨PB, 2 + v * 2 + 1, none⟩ (.int .i64 BT) = w4 := ⟨_, rfl⟩
          rw [hw4] at HE3 ⊢
          clear hw4 HE hg3 HP1
          go_simp
          go_wp2
          go_roundg (2 - (v + 1))
          case measure => omega
          case rel => exact ⟨v + 1, by omega, rfl, by go_num, HE3.out⟩
        · obtain rfl : v = 2 := by omega
          have hp := HQ.out.1
          simp only [show (0 : Nat) < 2 by omega, show (1 : Nat) < 2 by omega, if_true] at hp
          have HLp : Hid (Lies wr PB 0 (pRow (.slice ai tn ci) (.slice al J cl) N0 B0 N1 B1)) := fun j u hj => by rw [Nat.zero_add, cell_of_row _ _ j _ _ _ hp]; exact hj
          have HP := hid hp
          have HRZ := hid hbq.2.2.1
          have hMP : M + 1 < PB := by have := HH.out.2; omega
          clear hp
          go_wp2_with (first
            | ((with_reducible refine wpList_execW (.agg (pRow (.slice ai tn ci) (.slice al J cl) N0 B0 N1 B1)) wr ?_ ?_ ?_); exact exec_load 55 _ rfl PB 0 (pRow (.slice ai tn ci) (.slice al J cl) N0 B0 N1 B1) _ rfl _ HLp.out under34 rfl size34; kernel_rfl)
            | ((with_reducible refine wpList_skipW (wr.setRow (M + 1) (pRow (.slice ai tn ci) (.slice al J cl) N0 B0 N1 B1)) ?_ ?_ ?_); exact exec_storeT 55 _ _ rfl (M + 1) (pRow (.slice ai tn ci) (.slice al J cl) N0 B0 N1 B1) z55 rfl rfl _ HRZ.out size34 rfl (by simp [pRow, Value.oneCell']); kernel_rfl))
          have hbZ : But (M + 1) wr (wr.setRow (M + 1) (pRow (.slice ai tn ci) (.slice al J cl) N0 B0 N1 B1)) := ⟨rfl, rfl, rfl, by simp [World.setRow], fun k _ hn => setRow_other wr _ _ _ hn⟩
          refine bodyPost_ret (results_cell_row (P := Tryz.prog) (p := 4) (ty := 55) rfl _ _ (M + 1) 55 (pRow (.slice ai tn ci) (.slice al J cl) N0 B0 N1 B1) (0, 0) _ rfl (setRow_heap wr _ _ _ _ _ HRZ.out) under34 rfl size34) rfl ⟨_, _, by rw [HPL.out], ?_, ?_, ?_⟩
          · rw [HPL.out]
            exact owns_low (owns_but HQ.out.2.1 hbZ (by omega)) (by rw [HMM.out]; omega)
          · rw [HPL.out]
            exact owns_low (owns_but HQ.out.2.2.1 hbZ (by omega)) (by rw [HMM.out]; omega)
          · exact hbq.1.trans (hbZ.below (by rw [HMM.out]; omega) hbq.1.size)
end Go.Proofs.YtpenaeoodfgmpaaGreatDoor
