/-
  twineref4.Right and mark by contract.
-/
import Derived.Test.YtglnpmdigghibaaOwnF
namespace Go.Proofs.Ytglnpmdigghibaa
open Go.RowKit

set_option maxRecDepth 100000 in
set_option maxHeartbeats 1000000 in
theorem right_any (v : Vd) (X : Array Value) (hX : X = (vx v).toArray) (w : World) : Calls Try.prog 30 #[.agg X] w fun e w' => e = .returned (.bool (rightVB v)) ∧ G w w' := by
  have HG : Hid (G w (w.alloc (.cells X 24))) := G.alloc _ _
  have hl := lies_new w X 24
  have c0 := lies_cell hl 0 (.int .i64 v.kind) (by rw [hX]; rfl)
  have c1 := lies_cell hl 1 (.int .i64 v.mode) (by rw [hX]; rfl)
  have c2 := lies_cell hl 2 (.int .i64 v.size) (by rw [hX]; rfl)
  have x0 : X[0]? = some (.int .i64 v.kind) := by rw [hX]; rfl
  have x1 : X[1]? = some (.int .i64 v.mode) := by rw [hX]; rfl
  have x2 : X[2]? = some (.int .i64 v.size) := by rw [hX]; rfl
  obtain ⟨S, hS⟩ : ∃ S, (v.sum.map vb).toArray = S := ⟨_, rfl⟩
  have HL : Hid (Lies (w.alloc (.cells X 24)) w.heap.size 3 S ∧ S.size = 32 ∧ S = (v.sum.map vb).toArray) := by
    refine ⟨?_, by rw [← hS]; simp [v.len], hS.symm⟩
    have := hl.part 3 (3 + 32)
    rw [hX, vx_sum, hS] at this
    rw [hX]
    simpa using this
  obtain ⟨Z, hZ⟩ : ∃ Z, (zeros.map vb).toArray = Z := ⟨_, rfl⟩
  have HZ : Hid (Try.prog.built 22 [] = some Z ∧ Z = (zeros.map vb).toArray) := ⟨by rw [built22, hZ], hZ.symm⟩
  have HV : Hid (v.sum.length = 32) := v.len
  obtain ⟨R, hR⟩ : ∃ R, rightVB v = R := ⟨_, rfl⟩
  rw [hR]
  have HR : Hid (rightVB v = R) := hR
  obtain ⟨b4, hb4⟩ : ∃ b, decide (v.sum = zeros) = b := ⟨_, rfl⟩
  have HB4 := hid hb4
  clear hR hb4 hZ hS hl hX
  obtain ⟨kd, hkd⟩ : ∃ k, v.kind = k := ⟨_, rfl⟩
  obtain ⟨md, hmd⟩ : ∃ k, v.mode = k := ⟨_, rfl⟩
  obtain ⟨sz, hsz⟩ : ∃ k, v.size = k := ⟨_, rfl⟩
  have HK : Hid (v.kind = kd ∧ v.mode = md ∧ v.size = sz) := ⟨hkd, hmd, hsz⟩
  rw [hkd] at c0 x0
  rw [hmd] at c1 x1
  rw [hsz] at c2 x2
  clear hkd hmd hsz
  by_cases k1 : kd = 1
  · subst k1
    by_cases a1 : 0 ≤ md
    · by_cases a2 : md ≤ 8
      · by_cases a3 : sz = 0
        · subst a3
          have HF : Hid (R = b4) := by
            show _ = _
            rw [← HR.out, rightVB, if_pos HK.out.1]; simp only [HK.out.2.1, HK.out.2.2]; simp only [a1, a2, true_and, HB4.out]
          go_enter Try.func30, Try.ntmps30
          go_wp2_with (first
            | (with_reducible refine wpList_exec (.agg S) ?_ ?_ ?_; exact exec_load22 _ rfl w.heap.size 3 rfl S HL.out.2.1 HL.out.1; kernel_rfl)
            | (with_reducible refine wpList_exec (.agg Z) ?_ ?_ ?_; exact exec_build0 22 rfl Z HZ.out.1 _; kernel_rfl)
            | (with_reducible refine wpList_exec (.bool b4) ?_ ?_ ?_; exact exec_eq22' _ _ rfl S Z rfl rfl v.sum zeros HL.out.2.2 HZ.out.2 HV.out rfl b4 HB4.out _; kernel_rfl))
          go_ret
          exact ⟨by rw [HF.out]; rfl, HG.out⟩
        · have HF : Hid (R = false) := by
            show _ = _
            rw [← HR.out, rightVB, if_pos HK.out.1]; simp only [HK.out.2.1, HK.out.2.2]; simp; omega
          go_enter Try.func30, Try.ntmps30
          go_wp2_with fail
          go_ret
          exact ⟨by rw [HF.out]; rfl, HG.out⟩
      · have HF : Hid (R = false) := by
          show _ = _
          rw [← HR.out, rightVB, if_pos HK.out.1]; simp only [HK.out.2.1, HK.out.2.2]; simp; omega
        go_enter Try.func30, Try.ntmps30
        go_wp2_with fail
        go_ret
        exact ⟨by rw [HF.out]; rfl, HG.out⟩
    · have HF : Hid (R = false) := by
        show _ = _
        rw [← HR.out, rightVB, if_pos HK.out.1]; simp only [HK.out.2.1, HK.out.2.2]; simp; omega
      go_enter Try.func30, Try.ntmps30
      go_wp2_with fail
      go_ret
      exact ⟨by rw [HF.out]; rfl, HG.out⟩
  · by_cases k2 : kd = 2
    · subst k2
      by_cases a1 : 0 ≤ md
      · by_cases a2 : md ≤ 8
        · by_cases a3 : 0 ≤ sz
          · by_cases a4 : sz ≤ 1099511627775
            · have HF : Hid (R = true) := by
                show _ = _
                rw [← HR.out, rightVB, if_neg (by rw [HK.out.1]; simp), if_pos HK.out.1]; simp only [HK.out.2.1, HK.out.2.2]; simp [a1, a2, a3, a4]
              go_enter Try.func30, Try.ntmps30
              go_wp2_with fail
              go_ret
              exact ⟨by rw [HF.out]; rfl, HG.out⟩
            · have HF : Hid (R = false) := by
                show _ = _
                rw [← HR.out, rightVB, if_neg (by rw [HK.out.1]; simp), if_pos HK.out.1]; simp only [HK.out.2.1, HK.out.2.2]; simp; omega
              go_enter Try.func30, Try.ntmps30
              go_wp2_with fail
              go_ret
              exact ⟨by rw [HF.out]; rfl, HG.out⟩
          · have HF : Hid (R = false) := by
              show _ = _
              rw [← HR.out, rightVB, if_neg (by rw [HK.out.1]; simp), if_pos HK.out.1]; simp only [HK.out.2.1, HK.out.2.2]; simp; omega
            go_enter Try.func30, Try.ntmps30
            go_wp2_with fail
            go_ret
            exact ⟨by rw [HF.out]; rfl, HG.out⟩
        · have HF : Hid (R = false) := by
            show _ = _
            rw [← HR.out, rightVB, if_neg (by rw [HK.out.1]; simp), if_pos HK.out.1]; simp only [HK.out.2.1, HK.out.2.2]; simp; omega
          go_enter Try.func30, Try.ntmps30
          go_wp2_with fail
          go_ret
          exact ⟨by rw [HF.out]; rfl, HG.out⟩
      · have HF : Hid (R = false) := by
          show _ = _
          rw [← HR.out, rightVB, if_neg (by rw [HK.out.1]; simp), if_pos HK.out.1]; simp only [HK.out.2.1, HK.out.2.2]; simp; omega
        go_enter Try.func30, Try.ntmps30
        go_wp2_with fail
        go_ret
        exact ⟨by rw [HF.out]; rfl, HG.out⟩
    · by_cases k3 : kd = 3
      · subst k3
        by_cases a1 : md = 0
        · by_cases a3 : 1 ≤ sz
          · by_cases a4 : sz ≤ 4095
            · subst a1
              have HF : Hid (R = true) := by
                show _ = _
                rw [← HR.out, rightVB, if_neg (by rw [HK.out.1]; simp), if_neg (by rw [HK.out.1]; simp), if_pos HK.out.1]; simp only [HK.out.2.1, HK.out.2.2]; simp [a3, a4]
              go_enter Try.func30, Try.ntmps30
              go_wp2_with fail
              go_ret
              exact ⟨by rw [HF.out]; rfl, HG.out⟩
            · have HF : Hid (R = false) := by
                show _ = _
                rw [← HR.out, rightVB, if_neg (by rw [HK.out.1]; simp), if_neg (by rw [HK.out.1]; simp), if_pos HK.out.1]; simp only [HK.out.2.1, HK.out.2.2]; simp; omega
              go_enter Try.func30, Try.ntmps30
              go_wp2_with fail
              go_ret
              exact ⟨by rw [HF.out]; rfl, HG.out⟩
          · have HF : Hid (R = false) := by
              show _ = _
              rw [← HR.out, rightVB, if_neg (by rw [HK.out.1]; simp), if_neg (by rw [HK.out.1]; simp), if_pos HK.out.1]; simp only [HK.out.2.1, HK.out.2.2]; simp; omega
            go_enter Try.func30, Try.ntmps30
            go_wp2_with fail
            go_ret
            exact ⟨by rw [HF.out]; rfl, HG.out⟩
        · have HF : Hid (R = false) := by
            show _ = _
            rw [← HR.out, rightVB, if_neg (by rw [HK.out.1]; simp), if_neg (by rw [HK.out.1]; simp), if_pos HK.out.1]; simp only [HK.out.2.1, HK.out.2.2]; simp; omega
          go_enter Try.func30, Try.ntmps30
          go_wp2_with fail
          go_ret
          exact ⟨by rw [HF.out]; rfl, HG.out⟩
      · have HF : Hid (R = false) := by
          show _ = _
          rw [← HR.out, rightVB, if_neg (by rw [HK.out.1]; exact k1), if_neg (by rw [HK.out.1]; exact k2), if_neg (by rw [HK.out.1]; exact k3)]
        have k1' : (kd == 1) = false := by simpa using k1
        have k2' : (kd == 2) = false := by simpa using k2
        have k3' : (kd == 3) = false := by simpa using k3
        clear k1 k2 k3
        go_enter Try.func30, Try.ntmps30
        go_wp2_with fail
        go_ret
        exact ⟨by rw [HF.out]; rfl, HG.out⟩

set_option maxRecDepth 100000 in
set_option maxHeartbeats 1000000 in
theorem mark_any (n s : Int) (w : World) : Calls Try.prog 31 #[.agg #[.int .i64 n, .int .i64 s]] w fun e w' => e = .returned (.bool (rightMB n s)) ∧ G w w' := by
  have HG : Hid (G w (w.alloc (.cells #[.int .i64 n, .int .i64 s] 26))) := G.alloc _ _
  obtain ⟨R, hR⟩ : ∃ R, rightMB n s = R := ⟨_, rfl⟩
  have HR := hid hR
  rw [hR]
  clear hR
  by_cases z : n = 0 ∧ s = 0
  · obtain ⟨rfl, rfl⟩ := z
    have HF : Hid (R = true) := by show _ = _; rw [← HR.out]; rfl
    go_enter Try.func31, Try.ntmps31
    go_wp2_with fail
    go_ret
    exact ⟨by rw [HF.out]; rfl, HG.out⟩
  · have HZ : Hid (¬ (n = 0 ∧ s = 0)) := z
    by_cases z0 : n = 0
    · subst z0
      have zs : (s == 0) = false := by simpa using z
      have HF : Hid (R = false) := by show _ = _; rw [← HR.out, rightMB]; simp; simpa using zs
      clear z
      go_enter Try.func31, Try.ntmps31
      go_wp2_with fail
      go_ret
      exact ⟨by rw [HF.out]; rfl, HG.out⟩
    · have z0' : (n == 0) = false := by simpa using z0
      clear z
      by_cases a1 : 1 ≤ n
      · by_cases a2 : n ≤ 72057594037927935
        · by_cases a3 : 1 ≤ s
          · by_cases a4 : s ≤ 72057594037927935
            · have HF : Hid (R = true) := by show _ = _; rw [← HR.out, rightMB]; simp; omega
              clear z0
              go_enter Try.func31, Try.ntmps31
              go_wp2_with fail
              go_ret
              exact ⟨by rw [HF.out]; rfl, HG.out⟩
            · have HF : Hid (R = false) := by show _ = _; rw [← HR.out, rightMB]; simp; omega
              clear z0
              go_enter Try.func31, Try.ntmps31
              go_wp2_with fail
              go_ret
              exact ⟨by rw [HF.out]; rfl, HG.out⟩
          · have HF : Hid (R = false) := by show _ = _; rw [← HR.out, rightMB]; simp; omega
            clear z0
            go_enter Try.func31, Try.ntmps31
            go_wp2_with fail
            go_ret
            exact ⟨by rw [HF.out]; rfl, HG.out⟩
        · have HF : Hid (R = false) := by show _ = _; rw [← HR.out, rightMB]; simp; omega
          clear z0
          go_enter Try.func31, Try.ntmps31
          go_wp2_with fail
          go_ret
          exact ⟨by rw [HF.out]; rfl, HG.out⟩
      · have HF : Hid (R = false) := by show _ = _; rw [← HR.out, rightMB]; simp; omega
        clear z0
        go_enter Try.func31, Try.ntmps31
        go_wp2_with fail
        go_ret
        exact ⟨by rw [HF.out]; rfl, HG.out⟩
end Go.Proofs.Ytglnpmdigghibaa
