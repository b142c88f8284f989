/-
  twineref4.own by contract.
-/
import Derived.Test.YtglnpmdigghibaaRight
namespace Go.Proofs.Ytglnpmdigghibaa
open Go.RowKit

/-- own, as the reference writes it -/
def ownR (kd : Int) (kids b0 b1 b2 b3 : Bool) : Int :=
  if kd < 1 ∨ 3 < kd ∨ (kd ≠ 1 ∧ kids = true) then 40 else if b0 = false ∨ b1 = false ∨ b2 = false ∨ (kd ≠ 2 ∧ b3 = true) then 41 else 0
theorem ownR_eq (v : Vd) (m : Md) (kids : Bool) : ownE v m kids = ownR v.kind kids (rightVB v) (rightMB m.n0 m.s0) (rightMB m.n1 m.s1) (!decide (m = Md.zero)) := by
  have hz : m = Md.zero → rightMB m.n0 m.s0 = true ∧ rightMB m.n1 m.s1 = true := by rintro rfl; exact ⟨rfl, rfl⟩
  unfold ownE ownR
  by_cases h1 : v.kind ≠ 1 ∧ v.kind ≠ 2 ∧ v.kind ≠ 3
  · rw [if_pos h1, if_pos (by omega)]
  · rw [if_neg h1]
    by_cases h2 : kids = true ∧ v.kind ≠ 1
    · rw [if_pos h2, if_pos (.inr (.inr ⟨h2.2, h2.1⟩))]
    · have h0 : ¬ (v.kind < 1 ∨ 3 < v.kind ∨ (v.kind ≠ 1 ∧ kids = true)) := by
        rintro (h | h | h)
        · omega
        · omega
        · exact h2 ⟨h.2, h.1⟩
      rw [if_neg h2, if_neg h0]
      by_cases h3 : rightVB v = false
      · rw [if_pos h3, if_pos (.inl h3)]
      · rw [if_neg h3]
        by_cases h4 : v.kind = 2
        · by_cases h5 : rightMB m.n0 m.s0 = false ∨ rightMB m.n1 m.s1 = false
          · rw [if_pos ⟨h4, h5⟩, if_pos (by rcases h5 with h | h; exact .inr (.inl h); exact .inr (.inr (.inl h)))]
          · rw [if_neg (fun h => h5 h.2), if_neg (fun h => h.1 h4), if_neg]
            rintro (h | h | h | h)
            · exact h3 h
            · exact h5 (.inl h)
            · exact h5 (.inr h)
            · exact h.1 h4
        · rw [if_neg (fun h => h4 h.1)]
          by_cases h6 : m = Md.zero
          · rw [if_neg (fun h => h.2 h6), if_neg]
            rintro (h | h | h | h)
            · exact h3 h
            · rw [(hz h6).1] at h; cases h
            · rw [(hz h6).2] at h; cases h
            · simp [h6] at h
          · rw [if_pos ⟨h4, h6⟩, if_pos (.inr (.inr (.inr ⟨h4, by simp [h6]⟩)))]

set_option maxRecDepth 100000 in
set_option maxHeartbeats 1000000 in
theorem own_any (v : Vd) (m : Md) (N : Nat) (X M : Array Value) (hX : X = (vx v).toArray) (hM : M = (mx m).toArray) (w : World) :
    Calls Try.prog 17 #[.agg X, .agg M, .int .i64 N] w fun e w' => e = .returned (.int .i64 (ownE v m (decide (0 < N)))) ∧ G w w' := by
  have HG : Hid (G w ((w.alloc (.cells X 24)).alloc (.cells M 27))) := (G.alloc w _).trans (G.alloc _ _)
  obtain ⟨lX, lM⟩ := boxes w X M
  have c0 := lies_cell lX 0 (.int .i64 v.kind) (by rw [hX]; rfl)
  have d0 := lies_cell lM 0 (.int .i64 m.n0) (by rw [hM]; rfl)
  have d1 := lies_cell lM 1 (.int .i64 m.s0) (by rw [hM]; rfl)
  have d2 := lies_cell lM 2 (.int .i64 m.n1) (by rw [hM]; rfl)
  have d3 := lies_cell lM 3 (.int .i64 m.s1) (by rw [hM]; rfl)
  have HX : Hid (Lies ((w.alloc (.cells X 24)).alloc (.cells M 27)) w.heap.size 0 X ∧ X.size = 35 ∧ Lies ((w.alloc (.cells X 24)).alloc (.cells M 27)) (w.heap.size + 1) 0 M ∧ M.size = 4 ∧ M = (mx m).toArray) := ⟨lX, by rw [hX]; simp [vx_len], lM, by rw [hM]; simp [mx_len], hM⟩
  obtain ⟨Z, hZ⟩ : ∃ Z, (mx Md.zero).toArray = Z := ⟨_, rfl⟩
  have HZ : Hid (Try.prog.built 27 [] = some Z ∧ Z = (mx Md.zero).toArray) := ⟨by rw [built27, hZ], hZ.symm⟩
  have HE := hid (rfl : ownE v m (decide (0 < N)) = ownE v m (decide (0 < N)))
  obtain ⟨R, hR⟩ : ∃ R, ownE v m (decide (0 < N)) = R := ⟨_, rfl⟩
  rw [hR]
  have HR : Hid (ownE v m (decide (0 < N)) = R) := hR
  obtain ⟨b0, hb0⟩ : ∃ b, rightVB v = b := ⟨_, rfl⟩
  obtain ⟨b1, hb1⟩ : ∃ b, rightMB m.n0 m.s0 = b := ⟨_, rfl⟩
  obtain ⟨b2, hb2⟩ : ∃ b, rightMB m.n1 m.s1 = b := ⟨_, rfl⟩
  obtain ⟨b3, hb3⟩ : ∃ b, (!decide (m = Md.zero)) = b := ⟨_, rfl⟩
  have HB := hid (⟨hb0, hb1, hb2, hb3⟩ : rightVB v = b0 ∧ rightMB m.n0 m.s0 = b1 ∧ rightMB m.n1 m.s1 = b2 ∧ (!decide (m = Md.zero)) = b3)
  have CR := hid (fun W => (by have := right_any v X hX W; rw [hb0] at this; exact this : Calls Try.prog 30 #[.agg X] W fun e w' => e = .returned (.bool b0) ∧ G W w'))
  have CA := hid (fun W => (by have := mark_any m.n0 m.s0 W; rw [hb1] at this; exact this : Calls Try.prog 31 #[.agg #[.int .i64 m.n0, .int .i64 m.s0]] W fun e w' => e = .returned (.bool b1) ∧ G W w'))
  have CB := hid (fun W => (by have := mark_any m.n1 m.s1 W; rw [hb2] at this; exact this : Calls Try.prog 31 #[.agg #[.int .i64 m.n1, .int .i64 m.s1]] W fun e w' => e = .returned (.bool b2) ∧ G W w'))
  clear hR hb0 hb1 hb2 hb3 hZ lX lM hX hM HE
  obtain ⟨kd, hkd⟩ : ∃ k, v.kind = k := ⟨_, rfl⟩
  have HK : Hid (v.kind = kd) := hkd
  rw [hkd] at c0
  clear hkd
  obtain ⟨n0, e0⟩ : ∃ k, m.n0 = k := ⟨_, rfl⟩
  obtain ⟨s0, e1⟩ : ∃ k, m.s0 = k := ⟨_, rfl⟩
  obtain ⟨n1, e2⟩ : ∃ k, m.n1 = k := ⟨_, rfl⟩
  obtain ⟨s1, e3⟩ : ∃ k, m.s1 = k := ⟨_, rfl⟩
  rw [e0] at d0 CA
  rw [e1] at d1 CA
  rw [e2] at d2 CB
  rw [e3] at d3 CB
  clear e0 e1 e2 e3
  go_enter Try.func17, Try.ntmps17
  go_upto_region 1 with fail
  generalize hw1 : (w.alloc (.cells X 24)).alloc (.cells M 27) = w1 at *
  generalize w.heap.size = H at *
  clear hw1
  have unfoldR : Hid (R = ownR v.kind (decide (0 < N)) b0 b1 b2 b3) := by
    show _ = _
    rw [← HR.out, ownR_eq v m _, HB.out.1, HB.out.2.1, HB.out.2.2.1, HB.out.2.2.2]
  by_cases l1 : kd < 1
  · have HF : Hid (R = 40) := by show _ = _; rw [unfoldR.out, HK.out, ownR, if_pos (.inl l1)]
    go_wp2_with fail
    go_ret
    exact ⟨by rw [HF.out]; rfl, HG.out⟩
  · by_cases l3 : 3 < kd
    · have HF : Hid (R = 40) := by show _ = _; rw [unfoldR.out, HK.out, ownR, if_pos (.inr (.inl l3))]
      go_wp2_with fail
      go_ret
      exact ⟨by rw [HF.out]; rfl, HG.out⟩
    · by_cases k1 : kd = 1
      · subst k1
        clear l1 l3
        cases b0 with
        | false =>
          have HF : Hid (R = 41) := by show _ = _; rw [unfoldR.out, HK.out]; simp [ownR]
          go_wp2_with (first
            | (with_reducible refine wpList_exec (.agg X) ?_ ?_ ?_; exact exec_load24 _ rfl H 0 rfl X HX.out.2.1 HX.out.1; kernel_rfl)
            | (go_at_call 30; refine (CR.out _).mono ?_; rintro e w2 ⟨rfl, g2⟩; have y0 := g2.cell c0; have y1 := g2.cell d0; have y2 := g2.cell d1; have y3 := g2.cell d2; have y4 := g2.cell d3; have HG2 : Hid (G w w2 ∧ Lies w2 (H + 1) 0 M) := ⟨HG.out.trans g2, g2.lies HX.out.2.2.1⟩; clear g2 c0 d0 d1 d2 d3))
          go_ret
          exact ⟨by rw [HF.out]; rfl, HG2.out.1⟩
        | true =>
          cases b1 with
          | false =>
            have HF : Hid (R = 41) := by show _ = _; rw [unfoldR.out, HK.out]; simp [ownR]
            go_wp2_with (first
              | (with_reducible refine wpList_exec (.agg X) ?_ ?_ ?_; exact exec_load24 _ rfl H 0 rfl X HX.out.2.1 HX.out.1; kernel_rfl)
              | (go_at_call 30; refine (CR.out _).mono ?_; rintro e w2 ⟨rfl, g2⟩; have y0 := g2.cell c0; have y1 := g2.cell d0; have y2 := g2.cell d1; have y3 := g2.cell d2; have y4 := g2.cell d3; have HG2 : Hid (G w w2 ∧ Lies w2 (H + 1) 0 M) := ⟨HG.out.trans g2, g2.lies HX.out.2.2.1⟩; clear g2 c0 d0 d1 d2 d3)
              | (go_at_call 31; refine (CA.out _).mono ?_; rintro e w3 ⟨rfl, g3⟩; have HG3 : Hid (G w w3 ∧ Lies w3 (H + 1) 0 M) := ⟨HG2.out.1.trans g3, g3.lies HG2.out.2⟩; have z0 := g3.cell y0; have z3 := g3.cell y3; have z4 := g3.cell y4; clear g3 y0 y1 y2 y3 y4))
            go_ret
            exact ⟨by rw [HF.out]; rfl, HG3.out.1⟩
          | true =>
            cases b2 with
            | false =>
              have HF : Hid (R = 41) := by show _ = _; rw [unfoldR.out, HK.out]; simp [ownR]
              go_wp2_with (first
                | (with_reducible refine wpList_exec (.agg X) ?_ ?_ ?_; exact exec_load24 _ rfl H 0 rfl X HX.out.2.1 HX.out.1; kernel_rfl)
                | (go_at_call 30; refine (CR.out _).mono ?_; rintro e w2 ⟨rfl, g2⟩; have y0 := g2.cell c0; have y1 := g2.cell d0; have y2 := g2.cell d1; have y3 := g2.cell d2; have y4 := g2.cell d3; have HG2 : Hid (G w w2 ∧ Lies w2 (H + 1) 0 M) := ⟨HG.out.trans g2, g2.lies HX.out.2.2.1⟩; clear g2 c0 d0 d1 d2 d3)
                | (go_at_call_of 31 (Value.agg #[Value.int .i64 n0, Value.int .i64 s0]); refine (CA.out _).mono ?_; clear CA; rintro e w3 ⟨rfl, g3⟩; have HG3 : Hid (G w w3 ∧ Lies w3 (H + 1) 0 M) := ⟨HG2.out.1.trans g3, g3.lies HG2.out.2⟩; have z0 := g3.cell y0; have z3 := g3.cell y3; have z4 := g3.cell y4; clear g3 y0 y1 y2 y3 y4)
                | (go_at_call 31; refine (CB.out _).mono ?_; rintro e w4 ⟨rfl, g4⟩; have HG4 : Hid (G w w4 ∧ Lies w4 (H + 1) 0 M) := ⟨HG3.out.1.trans g4, g4.lies HG3.out.2⟩; have x0 := g4.cell z0; clear g4 z0))
              go_ret
              exact ⟨by rw [HF.out]; rfl, HG4.out.1⟩
            | true =>
              cases b3 with
              | false =>
                have HF : Hid (R = 0) := by show _ = _; rw [unfoldR.out, HK.out]; simp [ownR]
                go_wp2_with (first
                  | (with_reducible refine wpList_exec (.agg X) ?_ ?_ ?_; exact exec_load24 _ rfl H 0 rfl X HX.out.2.1 HX.out.1; kernel_rfl)
                  | (go_at_call 30; refine (CR.out _).mono ?_; rintro e w2 ⟨rfl, g2⟩; have y0 := g2.cell c0; have y1 := g2.cell d0; have y2 := g2.cell d1; have y3 := g2.cell d2; have y4 := g2.cell d3; have HG2 : Hid (G w w2 ∧ Lies w2 (H + 1) 0 M) := ⟨HG.out.trans g2, g2.lies HX.out.2.2.1⟩; clear g2 c0 d0 d1 d2 d3)
                  | (go_at_call_of 31 (Value.agg #[Value.int .i64 n0, Value.int .i64 s0]); refine (CA.out _).mono ?_; clear CA; rintro e w3 ⟨rfl, g3⟩; have HG3 : Hid (G w w3 ∧ Lies w3 (H + 1) 0 M) := ⟨HG2.out.1.trans g3, g3.lies HG2.out.2⟩; have z0 := g3.cell y0; have z3 := g3.cell y3; have z4 := g3.cell y4; clear g3 y0 y1 y2 y3 y4)
                  | (go_at_call 31; refine (CB.out _).mono ?_; rintro e w4 ⟨rfl, g4⟩; have HG4 : Hid (G w w4 ∧ Lies w4 (H + 1) 0 M) := ⟨HG3.out.1.trans g4, g4.lies HG3.out.2⟩; have x0 := g4.cell z0; clear g4 z0)
                  | (with_reducible refine wpList_exec (.agg M) ?_ ?_ ?_; exact exec_load27 _ rfl (H + 1) 0 rfl M HX.out.2.2.2.1 HG4.out.2; kernel_rfl)
                  | (with_reducible refine wpList_exec (.agg Z) ?_ ?_ ?_; exact exec_build0 27 rfl Z HZ.out.1 _; kernel_rfl)
                  | (with_reducible refine wpList_exec (.bool false) ?_ ?_ ?_; exact exec_neq27' _ _ rfl M Z rfl rfl m Md.zero HX.out.2.2.2.2 HZ.out.2 false HB.out.2.2.2 _; kernel_rfl))
                go_ret
                exact ⟨by rw [HF.out]; rfl, HG4.out.1⟩
              | true =>
                have HF : Hid (R = 41) := by show _ = _; rw [unfoldR.out, HK.out]; simp [ownR]
                go_wp2_with (first
                  | (with_reducible refine wpList_exec (.agg X) ?_ ?_ ?_; exact exec_load24 _ rfl H 0 rfl X HX.out.2.1 HX.out.1; kernel_rfl)
                  | (go_at_call 30; refine (CR.out _).mono ?_; rintro e w2 ⟨rfl, g2⟩; have y0 := g2.cell c0; have y1 := g2.cell d0; have y2 := g2.cell d1; have y3 := g2.cell d2; have y4 := g2.cell d3; have HG2 : Hid (G w w2 ∧ Lies w2 (H + 1) 0 M) := ⟨HG.out.trans g2, g2.lies HX.out.2.2.1⟩; clear g2 c0 d0 d1 d2 d3)
                  | (go_at_call_of 31 (Value.agg #[Value.int .i64 n0, Value.int .i64 s0]); refine (CA.out _).mono ?_; clear CA; rintro e w3 ⟨rfl, g3⟩; have HG3 : Hid (G w w3 ∧ Lies w3 (H + 1) 0 M) := ⟨HG2.out.1.trans g3, g3.lies HG2.out.2⟩; have z0 := g3.cell y0; have z3 := g3.cell y3; have z4 := g3.cell y4; clear g3 y0 y1 y2 y3 y4)
                  | (go_at_call 31; refine (CB.out _).mono ?_; rintro e w4 ⟨rfl, g4⟩; have HG4 : Hid (G w w4 ∧ Lies w4 (H + 1) 0 M) := ⟨HG3.out.1.trans g4, g4.lies HG3.out.2⟩; have x0 := g4.cell z0; clear g4 z0)
                  | (with_reducible refine wpList_exec (.agg M) ?_ ?_ ?_; exact exec_load27 _ rfl (H + 1) 0 rfl M HX.out.2.2.2.1 HG4.out.2; kernel_rfl)
                  | (with_reducible refine wpList_exec (.agg Z) ?_ ?_ ?_; exact exec_build0 27 rfl Z HZ.out.1 _; kernel_rfl)
                  | (with_reducible refine wpList_exec (.bool true) ?_ ?_ ?_; exact exec_neq27' _ _ rfl M Z rfl rfl m Md.zero HX.out.2.2.2.2 HZ.out.2 true HB.out.2.2.2 _; kernel_rfl))
                go_ret
                exact ⟨by rw [HF.out]; rfl, HG4.out.1⟩
      · by_cases hn : 0 < N
        · have HF : Hid (R = 40) := by show _ = _; rw [unfoldR.out, HK.out, ownR, if_pos (.inr (.inr ⟨k1, by simpa using hn⟩))]
          have hn' : (0 : Int) < (N : Int) := by omega
          have k1' : (kd != 1) = true := by simpa using k1
          clear k1
          go_wp2_with fail
          go_ret
          exact ⟨by rw [HF.out]; rfl, HG.out⟩
        · have hn' : ¬ (0 : Int) < (N : Int) := by omega
          by_cases k2 : kd = 2
          · subst k2
            clear l1 l3 k1
            cases b0 with
            | false =>
              have HF : Hid (R = 41) := by show _ = _; rw [unfoldR.out, HK.out]; simp [ownR, hn]
              go_wp2_with (first
                | (with_reducible refine wpList_exec (.agg X) ?_ ?_ ?_; exact exec_load24 _ rfl H 0 rfl X HX.out.2.1 HX.out.1; kernel_rfl)
                | (go_at_call 30; refine (CR.out _).mono ?_; rintro e w2 ⟨rfl, g2⟩; have y0 := g2.cell c0; have y1 := g2.cell d0; have y2 := g2.cell d1; have y3 := g2.cell d2; have y4 := g2.cell d3; have HG2 : Hid (G w w2 ∧ Lies w2 (H + 1) 0 M) := ⟨HG.out.trans g2, g2.lies HX.out.2.2.1⟩; clear g2 c0 d0 d1 d2 d3))
              go_ret
              exact ⟨by rw [HF.out]; rfl, HG2.out.1⟩
            | true =>
              cases b1 with
              | false =>
                have HF : Hid (R = 41) := by show _ = _; rw [unfoldR.out, HK.out]; simp [ownR, hn]
                go_wp2_with (first
                  | (with_reducible refine wpList_exec (.agg X) ?_ ?_ ?_; exact exec_load24 _ rfl H 0 rfl X HX.out.2.1 HX.out.1; kernel_rfl)
                  | (go_at_call 30; refine (CR.out _).mono ?_; rintro e w2 ⟨rfl, g2⟩; have y0 := g2.cell c0; have y1 := g2.cell d0; have y2 := g2.cell d1; have y3 := g2.cell d2; have y4 := g2.cell d3; have HG2 : Hid (G w w2 ∧ Lies w2 (H + 1) 0 M) := ⟨HG.out.trans g2, g2.lies HX.out.2.2.1⟩; clear g2 c0 d0 d1 d2 d3)
                  | (go_at_call 31; refine (CA.out _).mono ?_; rintro e w3 ⟨rfl, g3⟩; have HG3 : Hid (G w w3 ∧ Lies w3 (H + 1) 0 M) := ⟨HG2.out.1.trans g3, g3.lies HG2.out.2⟩; have z0 := g3.cell y0; have z3 := g3.cell y3; have z4 := g3.cell y4; clear g3 y0 y1 y2 y3 y4))
                go_ret
                exact ⟨by rw [HF.out]; rfl, HG3.out.1⟩
              | true =>
                cases b2 with
                | false =>
                  have HF : Hid (R = 41) := by show _ = _; rw [unfoldR.out, HK.out]; simp [ownR, hn]
                  go_wp2_with (first
                    | (with_reducible refine wpList_exec (.agg X) ?_ ?_ ?_; exact exec_load24 _ rfl H 0 rfl X HX.out.2.1 HX.out.1; kernel_rfl)
                    | (go_at_call 30; refine (CR.out _).mono ?_; rintro e w2 ⟨rfl, g2⟩; have y0 := g2.cell c0; have y1 := g2.cell d0; have y2 := g2.cell d1; have y3 := g2.cell d2; have y4 := g2.cell d3; have HG2 : Hid (G w w2 ∧ Lies w2 (H + 1) 0 M) := ⟨HG.out.trans g2, g2.lies HX.out.2.2.1⟩; clear g2 c0 d0 d1 d2 d3)
                    | (go_at_call_of 31 (Value.agg #[Value.int .i64 n0, Value.int .i64 s0]); refine (CA.out _).mono ?_; clear CA; rintro e w3 ⟨rfl, g3⟩; have HG3 : Hid (G w w3 ∧ Lies w3 (H + 1) 0 M) := ⟨HG2.out.1.trans g3, g3.lies HG2.out.2⟩; have z0 := g3.cell y0; have z3 := g3.cell y3; have z4 := g3.cell y4; clear g3 y0 y1 y2 y3 y4)
                    | (go_at_call 31; refine (CB.out _).mono ?_; rintro e w4 ⟨rfl, g4⟩; have HG4 : Hid (G w w4 ∧ Lies w4 (H + 1) 0 M) := ⟨HG3.out.1.trans g4, g4.lies HG3.out.2⟩; have x0 := g4.cell z0; clear g4 z0))
                  go_ret
                  exact ⟨by rw [HF.out]; rfl, HG4.out.1⟩
                | true =>
                  have HF : Hid (R = 0) := by show _ = _; rw [unfoldR.out, HK.out]; simp [ownR, hn]
                  go_wp2_with (first
                    | (with_reducible refine wpList_exec (.agg X) ?_ ?_ ?_; exact exec_load24 _ rfl H 0 rfl X HX.out.2.1 HX.out.1; kernel_rfl)
                    | (go_at_call 30; refine (CR.out _).mono ?_; rintro e w2 ⟨rfl, g2⟩; have y0 := g2.cell c0; have y1 := g2.cell d0; have y2 := g2.cell d1; have y3 := g2.cell d2; have y4 := g2.cell d3; have HG2 : Hid (G w w2 ∧ Lies w2 (H + 1) 0 M) := ⟨HG.out.trans g2, g2.lies HX.out.2.2.1⟩; clear g2 c0 d0 d1 d2 d3)
                    | (go_at_call_of 31 (Value.agg #[Value.int .i64 n0, Value.int .i64 s0]); refine (CA.out _).mono ?_; clear CA; rintro e w3 ⟨rfl, g3⟩; have HG3 : Hid (G w w3 ∧ Lies w3 (H + 1) 0 M) := ⟨HG2.out.1.trans g3, g3.lies HG2.out.2⟩; have z0 := g3.cell y0; have z3 := g3.cell y3; have z4 := g3.cell y4; clear g3 y0 y1 y2 y3 y4)
                    | (go_at_call 31; refine (CB.out _).mono ?_; rintro e w4 ⟨rfl, g4⟩; have HG4 : Hid (G w w4 ∧ Lies w4 (H + 1) 0 M) := ⟨HG3.out.1.trans g4, g4.lies HG3.out.2⟩; have x0 := g4.cell z0; clear g4 z0))
                  go_ret
                  exact ⟨by rw [HF.out]; rfl, HG4.out.1⟩
          · obtain rfl : kd = 3 := by omega
            clear l1 l3 k1 k2
            cases b0 with
            | false =>
              have HF : Hid (R = 41) := by show _ = _; rw [unfoldR.out, HK.out]; simp [ownR, hn]
              go_wp2_with (first
                | (with_reducible refine wpList_exec (.agg X) ?_ ?_ ?_; exact exec_load24 _ rfl H 0 rfl X HX.out.2.1 HX.out.1; kernel_rfl)
                | (go_at_call 30; refine (CR.out _).mono ?_; rintro e w2 ⟨rfl, g2⟩; have y0 := g2.cell c0; have y1 := g2.cell d0; have y2 := g2.cell d1; have y3 := g2.cell d2; have y4 := g2.cell d3; have HG2 : Hid (G w w2 ∧ Lies w2 (H + 1) 0 M) := ⟨HG.out.trans g2, g2.lies HX.out.2.2.1⟩; clear g2 c0 d0 d1 d2 d3))
              go_ret
              exact ⟨by rw [HF.out]; rfl, HG2.out.1⟩
            | true =>
              cases b1 with
              | false =>
                have HF : Hid (R = 41) := by show _ = _; rw [unfoldR.out, HK.out]; simp [ownR, hn]
                go_wp2_with (first
                  | (with_reducible refine wpList_exec (.agg X) ?_ ?_ ?_; exact exec_load24 _ rfl H 0 rfl X HX.out.2.1 HX.out.1; kernel_rfl)
                  | (go_at_call 30; refine (CR.out _).mono ?_; rintro e w2 ⟨rfl, g2⟩; have y0 := g2.cell c0; have y1 := g2.cell d0; have y2 := g2.cell d1; have y3 := g2.cell d2; have y4 := g2.cell d3; have HG2 : Hid (G w w2 ∧ Lies w2 (H + 1) 0 M) := ⟨HG.out.trans g2, g2.lies HX.out.2.2.1⟩; clear g2 c0 d0 d1 d2 d3)
                  | (go_at_call 31; refine (CA.out _).mono ?_; rintro e w3 ⟨rfl, g3⟩; have HG3 : Hid (G w w3 ∧ Lies w3 (H + 1) 0 M) := ⟨HG2.out.1.trans g3, g3.lies HG2.out.2⟩; have z0 := g3.cell y0; have z3 := g3.cell y3; have z4 := g3.cell y4; clear g3 y0 y1 y2 y3 y4))
                go_ret
                exact ⟨by rw [HF.out]; rfl, HG3.out.1⟩
              | true =>
                cases b2 with
                | false =>
                  have HF : Hid (R = 41) := by show _ = _; rw [unfoldR.out, HK.out]; simp [ownR, hn]
                  go_wp2_with (first
                    | (with_reducible refine wpList_exec (.agg X) ?_ ?_ ?_; exact exec_load24 _ rfl H 0 rfl X HX.out.2.1 HX.out.1; kernel_rfl)
                    | (go_at_call 30; refine (CR.out _).mono ?_; rintro e w2 ⟨rfl, g2⟩; have y0 := g2.cell c0; have y1 := g2.cell d0; have y2 := g2.cell d1; have y3 := g2.cell d2; have y4 := g2.cell d3; have HG2 : Hid (G w w2 ∧ Lies w2 (H + 1) 0 M) := ⟨HG.out.trans g2, g2.lies HX.out.2.2.1⟩; clear g2 c0 d0 d1 d2 d3)
                    | (go_at_call_of 31 (Value.agg #[Value.int .i64 n0, Value.int .i64 s0]); refine (CA.out _).mono ?_; clear CA; rintro e w3 ⟨rfl, g3⟩; have HG3 : Hid (G w w3 ∧ Lies w3 (H + 1) 0 M) := ⟨HG2.out.1.trans g3, g3.lies HG2.out.2⟩; have z0 := g3.cell y0; have z3 := g3.cell y3; have z4 := g3.cell y4; clear g3 y0 y1 y2 y3 y4)
                    | (go_at_call 31; refine (CB.out _).mono ?_; rintro e w4 ⟨rfl, g4⟩; have HG4 : Hid (G w w4 ∧ Lies w4 (H + 1) 0 M) := ⟨HG3.out.1.trans g4, g4.lies HG3.out.2⟩; have x0 := g4.cell z0; clear g4 z0))
                  go_ret
                  exact ⟨by rw [HF.out]; rfl, HG4.out.1⟩
                | true =>
                  cases b3 with
                  | false =>
                    have HF : Hid (R = 0) := by show _ = _; rw [unfoldR.out, HK.out]; simp [ownR, hn]
                    go_wp2_with (first
                      | (with_reducible refine wpList_exec (.agg X) ?_ ?_ ?_; exact exec_load24 _ rfl H 0 rfl X HX.out.2.1 HX.out.1; kernel_rfl)
                      | (go_at_call 30; refine (CR.out _).mono ?_; rintro e w2 ⟨rfl, g2⟩; have y0 := g2.cell c0; have y1 := g2.cell d0; have y2 := g2.cell d1; have y3 := g2.cell d2; have y4 := g2.cell d3; have HG2 : Hid (G w w2 ∧ Lies w2 (H + 1) 0 M) := ⟨HG.out.trans g2, g2.lies HX.out.2.2.1⟩; clear g2 c0 d0 d1 d2 d3)
                      | (go_at_call_of 31 (Value.agg #[Value.int .i64 n0, Value.int .i64 s0]); refine (CA.out _).mono ?_; clear CA; rintro e w3 ⟨rfl, g3⟩; have HG3 : Hid (G w w3 ∧ Lies w3 (H + 1) 0 M) := ⟨HG2.out.1.trans g3, g3.lies HG2.out.2⟩; have z0 := g3.cell y0; have z3 := g3.cell y3; have z4 := g3.cell y4; clear g3 y0 y1 y2 y3 y4)
                      | (go_at_call 31; refine (CB.out _).mono ?_; rintro e w4 ⟨rfl, g4⟩; have HG4 : Hid (G w w4 ∧ Lies w4 (H + 1) 0 M) := ⟨HG3.out.1.trans g4, g4.lies HG3.out.2⟩; have x0 := g4.cell z0; clear g4 z0)
                      | (with_reducible refine wpList_exec (.agg M) ?_ ?_ ?_; exact exec_load27 _ rfl (H + 1) 0 rfl M HX.out.2.2.2.1 HG4.out.2; kernel_rfl)
                      | (with_reducible refine wpList_exec (.agg Z) ?_ ?_ ?_; exact exec_build0 27 rfl Z HZ.out.1 _; kernel_rfl)
                      | (with_reducible refine wpList_exec (.bool false) ?_ ?_ ?_; exact exec_neq27' _ _ rfl M Z rfl rfl m Md.zero HX.out.2.2.2.2 HZ.out.2 false HB.out.2.2.2 _; kernel_rfl))
                    go_ret
                    exact ⟨by rw [HF.out]; rfl, HG4.out.1⟩
                  | true =>
                    have HF : Hid (R = 41) := by show _ = _; rw [unfoldR.out, HK.out]; simp [ownR, hn]
                    go_wp2_with (first
                      | (with_reducible refine wpList_exec (.agg X) ?_ ?_ ?_; exact exec_load24 _ rfl H 0 rfl X HX.out.2.1 HX.out.1; kernel_rfl)
                      | (go_at_call 30; refine (CR.out _).mono ?_; rintro e w2 ⟨rfl, g2⟩; have y0 := g2.cell c0; have y1 := g2.cell d0; have y2 := g2.cell d1; have y3 := g2.cell d2; have y4 := g2.cell d3; have HG2 : Hid (G w w2 ∧ Lies w2 (H + 1) 0 M) := ⟨HG.out.trans g2, g2.lies HX.out.2.2.1⟩; clear g2 c0 d0 d1 d2 d3)
                      | (go_at_call_of 31 (Value.agg #[Value.int .i64 n0, Value.int .i64 s0]); refine (CA.out _).mono ?_; clear CA; rintro e w3 ⟨rfl, g3⟩; have HG3 : Hid (G w w3 ∧ Lies w3 (H + 1) 0 M) := ⟨HG2.out.1.trans g3, g3.lies HG2.out.2⟩; have z0 := g3.cell y0; have z3 := g3.cell y3; have z4 := g3.cell y4; clear g3 y0 y1 y2 y3 y4)
                      | (go_at_call 31; refine (CB.out _).mono ?_; rintro e w4 ⟨rfl, g4⟩; have HG4 : Hid (G w w4 ∧ Lies w4 (H + 1) 0 M) := ⟨HG3.out.1.trans g4, g4.lies HG3.out.2⟩; have x0 := g4.cell z0; clear g4 z0)
                      | (with_reducible refine wpList_exec (.agg M) ?_ ?_ ?_; exact exec_load27 _ rfl (H + 1) 0 rfl M HX.out.2.2.2.1 HG4.out.2; kernel_rfl)
                      | (with_reducible refine wpList_exec (.agg Z) ?_ ?_ ?_; exact exec_build0 27 rfl Z HZ.out.1 _; kernel_rfl)
                      | (with_reducible refine wpList_exec (.bool true) ?_ ?_ ?_; exact exec_neq27' _ _ rfl M Z rfl rfl m Md.zero HX.out.2.2.2.2 HZ.out.2 true HB.out.2.2.2 _; kernel_rfl))
                    go_ret
                    exact ⟨by rw [HF.out]; rfl, HG4.out.1⟩
end Go.Proofs.Ytglnpmdigghibaa
