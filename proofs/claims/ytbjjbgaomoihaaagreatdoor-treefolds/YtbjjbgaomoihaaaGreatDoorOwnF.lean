import Derived.Test.YtbjjbgaomoihaaaGreatDoorTree
set_option maxRecDepth 100000
set_option maxHeartbeats 1000000
namespace Go.Proofs.YtbjjbgaomoihaaaGreatDoor
open Go.RowKit
def rightMB (n s : Int) : Bool := decide ((n = 0 ∧ s = 0) ∨ ((1 ≤ n ∧ n ≤ 72057594037927935) ∧ (1 ≤ s ∧ s ≤ 72057594037927935)))
def zeros : List Nat := List.replicate 32 0
def rightVB (v : Vd) : Bool :=
  if v.kind = 1 then decide ((0 ≤ v.mode ∧ v.mode ≤ 8) ∧ v.size = 0 ∧ v.sum = zeros)
  else if v.kind = 2 then decide ((0 ≤ v.mode ∧ v.mode ≤ 8) ∧ (0 ≤ v.size ∧ v.size ≤ 1099511627775))
  else if v.kind = 3 then decide (v.mode = 0 ∧ (1 ≤ v.size ∧ v.size ≤ 4095)) else false
def Md.zero : Md := ⟨0, 0, 0, 0⟩
def ownE (v : Vd) (m : Md) (kids : Bool) : Int :=
  if v.kind ≠ 1 ∧ v.kind ≠ 2 ∧ v.kind ≠ 3 then 40 else if kids = true ∧ v.kind ≠ 1 then 40 else if rightVB v = false then 41
  else if v.kind = 2 ∧ (rightMB m.n0 m.s0 = false ∨ rightMB m.n1 m.s1 = false) then 41 else if v.kind ≠ 2 ∧ m ≠ Md.zero then 41 else 0
theorem within_any (n a b : Int) (w : World) : Calls Tryz.prog 135 #[.int .i64 n, .int .i64 a, .int .i64 b] w fun e w' => e = .returned (.bool (decide (a ≤ n ∧ n ≤ b))) ∧ w' = w := by
  by_cases h1 : a ≤ n
  · by_cases h2 : n ≤ b
    · have hr : decide (a ≤ n ∧ n ≤ b) = true := by simp [h1, h2]
      rw [hr]
      go_enter Tryz.func135, Tryz.ntmps135
      go_wp2
      go_ret
      exact ⟨rfl, rfl⟩
    · have hr : decide (a ≤ n ∧ n ≤ b) = false := by simp [h2]
      rw [hr]
      go_enter Tryz.func135, Tryz.ntmps135
      go_wp2
      go_ret
      exact ⟨rfl, rfl⟩
  · have hr : decide (a ≤ n ∧ n ≤ b) = false := by simp [h1]
    rw [hr]
    go_enter Tryz.func135, Tryz.ntmps135
    go_wp2
    go_ret
    exact ⟨rfl, rfl⟩
theorem exec_eq26' {o : Oper} {a : Act} (x y : Operand) (ho : o.op = .binOp .eql 26 x y 26) (n s n' s' : Int) (hx : a.eval x = .agg #[.int .i64 n, .int .i64 s]) (hy : a.eval y = .agg #[.int .i64 n', .int .i64 s']) (b : Bool) (hb : decide (n = n' ∧ s = s') = b) (w : World) :
    (execOp a.eval o).run Tryz.prog w = .ok (.value (.bool b)) w := by
  have h' : (Op.equal 26 (.agg #[.int .i64 n, .int .i64 s]) (.agg #[.int .i64 n', .int .i64 s'])).run Tryz.prog w = .ok b w := by rw [← hb]; exact eq26 9998 n s n' s' w
  have hg : Tryz.prog.eqGuardType Tryz.prog.depth 26 = false := by kernel_rfl
  unfold execOp
  simp only [ho, hx, hy, eqGuard, binOp, Sem.run_bind]
  simp [Result.andThen, hg, h']
theorem rightMark_any (n s : Int) (w : World) : Calls Tryz.prog 89 #[.agg #[.int .i64 n, .int .i64 s]] w fun e w' => e = .returned (.bool (rightMB n s)) ∧ G w w' := by
  have C := fun W x => within_any x 1 72057594037927935 W
  have HG : Hid (G w (w.alloc (.cells #[.int .i64 n, .int .i64 s] 26))) := G.alloc _ _
  obtain ⟨b1, hb1⟩ : ∃ b, decide (n = 0 ∧ s = 0) = b := ⟨_, rfl⟩
  have B1 := hid hb1
  obtain ⟨b2, hb2⟩ : ∃ b, decide (1 ≤ n ∧ n ≤ 72057594037927935) = b := ⟨_, rfl⟩
  obtain ⟨b3, hb3⟩ : ∃ b, decide (1 ≤ s ∧ s ≤ 72057594037927935) = b := ⟨_, rfl⟩
  have CA := hid (fun W => (by have := C W n; rw [hb2] at this; exact this : Calls Tryz.prog 135 #[.int .i64 n, .int .i64 1, .int .i64 72057594037927935] W fun e w' => e = .returned (.bool b2) ∧ w' = W))
  have CB := hid (fun W => (by have := C W s; rw [hb3] at this; exact this : Calls Tryz.prog 135 #[.int .i64 s, .int .i64 1, .int .i64 72057594037927935] W fun e w' => e = .returned (.bool b3) ∧ w' = W))
  obtain ⟨R, hR⟩ : ∃ R, rightMB n s = R := ⟨_, rfl⟩
  have HR : Hid (R = (b1 || (b2 && b3))) := by
    show _ = _
    rw [← hR, ← hb1, ← hb2, ← hb3]
    unfold rightMB
    simp only [Bool.decide_or, Bool.decide_and]
  rw [hR]
  clear hb1 hb2 hb3 hR C
  cases b1 with
  | true =>
    go_enter Tryz.func89, Tryz.ntmps89
    go_wp2_with (with_reducible refine wpList_exec (.bool true) ?_ ?_ ?_; exact exec_eq26' _ _ rfl n s 0 0 rfl rfl true B1.out _; kernel_rfl)
    go_ret
    exact ⟨by rw [HR.out]; rfl, HG.out⟩
  | false =>
    cases b2 with
    | false =>
      go_enter Tryz.func89, Tryz.ntmps89
      go_wp2_with (first
        | (with_reducible refine wpList_exec (.bool false) ?_ ?_ ?_; exact exec_eq26' _ _ rfl n s 0 0 rfl rfl false B1.out _; kernel_rfl)
        | (go_at_call 135; refine (CA.out _).mono ?_; rintro e w1 ⟨rfl, e1⟩; subst e1))
      go_ret
      exact ⟨by rw [HR.out]; rfl, HG.out⟩
    | true =>
      go_enter Tryz.func89, Tryz.ntmps89
      go_wp2_with (first
        | (with_reducible refine wpList_exec (.bool false) ?_ ?_ ?_; exact exec_eq26' _ _ rfl n s 0 0 rfl rfl false B1.out _; kernel_rfl)
        | (go_at_call_of 135 (Value.int .i64 n); refine (CA.out _).mono ?_; rintro e w1 ⟨rfl, e1⟩; subst e1)
        | (go_at_call 135; refine (CB.out _).mono ?_; rintro e w1 ⟨rfl, e1⟩; subst e1))
      go_ret
      exact ⟨by rw [HR.out]; simp, HG.out⟩
theorem exec_eq22' {o : Oper} {a : Act} (x y : Operand) (ho : o.op = .binOp .eql 22 x y 22) (X Y : Array Value) (hx : a.eval x = .agg X) (hy : a.eval y = .agg Y) (l m : List Nat) (hX : X = (l.map vb).toArray) (hY : Y = (m.map vb).toArray) (hl : l.length = 32) (hm : m.length = 32) (b : Bool) (hb : decide (l = m) = b) (w : World) :
    (execOp a.eval o).run Tryz.prog w = .ok (.value (.bool b)) w := by
  subst hX hY
  have h' : (Op.equal 22 (.agg (l.map vb).toArray) (.agg (m.map vb).toArray)).run Tryz.prog w = .ok b w := by rw [← hb]; exact eq22 9998 l m hl hm w
  have hg : Tryz.prog.eqGuardType Tryz.prog.depth 22 = false := by kernel_rfl
  unfold execOp
  simp only [ho, hx, hy, eqGuard, binOp, Sem.run_bind]
  simp [Result.andThen, hg, h']
theorem exec_load22 {o : Oper} {a : Act} {w : World} (x : Operand) (ho : o.op = .load 22 x) (b off : Nat) (hx : a.eval x = .pointer (some ⟨b, off, none⟩)) (c : Array Value) (hs : c.size = 32) (hc : Lies w b off c) : (execOp a.eval o).run Tryz.prog w = .ok (.value (.agg c)) w :=
  exec_load 22 x ho b off hx c _ hc Tryz.underlying22 rfl (by rw [size22, hs])
theorem exec_build0 {o : Oper} {a : Act} (t : TypeId) (ho : o.op = .build t #[]) (c : Array Value) (hb : Tryz.prog.built t [] = some c) (w : World) : (execOp a.eval o).run Tryz.prog w = .ok (.value (.agg c)) w := by
  unfold execOp
  simp only [ho]
  have h := run_build (P := Tryz.prog) w t #[] c hb
  simp only [Array.map_empty, Sem.run_bind, h, Result.andThen_ok, Sem.run_pure]
theorem built22 : Tryz.prog.built 22 [] = some (zeros.map vb).toArray := by kernel_rfl
theorem built27 : Tryz.prog.built 27 [] = some (mx Md.zero).toArray := by kernel_rfl
theorem rightValue_any (v : Vd) (X : Array Value) (hX : X = (vx v).toArray) (w : World) : Calls Tryz.prog 88 #[.agg X] w fun e w' => e = .returned (.bool (rightVB v)) ∧ G w w' := by
  have HG : Hid (G w (w.alloc (.cells X 24))) := G.alloc _ _
  have hl := lies_new w X 24
  have c0 := lies_cell hl 0 (.int .i64 v.kind) (by rw [hX]; rfl)
  have c1 := lies_cell hl 1 (.int .i64 v.mode) (by rw [hX]; rfl)
  have c2 := lies_cell hl 2 (.int .i64 v.size) (by rw [hX]; rfl)
  have x0 : X[0]? = some (.int .i64 v.kind) := by rw [hX]; rfl
  have x1 : X[1]? = some (.int .i64 v.mode) := by rw [hX]; rfl
  have x2 : X[2]? = some (.int .i64 v.size) := by rw [hX]; rfl
  obtain ⟨S, hS⟩ : ∃ S, (v.sum.map vb).toArray = S := ⟨_, rfl⟩
  have HL : Hid (Lies (w.alloc (.cells X 24)) w.heap.size 3 S ∧ S.size = 32 ∧ S = (v.sum.map vb).toArray) := by
    refine ⟨?_, by rw [← hS]; simp [v.len], hS.symm⟩
    have := hl.part 3 (3 + 32)
    rw [hX, vx_sum, hS] at this
    rw [hX]
    simpa using this
  obtain ⟨Z, hZ⟩ : ∃ Z, (zeros.map vb).toArray = Z := ⟨_, rfl⟩
  have HZ : Hid (Tryz.prog.built 22 [] = some Z ∧ Z = (zeros.map vb).toArray) := ⟨by rw [built22, hZ], hZ.symm⟩
  have HV : Hid (v.sum.length = 32) := v.len
  obtain ⟨R, hR⟩ : ∃ R, rightVB v = R := ⟨_, rfl⟩
  rw [hR]
  have HR : Hid (rightVB v = R) := hR
  obtain ⟨b1, hb1⟩ : ∃ b, decide (0 ≤ v.mode ∧ v.mode ≤ 8) = b := ⟨_, rfl⟩
  obtain ⟨b2, hb2⟩ : ∃ b, decide (0 ≤ v.size ∧ v.size ≤ 1099511627775) = b := ⟨_, rfl⟩
  obtain ⟨b3, hb3⟩ : ∃ b, decide (1 ≤ v.size ∧ v.size ≤ 4095) = b := ⟨_, rfl⟩
  obtain ⟨b4, hb4⟩ : ∃ b, decide (v.sum = zeros) = b := ⟨_, rfl⟩
  have CA := hid (fun W => (by have := within_any v.mode 0 8 W; rw [hb1] at this; exact this : Calls Tryz.prog 135 #[.int .i64 v.mode, .int .i64 0, .int .i64 8] W fun e w' => e = .returned (.bool b1) ∧ w' = W))
  have CB := hid (fun W => (by have := within_any v.size 0 1099511627775 W; rw [hb2] at this; exact this : Calls Tryz.prog 135 #[.int .i64 v.size, .int .i64 0, .int .i64 1099511627775] W fun e w' => e = .returned (.bool b2) ∧ w' = W))
  have CC := hid (fun W => (by have := within_any v.size 1 4095 W; rw [hb3] at this; exact this : Calls Tryz.prog 135 #[.int .i64 v.size, .int .i64 1, .int .i64 4095] W fun e w' => e = .returned (.bool b3) ∧ w' = W))
  have HB := hid (⟨hb1, hb2, hb3, hb4⟩ : decide (0 ≤ v.mode ∧ v.mode ≤ 8) = b1 ∧ decide (0 ≤ v.size ∧ v.size ≤ 1099511627775) = b2 ∧ decide (1 ≤ v.size ∧ v.size ≤ 4095) = b3 ∧ decide (v.sum = zeros) = b4)
  clear hR hb1 hb2 hb3 hb4 hZ hS hl hX
  obtain ⟨kd, hkd⟩ : ∃ k, v.kind = k := ⟨_, rfl⟩
  obtain ⟨md, hmd⟩ : ∃ k, v.mode = k := ⟨_, rfl⟩
  obtain ⟨sz, hsz⟩ : ∃ k, v.size = k := ⟨_, rfl⟩
  have HK : Hid (v.kind = kd ∧ v.mode = md ∧ v.size = sz) := ⟨hkd, hmd, hsz⟩
  rw [hkd] at c0 x0
  rw [hmd] at c1 x1 CA
  rw [hsz] at c2 x2 CB CC
  clear hkd hmd hsz
  by_cases k1 : kd = 1
  · subst k1
    cases b1 with
    | false =>
      have HF : Hid (R = false) := by
        show _ = _
        have h := HB.out.1
        rw [← HR.out, rightVB, if_pos HK.out.1]
        simp only [Bool.decide_and] at h ⊢
        rw [h]; rfl
      go_enter Tryz.func88, Tryz.ntmps88
      go_wp2_with (go_at_call 135; refine (CA.out _).mono ?_; rintro e w1 ⟨rfl, e1⟩; subst e1)
      go_ret
      exact ⟨by rw [HF.out]; rfl, HG.out⟩
    | true =>
      by_cases s0 : sz = 0
      · subst s0
        have HF : Hid (R = b4) := by
          show _ = _
          have h := HB.out.1
          rw [← HR.out, rightVB, if_pos HK.out.1, ← HB.out.2.2.2]
          simp only [Bool.decide_and] at h ⊢
          rw [h, HK.out.2.2]; simp
        have HB4 : Hid (decide (v.sum = zeros) = b4) := HB.out.2.2.2
        go_enter Tryz.func88, Tryz.ntmps88
        go_wp2_with (first
          | (go_at_call 135; refine (CA.out _).mono ?_; rintro e w1 ⟨rfl, e1⟩; subst e1)
          | (with_reducible refine wpList_exec (.agg S) ?_ ?_ ?_; exact exec_load22 _ rfl w.heap.size 3 rfl S HL.out.2.1 HL.out.1; kernel_rfl)
          | (with_reducible refine wpList_exec (.agg Z) ?_ ?_ ?_; exact exec_build0 22 rfl Z HZ.out.1 _; kernel_rfl)
          | (with_reducible refine wpList_exec (.bool b4) ?_ ?_ ?_; exact exec_eq22' _ _ rfl S Z rfl rfl v.sum zeros HL.out.2.2 HZ.out.2 HV.out rfl b4 HB4.out _; kernel_rfl))
        go_ret
        exact ⟨by rw [HF.out]; rfl, HG.out⟩
      · have HF : Hid (R = false) := by
          show _ = _
          rw [← HR.out, rightVB, if_pos HK.out.1, HK.out.2.2]
          simp [s0]
        have s1 : (sz == 0) = false := by simpa using s0
        clear s0
        go_enter Tryz.func88, Tryz.ntmps88
        go_wp2_with (go_at_call 135; refine (CA.out _).mono ?_; rintro e w1 ⟨rfl, e1⟩; subst e1)
        go_ret
        exact ⟨by rw [HF.out]; rfl, HG.out⟩
  · have k1' : (kd == 1) = false := by simpa using k1
    by_cases k2 : kd = 2
    · subst k2
      have HF : Hid (R = (b1 && b2)) := by
        show _ = _
        rw [← HR.out, rightVB, if_neg (by rw [HK.out.1]; exact k1), if_pos HK.out.1, ← HB.out.1, ← HB.out.2.1]
        simp only [Bool.decide_and]
      clear k1
      cases b1 with
      | false =>
        go_enter Tryz.func88, Tryz.ntmps88
        go_wp2_with (go_at_call 135; refine (CA.out _).mono ?_; rintro e w1 ⟨rfl, e1⟩; subst e1)
        go_ret
        exact ⟨by rw [HF.out]; rfl, HG.out⟩
      | true =>
        go_enter Tryz.func88, Tryz.ntmps88
        go_wp2_with (first
          | (go_at_call_of 135 (Value.int .i64 8); refine (CA.out _).mono ?_; rintro e w1 ⟨rfl, e1⟩; subst e1)
          | (go_at_call 135; refine (CB.out _).mono ?_; rintro e w1 ⟨rfl, e1⟩; subst e1))
        go_ret
        exact ⟨by rw [HF.out]; simp, HG.out⟩
    · have k2' : (kd == 2) = false := by simpa using k2
      by_cases k3 : kd = 3
      · subst k3
        by_cases m0 : md = 0
        · subst m0
          have HF : Hid (R = b3) := by
            show _ = _
            rw [← HR.out, rightVB, if_neg (by rw [HK.out.1]; exact k1), if_neg (by rw [HK.out.1]; exact k2), if_pos HK.out.1, ← HB.out.2.2.1, HK.out.2.1]
            simp
          clear k1 k2
          go_enter Tryz.func88, Tryz.ntmps88
          go_wp2_with (go_at_call 135; refine (CC.out _).mono ?_; rintro e w1 ⟨rfl, e1⟩; subst e1)
          go_ret
          exact ⟨by rw [HF.out]; rfl, HG.out⟩
        · have HF : Hid (R = false) := by
            show _ = _
            rw [← HR.out, rightVB, if_neg (by rw [HK.out.1]; exact k1), if_neg (by rw [HK.out.1]; exact k2), if_pos HK.out.1, HK.out.2.1]
            simp [m0]
          have m0' : (md == 0) = false := by simpa using m0
          clear k1 k2 m0
          go_enter Tryz.func88, Tryz.ntmps88
          go_wp2_with fail
          go_ret
          exact ⟨by rw [HF.out]; rfl, HG.out⟩
      · have k3' : (kd == 3) = false := by simpa using k3
        have HF : Hid (R = false) := by
          show _ = _
          rw [← HR.out, rightVB, if_neg (by rw [HK.out.1]; exact k1), if_neg (by rw [HK.out.1]; exact k2), if_neg (by rw [HK.out.1]; exact k3)]
        clear k1 k2 k3
        go_enter Tryz.func88, Tryz.ntmps88
        go_wp2_with fail
        go_ret
        exact ⟨by rw [HF.out]; rfl, HG.out⟩
theorem boxes (w : World) (X M : Array Value) : Lies ((w.alloc (.cells X 24)).alloc (.cells M 27)) w.heap.size 0 X ∧ Lies ((w.alloc (.cells X 24)).alloc (.cells M 27)) (w.heap.size + 1) 0 M := by
  constructor
  · exact (lies_new w X 24).below ((Below.refl _ _).alloc (Nat.le_refl _) _)
  · have := lies_new (w.alloc (.cells X 24)) M 27
    rw [World.size_alloc] at this
    exact this
theorem ownFault_any (v : Vd) (m : Md) (kids : Bool) (X M : Array Value) (hX : X = (vx v).toArray) (hM : M = (mx m).toArray) (w : World) :
    Calls Tryz.prog 59 #[.agg X, .agg M, .bool kids] w fun e w' => e = .returned (.int .i64 (ownE v m kids)) ∧ G w w' := by
  have HG : Hid (G w ((w.alloc (.cells X 24)).alloc (.cells M 27))) := (G.alloc w _).trans (G.alloc _ _)
  obtain ⟨lX, lM⟩ := boxes w X M
  have c0 := lies_cell lX 0 (.int .i64 v.kind) (by rw [hX]; rfl)
  have d0 := lies_cell lM 0 (.int .i64 m.n0) (by rw [hM]; rfl)
  have d1 := lies_cell lM 1 (.int .i64 m.s0) (by rw [hM]; rfl)
  have d2 := lies_cell lM 2 (.int .i64 m.n1) (by rw [hM]; rfl)
  have d3 := lies_cell lM 3 (.int .i64 m.s1) (by rw [hM]; rfl)
  have HX : Hid (Lies ((w.alloc (.cells X 24)).alloc (.cells M 27)) w.heap.size 0 X ∧ X.size = 35 ∧ Lies ((w.alloc (.cells X 24)).alloc (.cells M 27)) (w.heap.size + 1) 0 M ∧ M.size = 4 ∧ M = (mx m).toArray) := ⟨lX, by rw [hX]; simp [vx_len], lM, by rw [hM]; simp [mx_len], hM⟩
  obtain ⟨Z, hZ⟩ : ∃ Z, (mx Md.zero).toArray = Z := ⟨_, rfl⟩
  have HZ : Hid (Tryz.prog.built 27 [] = some Z ∧ Z = (mx Md.zero).toArray) := ⟨by rw [built27, hZ], hZ.symm⟩
  have HE := hid (rfl : ownE v m kids = ownE v m kids)
  obtain ⟨R, hR⟩ : ∃ R, ownE v m kids = R := ⟨_, rfl⟩
  rw [hR]
  have HR : Hid (ownE v m kids = R) := hR
  obtain ⟨b0, hb0⟩ : ∃ b, rightVB v = b := ⟨_, rfl⟩
  obtain ⟨b1, hb1⟩ : ∃ b, rightMB m.n0 m.s0 = b := ⟨_, rfl⟩
  obtain ⟨b2, hb2⟩ : ∃ b, rightMB m.n1 m.s1 = b := ⟨_, rfl⟩
  obtain ⟨b3, hb3⟩ : ∃ b, (!decide (m = Md.zero)) = b := ⟨_, rfl⟩
  have HB := hid (⟨hb0, hb1, hb2, hb3⟩ : rightVB v = b0 ∧ rightMB m.n0 m.s0 = b1 ∧ rightMB m.n1 m.s1 = b2 ∧ (!decide (m = Md.zero)) = b3)
  have CR := hid (fun W => (by have := rightValue_any v X hX W; rw [hb0] at this; exact this : Calls Tryz.prog 88 #[.agg X] W fun e w' => e = .returned (.bool b0) ∧ G W w'))
  have CA := hid (fun W => (by have := rightMark_any m.n0 m.s0 W; rw [hb1] at this; exact this : Calls Tryz.prog 89 #[.agg #[.int .i64 m.n0, .int .i64 m.s0]] W fun e w' => e = .returned (.bool b1) ∧ G W w'))
  have CB := hid (fun W => (by have := rightMark_any m.n1 m.s1 W; rw [hb2] at this; exact this : Calls Tryz.prog 89 #[.agg #[.int .i64 m.n1, .int .i64 m.s1]] W fun e w' => e = .returned (.bool b2) ∧ G W w'))
  clear hR hb0 hb1 hb2 hb3 hZ lX lM hX hM HE
  obtain ⟨kd, hkd⟩ : ∃ k, v.kind = k := ⟨_, rfl⟩
  have HK : Hid (v.kind = kd) := hkd
  rw [hkd] at c0
  clear hkd
  obtain ⟨n0, e0⟩ : ∃ k, m.n0 = k := ⟨_, rfl⟩
  obtain ⟨s0, e1⟩ : ∃ k, m.s0 = k := ⟨_, rfl⟩
  obtain ⟨n1, e2⟩ : ∃ k, m.n1 = k := ⟨_, rfl⟩
  obtain ⟨s1, e3⟩ : ∃ k, m.s1 = k := ⟨_, rfl⟩
  rw [e0] at d0 CA
  rw [e1] at d1 CA
  rw [e2] at d2 CB
  rw [e3] at d3 CB
  clear e0 e1 e2 e3
  go_enter Tryz.func59, Tryz.ntmps59
  go_upto_region 1 with fail
  generalize hw1 : (w.alloc (.cells X 24)).alloc (.cells M 27) = w1 at *
  generalize w.heap.size = H at *
  clear hw1
  have unfoldR : Hid (R = ownE v m kids) := HR.out.symm
  by_cases hA : kd ≠ 1 ∧ kd ≠ 2 ∧ kd ≠ 3
  · obtain ⟨a1, a2, a3⟩ := hA
    have HF : Hid (R = 40) := by show _ = _; rw [unfoldR.out, ownE, if_pos (by rw [HK.out]; exact ⟨a1, a2, a3⟩)]
    have a1' : (kd == 1) = false := by simpa using a1
    have a2' : (kd == 2) = false := by simpa using a2
    have a3' : (kd == 3) = false := by simpa using a3
    have f1 : (kd != 1) = true := by simpa using a1
    have f2 : (kd != 2) = true := by simpa using a2
    have f3 : (kd != 3) = true := by simpa using a3
    clear a1 a2 a3 a1' a2' a3'
    go_wp2_with fail
    go_ret
    exact ⟨by rw [HF.out]; rfl, HG.out⟩
  · have HA : Hid (¬ (v.kind ≠ 1 ∧ v.kind ≠ 2 ∧ v.kind ≠ 3)) := by show ¬ _; rw [HK.out]; exact hA
    by_cases hB : kids = true ∧ kd ≠ 1
    · obtain ⟨rfl, hk⟩ := hB
      have HF : Hid (R = 40) := by show _ = _; rw [unfoldR.out, ownE, if_neg HA.out, if_pos (by rw [HK.out]; exact ⟨rfl, hk⟩)]
      have a1' : (kd == 1) = false := by simpa using hk
      by_cases k2 : kd = 2
      · subst k2
        clear hA hk
        go_wp2_with fail
        go_ret
        exact ⟨by rw [HF.out]; rfl, HG.out⟩
      · obtain rfl : kd = 3 := by by_cases h3 : kd = 3; exact h3; exact absurd ⟨hk, k2, h3⟩ hA
        clear hA hk k2
        go_wp2_with fail
        go_ret
        exact ⟨by rw [HF.out]; rfl, HG.out⟩
    · have HBB : Hid (¬ (kids = true ∧ v.kind ≠ 1)) := by show ¬ _; rw [HK.out]; exact hB
      by_cases k1 : kd = 1
      · subst k1
        clear hA hB
        cases kids with
        | false =>
          cases b0 with
          | false =>
            have HF : Hid (R = 41) := by show _ = _; rw [unfoldR.out, ownE, if_neg HA.out, if_neg HBB.out, if_pos HB.out.1]
            go_wp2_with (first
              | (with_reducible refine wpList_exec (.agg X) ?_ ?_ ?_; exact exec_load24 _ rfl H 0 rfl X HX.out.2.1 HX.out.1; kernel_rfl)
              | (go_at_call 88; refine (CR.out _).mono ?_; rintro e w2 ⟨rfl, g2⟩))
            go_ret
            exact ⟨by rw [HF.out]; rfl, HG.out.trans g2⟩
          | true =>
            have HV : Hid (¬ rightVB v = false) := by show ¬ _; rw [HB.out.1]; simp
            cases b3 with
            | false =>
              have HF : Hid (R = 0) := by show _ = _; rw [unfoldR.out, ownE, if_neg HA.out, if_neg HBB.out, if_neg HV.out, if_neg (by rw [HK.out]; simp), if_neg (by have := HB.out.2.2.2; simp at this; simp [this])]
              go_wp2_with (first
                | (with_reducible refine wpList_exec (.agg X) ?_ ?_ ?_; exact exec_load24 _ rfl H 0 rfl X HX.out.2.1 HX.out.1; kernel_rfl)
                | (go_at_call 88; refine (CR.out _).mono ?_; rintro e w2 ⟨rfl, g2⟩; have y0 := g2.cell c0; have y1 := g2.cell d0; have y2 := g2.cell d1; have y3 := g2.cell d2; have y4 := g2.cell d3; have HG2 : Hid (G w w2 ∧ Lies w2 (H + 1) 0 M) := ⟨HG.out.trans g2, g2.lies HX.out.2.2.1⟩; clear g2 c0 d0 d1 d2 d3)
                | (with_reducible refine wpList_exec (.agg M) ?_ ?_ ?_; exact exec_load27 _ rfl (H + 1) 0 rfl M HX.out.2.2.2.1 HG2.out.2; kernel_rfl)
                | (with_reducible refine wpList_exec (.agg Z) ?_ ?_ ?_; exact exec_build0 27 rfl Z HZ.out.1 _; kernel_rfl)
                | (with_reducible refine wpList_exec (.bool false) ?_ ?_ ?_; exact exec_neq27' _ _ rfl M Z rfl rfl m Md.zero HX.out.2.2.2.2 HZ.out.2 false HB.out.2.2.2 _; kernel_rfl))
              go_ret
              exact ⟨by rw [HF.out]; rfl, HG2.out.1⟩
            | true =>
              have HF : Hid (R = 41) := by show _ = _; rw [unfoldR.out, ownE, if_neg HA.out, if_neg HBB.out, if_neg HV.out, if_neg (by rw [HK.out]; simp), if_pos ⟨by rw [HK.out]; simp, by have := HB.out.2.2.2; simpa using this⟩]
              go_wp2_with (first
                | (with_reducible refine wpList_exec (.agg X) ?_ ?_ ?_; exact exec_load24 _ rfl H 0 rfl X HX.out.2.1 HX.out.1; kernel_rfl)
                | (go_at_call 88; refine (CR.out _).mono ?_; rintro e w2 ⟨rfl, g2⟩; have y0 := g2.cell c0; have y1 := g2.cell d0; have y2 := g2.cell d1; have y3 := g2.cell d2; have y4 := g2.cell d3; have HG2 : Hid (G w w2 ∧ Lies w2 (H + 1) 0 M) := ⟨HG.out.trans g2, g2.lies HX.out.2.2.1⟩; clear g2 c0 d0 d1 d2 d3)
                | (with_reducible refine wpList_exec (.agg M) ?_ ?_ ?_; exact exec_load27 _ rfl (H + 1) 0 rfl M HX.out.2.2.2.1 HG2.out.2; kernel_rfl)
                | (with_reducible refine wpList_exec (.agg Z) ?_ ?_ ?_; exact exec_build0 27 rfl Z HZ.out.1 _; kernel_rfl)
                | (with_reducible refine wpList_exec (.bool true) ?_ ?_ ?_; exact exec_neq27' _ _ rfl M Z rfl rfl m Md.zero HX.out.2.2.2.2 HZ.out.2 true HB.out.2.2.2 _; kernel_rfl))
              go_ret
              exact ⟨by rw [HF.out]; rfl, HG2.out.1⟩
        | true =>
          cases b0 with
          | false =>
            have HF : Hid (R = 41) := by show _ = _; rw [unfoldR.out, ownE, if_neg HA.out, if_neg HBB.out, if_pos HB.out.1]
            go_wp2_with (first
              | (with_reducible refine wpList_exec (.agg X) ?_ ?_ ?_; exact exec_load24 _ rfl H 0 rfl X HX.out.2.1 HX.out.1; kernel_rfl)
              | (go_at_call 88; refine (CR.out _).mono ?_; rintro e w2 ⟨rfl, g2⟩))
            go_ret
            exact ⟨by rw [HF.out]; rfl, HG.out.trans g2⟩
          | true =>
            have HV : Hid (¬ rightVB v = false) := by show ¬ _; rw [HB.out.1]; simp
            cases b3 with
            | false =>
              have HF : Hid (R = 0) := by show _ = _; rw [unfoldR.out, ownE, if_neg HA.out, if_neg HBB.out, if_neg HV.out, if_neg (by rw [HK.out]; simp), if_neg (by have := HB.out.2.2.2; simp at this; simp [this])]
              go_wp2_with (first
                | (with_reducible refine wpList_exec (.agg X) ?_ ?_ ?_; exact exec_load24 _ rfl H 0 rfl X HX.out.2.1 HX.out.1; kernel_rfl)
                | (go_at_call 88; refine (CR.out _).mono ?_; rintro e w2 ⟨rfl, g2⟩; have y0 := g2.cell c0; have y1 := g2.cell d0; have y2 := g2.cell d1; have y3 := g2.cell d2; have y4 := g2.cell d3; have HG2 : Hid (G w w2 ∧ Lies w2 (H + 1) 0 M) := ⟨HG.out.trans g2, g2.lies HX.out.2.2.1⟩; clear g2 c0 d0 d1 d2 d3)
                | (with_reducible refine wpList_exec (.agg M) ?_ ?_ ?_; exact exec_load27 _ rfl (H + 1) 0 rfl M HX.out.2.2.2.1 HG2.out.2; kernel_rfl)
                | (with_reducible refine wpList_exec (.agg Z) ?_ ?_ ?_; exact exec_build0 27 rfl Z HZ.out.1 _; kernel_rfl)
                | (with_reducible refine wpList_exec (.bool false) ?_ ?_ ?_; exact exec_neq27' _ _ rfl M Z rfl rfl m Md.zero HX.out.2.2.2.2 HZ.out.2 false HB.out.2.2.2 _; kernel_rfl))
              go_ret
              exact ⟨by rw [HF.out]; rfl, HG2.out.1⟩
            | true =>
              have HF : Hid (R = 41) := by show _ = _; rw [unfoldR.out, ownE, if_neg HA.out, if_neg HBB.out, if_neg HV.out, if_neg (by rw [HK.out]; simp), if_pos ⟨by rw [HK.out]; simp, by have := HB.out.2.2.2; simpa using this⟩]
              go_wp2_with (first
                | (with_reducible refine wpList_exec (.agg X) ?_ ?_ ?_; exact exec_load24 _ rfl H 0 rfl X HX.out.2.1 HX.out.1; kernel_rfl)
                | (go_at_call 88; refine (CR.out _).mono ?_; rintro e w2 ⟨rfl, g2⟩; have y0 := g2.cell c0; have y1 := g2.cell d0; have y2 := g2.cell d1; have y3 := g2.cell d2; have y4 := g2.cell d3; have HG2 : Hid (G w w2 ∧ Lies w2 (H + 1) 0 M) := ⟨HG.out.trans g2, g2.lies HX.out.2.2.1⟩; clear g2 c0 d0 d1 d2 d3)
                | (with_reducible refine wpList_exec (.agg M) ?_ ?_ ?_; exact exec_load27 _ rfl (H + 1) 0 rfl M HX.out.2.2.2.1 HG2.out.2; kernel_rfl)
                | (with_reducible refine wpList_exec (.agg Z) ?_ ?_ ?_; exact exec_build0 27 rfl Z HZ.out.1 _; kernel_rfl)
                | (with_reducible refine wpList_exec (.bool true) ?_ ?_ ?_; exact exec_neq27' _ _ rfl M Z rfl rfl m Md.zero HX.out.2.2.2.2 HZ.out.2 true HB.out.2.2.2 _; kernel_rfl))
              go_ret
              exact ⟨by rw [HF.out]; rfl, HG2.out.1⟩
      · obtain rfl : kids = false := by cases kids; rfl; exact absurd ⟨rfl, k1⟩ hB
        by_cases k2 : kd = 2
        · subst k2
          clear hA hB k1
          cases b0 with
          | false =>
            have HF : Hid (R = 41) := by show _ = _; rw [unfoldR.out, ownE, if_neg HA.out, if_neg HBB.out, if_pos HB.out.1]
            go_wp2_with (first
              | (with_reducible refine wpList_exec (.agg X) ?_ ?_ ?_; exact exec_load24 _ rfl H 0 rfl X HX.out.2.1 HX.out.1; kernel_rfl)
              | (go_at_call 88; refine (CR.out _).mono ?_; rintro e w2 ⟨rfl, g2⟩))
            go_ret
            exact ⟨by rw [HF.out]; rfl, HG.out.trans g2⟩
          | true =>
            have HV : Hid (¬ rightVB v = false) := by show ¬ _; rw [HB.out.1]; simp
            cases b1 with
            | false =>
              have HF : Hid (R = 41) := by show _ = _; rw [unfoldR.out, ownE, if_neg HA.out, if_neg HBB.out, if_neg HV.out, if_pos ⟨HK.out, .inl HB.out.2.1⟩]
              go_wp2_with (first
                | (with_reducible refine wpList_exec (.agg X) ?_ ?_ ?_; exact exec_load24 _ rfl H 0 rfl X HX.out.2.1 HX.out.1; kernel_rfl)
                | (go_at_call 88; refine (CR.out _).mono ?_; rintro e w2 ⟨rfl, g2⟩; have y0 := g2.cell c0; have y1 := g2.cell d0; have y2 := g2.cell d1; have y3 := g2.cell d2; have y4 := g2.cell d3; have HG2 : Hid (G w w2 ∧ Lies w2 (H + 1) 0 M) := ⟨HG.out.trans g2, g2.lies HX.out.2.2.1⟩; clear g2 c0 d0 d1 d2 d3)
                | (go_at_call 89; refine (CA.out _).mono ?_; rintro e w3 ⟨rfl, g3⟩; have HG3 : Hid (G w w3) := HG2.out.1.trans g3; have z0 := g3.cell y0; have z3 := g3.cell y3; have z4 := g3.cell y4; clear g3 y0 y1 y2 y3 y4))
              go_ret
              exact ⟨by rw [HF.out]; rfl, HG3.out⟩
            | true =>
              cases b2 with
              | false =>
                have HF : Hid (R = 41) := by show _ = _; rw [unfoldR.out, ownE, if_neg HA.out, if_neg HBB.out, if_neg HV.out, if_pos ⟨HK.out, .inr HB.out.2.2.1⟩]
                go_upto_region 7 with (first
                  | (with_reducible refine wpList_exec (.agg X) ?_ ?_ ?_; exact exec_load24 _ rfl H 0 rfl X HX.out.2.1 HX.out.1; kernel_rfl)
                  | (go_at_call 88; refine (CR.out _).mono ?_; rintro e w2 ⟨rfl, g2⟩; have y0 := g2.cell c0; have y1 := g2.cell d0; have y2 := g2.cell d1; have y3 := g2.cell d2; have y4 := g2.cell d3; have HG2 : Hid (G w w2 ∧ Lies w2 (H + 1) 0 M) := ⟨HG.out.trans g2, g2.lies HX.out.2.2.1⟩; clear g2 c0 d0 d1 d2 d3))
                go_wp2_with (first
                  | (go_at_call_of 89 (Value.agg #[Value.int .i64 n0, Value.int .i64 s0]); refine (CA.out _).mono ?_; rintro e w3 ⟨rfl, g3⟩; clear CA; have HG3 : Hid (G w w3) := HG2.out.1.trans g3; have z0 := g3.cell y0; have z3 := g3.cell y3; have z4 := g3.cell y4; clear g3 y0 y1 y2 y3 y4)
                  | (go_at_call 89; refine (CB.out _).mono ?_; rintro e w4 ⟨rfl, g4⟩; have HG4 : Hid (G w w4) := HG3.out.trans g4; have v0 := g4.cell z0; clear g4 z0))
                go_ret
                exact ⟨by rw [HF.out]; rfl, HG4.out⟩
              | true =>
                have HF : Hid (R = 0) := by show _ = _; rw [unfoldR.out, ownE, if_neg HA.out, if_neg HBB.out, if_neg HV.out, if_neg (by rw [HB.out.2.1, HB.out.2.2.1]; simp), if_neg (by rw [HK.out]; simp)]
                go_upto_region 7 with (first
                  | (with_reducible refine wpList_exec (.agg X) ?_ ?_ ?_; exact exec_load24 _ rfl H 0 rfl X HX.out.2.1 HX.out.1; kernel_rfl)
                  | (go_at_call 88; refine (CR.out _).mono ?_; rintro e w2 ⟨rfl, g2⟩; have y0 := g2.cell c0; have y1 := g2.cell d0; have y2 := g2.cell d1; have y3 := g2.cell d2; have y4 := g2.cell d3; have HG2 : Hid (G w w2 ∧ Lies w2 (H + 1) 0 M) := ⟨HG.out.trans g2, g2.lies HX.out.2.2.1⟩; clear g2 c0 d0 d1 d2 d3))
                go_wp2_with (first
                  | (go_at_call_of 89 (Value.agg #[Value.int .i64 n0, Value.int .i64 s0]); refine (CA.out _).mono ?_; rintro e w3 ⟨rfl, g3⟩; clear CA; have HG3 : Hid (G w w3) := HG2.out.1.trans g3; have z0 := g3.cell y0; have z3 := g3.cell y3; have z4 := g3.cell y4; clear g3 y0 y1 y2 y3 y4)
                  | (go_at_call 89; refine (CB.out _).mono ?_; rintro e w4 ⟨rfl, g4⟩; have HG4 : Hid (G w w4) := HG3.out.trans g4; have v0 := g4.cell z0; clear g4 z0))
                go_ret
                exact ⟨by rw [HF.out]; rfl, HG4.out⟩
        · obtain rfl : kd = 3 := by by_cases h3 : kd = 3; exact h3; exact absurd ⟨k1, k2, h3⟩ hA
          clear hA hB k1 k2
          cases b0 with
          | false =>
            have HF : Hid (R = 41) := by show _ = _; rw [unfoldR.out, ownE, if_neg HA.out, if_neg HBB.out, if_pos HB.out.1]
            go_wp2_with (first
              | (with_reducible refine wpList_exec (.agg X) ?_ ?_ ?_; exact exec_load24 _ rfl H 0 rfl X HX.out.2.1 HX.out.1; kernel_rfl)
              | (go_at_call 88; refine (CR.out _).mono ?_; rintro e w2 ⟨rfl, g2⟩))
            go_ret
            exact ⟨by rw [HF.out]; rfl, HG.out.trans g2⟩
          | true =>
            have HV : Hid (¬ rightVB v = false) := by show ¬ _; rw [HB.out.1]; simp
            cases b3 with
            | false =>
              have HF : Hid (R = 0) := by show _ = _; rw [unfoldR.out, ownE, if_neg HA.out, if_neg HBB.out, if_neg HV.out, if_neg (by rw [HK.out]; simp), if_neg (by have := HB.out.2.2.2; simp at this; simp [this])]
              go_wp2_with (first
                | (with_reducible refine wpList_exec (.agg X) ?_ ?_ ?_; exact exec_load24 _ rfl H 0 rfl X HX.out.2.1 HX.out.1; kernel_rfl)
                | (go_at_call 88; refine (CR.out _).mono ?_; rintro e w2 ⟨rfl, g2⟩; have y0 := g2.cell c0; have y1 := g2.cell d0; have y2 := g2.cell d1; have y3 := g2.cell d2; have y4 := g2.cell d3; have HG2 : Hid (G w w2 ∧ Lies w2 (H + 1) 0 M) := ⟨HG.out.trans g2, g2.lies HX.out.2.2.1⟩; clear g2 c0 d0 d1 d2 d3)
                | (with_reducible refine wpList_exec (.agg M) ?_ ?_ ?_; exact exec_load27 _ rfl (H + 1) 0 rfl M HX.out.2.2.2.1 HG2.out.2; kernel_rfl)
                | (with_reducible refine wpList_exec (.agg Z) ?_ ?_ ?_; exact exec_build0 27 rfl Z HZ.out.1 _; kernel_rfl)
                | (with_reducible refine wpList_exec (.bool false) ?_ ?_ ?_; exact exec_neq27' _ _ rfl M Z rfl rfl m Md.zero HX.out.2.2.2.2 HZ.out.2 false HB.out.2.2.2 _; kernel_rfl))
              go_ret
              exact ⟨by rw [HF.out]; rfl, HG2.out.1⟩
            | true =>
              have HF : Hid (R = 41) := by show _ = _; rw [unfoldR.out, ownE, if_neg HA.out, if_neg HBB.out, if_neg HV.out, if_neg (by rw [HK.out]; simp), if_pos ⟨by rw [HK.out]; simp, by have := HB.out.2.2.2; simpa using this⟩]
              go_wp2_with (first
                | (with_reducible refine wpList_exec (.agg X) ?_ ?_ ?_; exact exec_load24 _ rfl H 0 rfl X HX.out.2.1 HX.out.1; kernel_rfl)
                | (go_at_call 88; refine (CR.out _).mono ?_; rintro e w2 ⟨rfl, g2⟩; have y0 := g2.cell c0; have y1 := g2.cell d0; have y2 := g2.cell d1; have y3 := g2.cell d2; have y4 := g2.cell d3; have HG2 : Hid (G w w2 ∧ Lies w2 (H + 1) 0 M) := ⟨HG.out.trans g2, g2.lies HX.out.2.2.1⟩; clear g2 c0 d0 d1 d2 d3)
                | (with_reducible refine wpList_exec (.agg M) ?_ ?_ ?_; exact exec_load27 _ rfl (H + 1) 0 rfl M HX.out.2.2.2.1 HG2.out.2; kernel_rfl)
                | (with_reducible refine wpList_exec (.agg Z) ?_ ?_ ?_; exact exec_build0 27 rfl Z HZ.out.1 _; kernel_rfl)
                | (with_reducible refine wpList_exec (.bool true) ?_ ?_ ?_; exact exec_neq27' _ _ rfl M Z rfl rfl m Md.zero HX.out.2.2.2.2 HZ.out.2 true HB.out.2.2.2 _; kernel_rfl))
              go_ret
              exact ⟨by rw [HF.out]; rfl, HG2.out.1⟩
end Go.Proofs.YtbjjbgaomoihaaaGreatDoor
