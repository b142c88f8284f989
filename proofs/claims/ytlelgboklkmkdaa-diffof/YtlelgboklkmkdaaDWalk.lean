import Derived.Test.YtlelgboklkmkdaaDWF
set_option maxRecDepth 100000
set_option maxHeartbeats 16000000
/-
  diff.walk (23) by contract.
-/
namespace Go.Proofs.Ytlelgboklkmkdaa
open Go.RowKit Ch
attribute [local go_sem] Oper.semAt_some
/-- two variables of a value each are made, then set -/
theorem two_vars (w : World) (Yx Yy : Array Value) (T : Nat) (hT : w.heap.size = T) (sx : Yx.size = 35) (sy : Yy.size = 35) (ox : Yx.all (·.oneCell') = true) (oy : Yy.all (·.oneCell') = true) :
    ∃ w4 w5 w6 w7, Hid ((∀ (o : Oper) (a : Act), o.op = .alloc 24 → (execOp a.eval o).run Try.prog w = .ok (.value (.pointer (some ⟨T, 0, none⟩))) w4) ∧ (∀ (o : Oper) (a : Act), o.op = .alloc 24 → (execOp a.eval o).run Try.prog w4 = .ok (.value (.pointer (some ⟨T + 1, 0, none⟩))) w5) ∧
      (∀ (o : Oper) (a : Act) (x y : Operand), o.op = .store 24 x y → a.eval x = .pointer (some ⟨T, 0, none⟩) → a.eval y = .agg Yx → (execOp a.eval o).run Try.prog w5 = .ok .skip w6) ∧ (∀ (o : Oper) (a : Act) (x y : Operand), o.op = .store 24 x y → a.eval x = .pointer (some ⟨T + 1, 0, none⟩) → a.eval y = .agg Yy → (execOp a.eval o).run Try.prog w6 = .ok .skip w7) ∧
      w7.heap[T]? = some (.cells Yx 24 (0, 0)) ∧ w7.heap[T + 1]? = some (.cells Yy 24 (0, 0)) ∧ Below w.heap.size w w7) := by
  subst hT
  have h4 : (w.alloc (.cells vzA 24)).heap[w.heap.size]? = some (.cells vzA 24 (0, 0)) := heap_alloc_new _ _
  have h5 : ((w.alloc (.cells vzA 24)).alloc (.cells vzA 24)).heap[w.heap.size]? = some (.cells vzA 24 (0, 0)) := (heap_alloc_old _ _ (by simp)).trans h4
  have h5b : ((w.alloc (.cells vzA 24)).alloc (.cells vzA 24)).heap[w.heap.size + 1]? = some (.cells vzA 24 (0, 0)) := by
    have := heap_alloc_new (w.alloc (.cells vzA 24)) (.cells vzA 24)
    rwa [World.size_alloc] at this
  have h6 := setRow_heap _ _ vzA Yx 24 _ h5
  have h6b : (((w.alloc (.cells vzA 24)).alloc (.cells vzA 24)).setRow w.heap.size Yx).heap[w.heap.size + 1]? = some (.cells vzA 24 (0, 0)) := (setRow_other _ _ _ _ (by omega)).trans h5b
  have h7b := setRow_heap _ _ vzA Yy 24 _ h6b
  refine ⟨_, _, _, _, fun o a ho => Ch.exec_allocT 24 vzA ho zero24v _ _ rfl, fun o a ho => Ch.exec_allocT 24 vzA ho zero24v _ _ (by simp), fun o a x y ho hx hy => Ch.exec_storeT 24 x y ho w.heap.size Yx vzA hx hy _ h5 (by rw [size24v, sx]) (by rw [sx]; rfl) ox, fun o a x y ho hx hy => Ch.exec_storeT 24 x y ho (w.heap.size + 1) Yy vzA hx hy _ h6b (by rw [size24v, sy]) (by rw [sy]; rfl) oy, (setRow_other _ _ _ _ (by omega)).trans h6, h7b, rfl, rfl, rfl, by simp; omega, fun b hb => ?_⟩
  exact (setRow_other _ _ _ _ (by omega)).trans ((setRow_other _ _ _ _ (by omega)).trans ((heap_alloc_old _ _ (by simp; omega)).trans (heap_alloc_old _ _ hb)))
theorem sidesT (va vb : Value) (w : World) (T : Nat) (hT : w.heap.size = T) (ha : va.oneCell' = true) (hb : vb.oneCell' = true) : Calls Try.prog 38 #[va, vb, .func (.func 40) #[] #[]] w fun e w' => e = .returned (.func (.func 54) #[] #[.pointer (some ⟨T, 0, none⟩), .pointer (some ⟨T + 1, 0, none⟩), .pointer (some ⟨T + 2, 0, none⟩)]) ∧
    Hid (Bx w' T 97 va ∧ Bx w' (T + 1) 97 vb ∧ Bx w' (T + 2) 99 (.func (.func 40) #[] #[]) ∧ Below w.heap.size w w' ∧ w'.heap.size = T + 3) := by
  subst hT
  refine (sides_any va vb w ha hb).mono ?_
  rintro e w' ⟨rfl, rfl⟩
  refine ⟨rfl, ?_, ?_, ?_, (((Below.refl _ w).alloc (Nat.le_refl _) _).alloc (by simp) _).alloc (by simp; omega) _, by simp⟩
  · exact (heap_alloc_old _ _ (by simp; omega)).trans ((heap_alloc_old _ _ (by simp)).trans (heap_alloc_new _ _))
  · refine (heap_alloc_old _ _ (by simp)).trans ?_
    have := heap_alloc_new (w.alloc (.cells #[va] 97)) (.cells #[vb] 97)
    rwa [World.size_alloc] at this
  · have := heap_alloc_new ((w.alloc (.cells #[va] 97)).alloc (.cells #[vb] 97)) (.cells #[.func (.func 40) #[] #[]] 99)
    rwa [World.size_alloc, World.size_alloc] at this
theorem WkS.store {lo : Nat} {J : Ys} {w0 W : World} {M : Nat → Prop} {v fv : Value} {L : List ByteArray} {B : Nat} {g : Bool} {MT : Nat → Prop} {pr : List Cd} {X : World} (hJ : Yd lo J) (hlo : w0.heap.size = lo) (hB : W.heap.size = B) (h : WkS lo J w0 W M v fv L B g MT pr X) : WkS lo J w0 W M v fv L B g MT pr (X.setCell ⟨B + 2, 0, none⟩ (.bool false)) := by
  have hk := Kp.set X (B + 2) 0 (.bool false)
  have hl := h.l0
  refine ⟨hJ.keep _ h.j hk (fun b e => by rw [e]; exact h.n4 _ (by omega) (by omega)) (fun b e => by omega), h.kp.trans hk (fun b hb e => by omega), h.mt, grownT h.ow hk (fun b hb e => by have := h.n5 b hb; omega), h.nv, h.b4.other (by omega), h.b7.other (by omega), h.b8.set _, h.n4, h.n5, h.bel.trans (hk.below h.bel.size fun b e => by omega), h.l0⟩
theorem siI_len (x : Si) : (siI x).length ≤ siZ x := by
  cases x with
  | none => exact Nat.le_refl _
  | some q =>
    simp only [siI, siZ, K.items_len]
    have := q.k.flat.len_le_size
    omega
theorem walk_step {lo : Nat} {J : Ys} (hJ : Yd lo J) {gf : Nat} {cap : Array Value} (eg : ∀ args w, (callFunc gf args).run Try.prog w = .ok (.enter gf args) w) {T : List Cd} (hY : YOk gf cap J T) {w0 : World} (hlo : w0.heap.size = lo) (Z : Nat) (ih : WalkOk lo J gf cap T w0 Z) : WalkOk lo J gf cap T w0 (Z + 1) := by
  intro L x y v W M pre hz hx hy bel ow nv hj hT hl hw
  obtain ⟨B, hB⟩ : ∃ B, W.heap.size = B := ⟨_, rfl⟩
  have S1 := WkS.start hJ (.func (.func gf) #[] cap) hlo hB hj ow nv bel
  obtain ⟨W1, hW1⟩ : ∃ W1, (((W.alloc (.cells #[v] 87)).alloc (.cells #[.func (.func gf) #[] cap] 45)).alloc (.cells #[.bool false] 4)) = W1 := ⟨_, rfl⟩
  have s1 : W1.heap.size = B + 3 := by rw [← hW1, ← hB]; simp
  obtain ⟨ax, hax⟩ : ∃ ax : Option Addr, x.map (fun q => (⟨q.p, 0, none⟩ : Addr)) = ax := ⟨_, rfl⟩
  obtain ⟨ay, hay⟩ : ∃ ay : Option Addr, y.map (fun q => (⟨q.p, 0, none⟩ : Addr)) = ay := ⟨_, rfl⟩
  have px : siP x = .pointer ax := by unfold siP; rw [hax]
  have py : siP y = .pointer ay := by unfold siP; rw [hay]
  obtain ⟨ao, c0, hv, _⟩ := (OwnsT.has ow).form
  obtain ⟨n, hn⟩ : ∃ n, L.length = n := ⟨_, rfl⟩
  rw [hn] at hv
  have HV := hid hv
  have HS1 : Hid (WkS lo J w0 W M v (.func (.func gf) #[] cap) L B true M pre W1) := by rw [hW1] at S1; exact S1
  have HALL := hid (And.intro hz (And.intro hx (And.intro hy (And.intro hT (And.intro hl hw)))))
  clear S1 hz hx hy ow nv hj hT hl hw bel
  refine (callsIn_wide (n := 4)).1 ?_
  refine callsIn_of_wp_marks Try.func23 rfl trivial ?_ rfl
  rw [px, py]
  subst hv
  have b8 : W1.cell? ⟨B + 1 + 1, 0, none⟩ = some (.bool false) := HS1.out.b8.cell
  have f8 : W1.frozen? ⟨B + 1 + 1, 0, none⟩ = false := HS1.out.b8.frozen
  have X1 : SiAt W1 x := HALL.out.2.1.grow HS1.out.bel
  have Y1 : SiAt W1 y := HALL.out.2.2.1.grow HS1.out.bel
  have hpe := eqP X1 Y1 ax ay px py
  have CX := hid X1
  have CY := hid Y1
  clear X1 Y1
  simp only [Try.ntmps23, List.size_toArray, List.length_cons, List.length_nil, Nat.reduceAdd, Nat.reduceSub, Array.replicate_succ, Array.replicate_zero, List.push_toArray, List.append_toArray, List.nil_append, List.cons_append]
  by_cases hxy : ax = ay
  · subst hxy
    rw [decide_eq_true rfl] at hpe
    gi_wp2
    have e0 : dl (L.map tl) x y = [] := dl_at CX.out CY.out (px.trans py.symm)
    have r8 := (HS1.out.b8.set (.bool true)).cell
    refine ⟨.bool true, ?_, true, rfl, HS1.out.fin hJ hB (Kp.set W1 (B + 2) 0 (.bool true)) (fun b e => .inl e) (qs := []) (by simp) (fun _ => by rw [e0]; rfl) (by simp)⟩
    simp [results, Try.f23, go_sem, r8]
  · rw [decide_eq_false hxy] at hpe
    have CVX := hid (valueOf_si x W1 CX.out)
    rw [px] at CVX
    obtain ⟨Yx, hYx⟩ : ∃ Yx, (vx (siV x)).toArray = Yx := ⟨_, rfl⟩
    obtain ⟨Yy, hYy⟩ : ∃ Yy, (vx (siV y)).toArray = Yy := ⟨_, rfl⟩
    have HYX : Hid (Yx.size = 35 ∧ Yx.all (·.oneCell') = true) := ⟨by rw [← hYx]; simp [vx_len], by rw [← hYx]; exact vx_oneM _⟩
    have HYY : Hid (Yy.size = 35 ∧ Yy.all (·.oneCell') = true) := ⟨by rw [← hYy]; simp [vx_len], by rw [← hYy]; exact vx_oneM _⟩
    have HXY := hid (And.intro hYx hYy)
    rw [hYx] at CVX
    clear hYx hYy
    gi_wp2_with (first
      | (refine ⟨trivial, ?_⟩; gi_at_call 36; refine (callsIn_wide.2 CVY.out).mono ?_; rintro e W3 ⟨rfl, b3⟩; obtain ⟨T0, hT0⟩ : ∃ T0, W3.heap.size = T0 := ⟨_, rfl⟩; obtain ⟨W4, W5, W6, W7, HA⟩ := two_vars W3 Yx Yy T0 hT0 HYX.out.1 HYY.out.1 HYX.out.2 HYY.out.2; have H3 := hid b3; clear b3)
      | (refine ⟨trivial, ?_⟩; gi_at_call 36; refine (callsIn_wide.2 CVX.out).mono ?_; rintro e W2 ⟨rfl, b2⟩; have H2 := hid b2; have CVY := hid (valueOf_si y W2 (CY.out.grow b2)); rw [py, HXY.out.2] at CVY; clear b2)
      | ((with_reducible refine wpListIn_execW (.pointer (some ⟨T0, 0, none⟩)) W4 ?_ ?_ ?_ ?_ ?_); rfl; exact HA.out.1 _ _ rfl; (intro c h; cases h); exact fun _ _ => trivial)
      | ((with_reducible refine wpListIn_execW (.pointer (some ⟨T0 + 1, 0, none⟩)) W5 ?_ ?_ ?_ ?_ ?_); rfl; exact HA.out.2.1 _ _ rfl; (intro c h; cases h); exact fun _ _ => trivial)
      | ((with_reducible refine wpListIn_skipW W6 ?_ ?_ ?_ ?_ ?_); rfl; exact HA.out.2.2.1 _ _ _ _ rfl rfl rfl; (intro c h; cases h); exact fun _ _ => trivial)
      | ((with_reducible refine wpListIn_skipW W7 ?_ ?_ ?_ ?_ ?_); rfl; exact HA.out.2.2.2.1 _ _ _ _ rfl rfl rfl; (intro c h; cases h); exact fun _ _ => trivial))
    have hYx := HXY.out.1
    have hYy := HXY.out.2
    have S7 : Hid (WkS lo J w0 W M (.slice ao n c0) (.func (.func gf) #[] cap) L B true M pre W7) := HS1.out.up hJ hlo hB (Below.up (Below.up H2.out H3.out) HA.out.2.2.2.2.2.2)
    have l9 : Ch.Lies W7 T0 0 (vx (siV x)).toArray := fun j u hj => by rw [Nat.zero_add, hYx] at *; simp only [World.cell?, HA.out.2.2.2.2.1]; exact hj
    have l10 : Ch.Lies W7 (T0 + 1) 0 (vx (siV y)).toArray := fun j u hj => by rw [Nat.zero_add, hYy] at *; simp only [World.cell?, HA.out.2.2.2.2.2.1]; exact hj
    have HDL : Hid (dl (L.map tl) x y = DO.df (L.map tl) (siV x) (siV y) ++ (mg (siI x) (siI y) 0 0).flatMap (pD (L.map tl) (siI x) (siI y))) := dl_pairs _ _ _
    clear HA H2 H3 hpe CVX CVY
    by_cases hne : siV x = siV y
    case' pos =>
      rw [← hne] at l10
      refine regS T0 (T0 + 1) (siV x) 4 _ W7 rfl rfl rfl l9 l10 fun _ w8 hd => ?_
      rw [foldS]
      obtain ⟨M8, pr8, HS8, HP8⟩ : ∃ M8 pr8, Hid (WkS lo J w0 W M (.slice ao n c0) (.func (.func gf) #[] cap) L B true M8 pr8 w8) ∧ Hid (pr8 = pre ++ (DO.df (L.map tl) (siV x) (siV y)).map toC) := ⟨M, pre, S7.out.up hJ hlo hB (Below.drews (Below.refl _ _) hd), by show pre = _; simp [DO.df, hne]⟩
      clear l9 l10 S7 hd hne HXY hYx hYy
      generalize (vx (siV x)).toArray = YA
      go_simp
    case' neg =>
      have HPL : Hid (pre ++ [toC ⟨L.map tl, siV x, siV y⟩] <+: T) := by
        have := HALL.out.2.2.2.1
        rw [HDL.out, DO.df, if_neg hne] at this
        refine List.IsPrefix.trans ?_ this
        simp
      refine regD B (B + 1) T0 (T0 + 1) (.slice ao n c0) (siV x) (siV y) (ofB (joinL (L.map tl))) (.func (.func gf) #[] cap) 4 gf cap L (fun g w => ∃ M', J g (pre ++ [toC ⟨L.map tl, siV x, siV y⟩]) M' w ∧ Kp M W7 w ∧ ∀ b, M' b → M b ∨ W7.heap.size ≤ b) _ W7 rfl rfl rfl rfl rfl rfl eg hne l9 l10 S7.out.b4.cell S7.out.b7.cell S7.out.ow.has (by have := HALL.out.2.2.2.2.1; omega) (by have := HALL.out.2.2.2.2.2; omega) rfl (fun w hb => ?hc) fun g w8 hF => ?_
      case hc =>
        refine (hY pre M _ w (hJ.up S7.out.j hb) HPL.out).mono ?_
        rintro e w2 ⟨g, M', rfl, j1, k1, m1⟩
        exact ⟨g, rfl, M', j1, (Kp.of (S := M) hb).trans k1 (fun _ _ e => e), fun b e => (m1 b e).imp id fun q => Nat.le_trans hb.size q⟩
      rw [foldD]
      obtain ⟨M8, j8, k8, m8⟩ := hF
      have S8 := S7.out.yield hJ hlo hB k8 m8 j8
      have HDF : Hid (DO.df (L.map tl) (siV x) (siV y) = [⟨L.map tl, siV x, siV y⟩]) := by show _ = _; rw [DO.df, if_neg hne]
      generalize Value.agg (cc ⟨ofB (joinL (L.map tl)), cvV (siV x), cvV (siV y)⟩) = YC
      generalize (vx (siV x)).toArray = YA
      generalize (vx (siV y)).toArray = YB
      generalize ofB (joinL (L.map tl)) = YP
      clear l9 l10 S7 k8 m8 j8 hne HXY hYx hYy
      cases g
      · have q8 : w8.cell? ⟨B + 1 + 1, 0, none⟩ = some (.bool false) := S8.b8.cell
        have qf : w8.frozen? ⟨B + 1 + 1, 0, none⟩ = false := S8.b8.frozen
        have HS8 := hid S8
        clear S8
        go_simp
        gi_wp2
        have r8 := (HS8.out.b8.set (.bool false)).cell
        refine ⟨.bool false, ?_, false, rfl, HS8.out.fin hJ hB (Kp.set w8 (B + 2) 0 (.bool false)) (fun b e => .inl e) rfl (fun h => by cases h) ?_⟩
        · simp [results, Try.f23, go_sem, r8]
        · rw [HDL.out, HDF.out]
          simp
      obtain ⟨pr8, HS8, HP8⟩ : ∃ pr8, Hid (WkS lo J w0 W M (.slice ao n c0) (.func (.func gf) #[] cap) L B true M8 pr8 w8) ∧ Hid (pr8 = pre ++ (DO.df (L.map tl) (siV x) (siV y)).map toC) := ⟨_, S8, by rw [HDF.out]; rfl⟩
      clear S8 HDF HPL
      go_simp
    all_goals
      have CKX := hid (kidsOf_si x w8 (HALL.out.2.1.grow HS8.out.bel) (by have := HALL.out.2.2.2.2.1; omega))
      rw [px] at CKX
      gi_wp2_with (first
        | (refine ⟨trivial, ?_⟩; gi_at_call 38; refine (callsIn_wide.2 (sidesT _ _ W10 T6 hT6 rfl rfl)).mono ?_; rintro e W11 ⟨rfl, H11⟩)
        | (refine ⟨trivial, ?_⟩; gi_at_call 39; refine (callsIn_wide.2 CKY.out).mono ?_; rintro e W10 ⟨uy, rfl, oy, b10⟩; obtain ⟨aoy, cpy, gy, rfl, hpy⟩ := kids_place oy; have HK10 := hid (And.intro b10 hpy); obtain ⟨T6, hT6⟩ : ∃ T6, W10.heap.size = T6 := ⟨_, rfl⟩; clear b10 hpy oy)
        | (refine ⟨trivial, ?_⟩; gi_at_call 39; refine (callsIn_wide.2 CKX.out).mono ?_; rintro e W9 ⟨ux, rfl, ox, b9⟩; obtain ⟨aox, cpx, gx, rfl, hpx⟩ := kids_place ox; have CKY := hid (kidsOf_si y W9 (HALL.out.2.2.1.grow (Below.up HS8.out.bel b9)) (by have := HALL.out.2.2.2.2.1; omega)); rw [py] at CKY; have HK9 := hid (And.intro b9 hpx); clear b9 hpx ox))
    all_goals
      obtain ⟨bxa, bxb, bxf, b11, s11⟩ := H11.out
      have S11 : Hid (WkS lo J w0 W M (.slice ao n c0) (.func (.func gf) #[] cap) L B true M8 pr8 W11) := HS8.out.up hJ hlo hB (Below.up (Below.up HK9.out.1 HK10.out.1) b11)
      have low8 : Hid (∀ b, w8.heap.size ≤ b → ¬ M8 b) := fun b hb e => by have := hJ.lt HS8.out.j e; omega
      have lowv : Hid (∀ b, w8.heap.size ≤ b → (Value.slice ao n c0).ownBlock ≠ some b) := fun b hb e => by have := HS8.out.n5 b e; have := HS8.out.b4.lt; omega
      have s89 := HK9.out.1.size
      have s910 := HK10.out.1.size
      have LX : Hid (∀ i a, (siI x)[i]? = some a → aox = some ⟨gx, 0, none⟩ ∧ w8.heap.size ≤ gx ∧ gx < W11.heap.size ∧ Ch.Lies W11 gx (0 + i * 2) (kA a)) := fun i a hi => by
        obtain ⟨q1, q2, q3, q4⟩ := HK9.out.2 i a hi
        exact ⟨q1, q2, by omega, q4.below (Below.up HK10.out.1 b11)⟩
      have LY : Hid (∀ i a, (siI y)[i]? = some a → aoy = some ⟨gy, 0, none⟩ ∧ w8.heap.size ≤ gy ∧ gy < W11.heap.size ∧ Ch.Lies W11 gy (0 + i * 2) (kA a)) := fun i a hi => by
        obtain ⟨q1, q2, q3, q4⟩ := HK10.out.2 i a hi
        exact ⟨q1, by omega, by omega, q4.below b11⟩
      obtain ⟨P, hP⟩ : ∃ P : Nat → Prop, (fun b => b < W11.heap.size ∧ ¬ M8 b ∧ (Value.slice ao n c0).ownBlock ≠ some b) = P := ⟨_, rfl⟩
      have STOPS : SeqAt Fence.wide 3 Try.prog 54 #[.pointer (some ⟨T6, 0, none⟩), .pointer (some ⟨T6 + 1, 0, none⟩), .pointer (some ⟨T6 + 2, 0, none⟩)] (encP gx 0 gy 0) (KeepD P T6 (T6 + 1) (T6 + 2)) (fun ys : List (Pv (siI x) (siI y)) => ys.map (·.1) = mg (siI x) (siI y) 0 0) (fun ps => ps.map (·.1) <+: mg (siI x) (siI y) 0 0) W11 := fun l J' Jx' X hX hJ' _ hY' h0 => by
        refine sides1_in 3 (by omega) P l T6 (T6 + 1) (T6 + 2) gx 0 gy 0 cpx cpy aox aoy (siI x) (siI y) J' Jx' X hJ' (fun i a hi => ?_) (fun i a hi => ?_) (by have := siI_len x; have := HALL.out.2.2.2.2.1; omega) (by have := siI_len y; have := HALL.out.2.2.2.2.1; omega) ((hX.cell (p := ⟨T6, 0, none⟩) bxa.lt).trans bxa.cell) ((hX.cell (p := ⟨T6 + 1, 0, none⟩) bxb.lt).trans bxb.cell) ((hX.cell (p := ⟨T6 + 2, 0, none⟩) bxf.lt).trans bxf.cell) hY' h0
        · obtain ⟨q1, q2, q3, q4⟩ := LX.out i a hi
          exact ⟨q1, by rw [← hP]; exact ⟨q3, low8.out _ q2, lowv.out _ q2⟩, q4.below hX⟩
        · obtain ⟨q1, q2, q3, q4⟩ := LY.out i a hi
          exact ⟨q1, by rw [← hP]; exact ⟨q3, low8.out _ q2, lowv.out _ q2⟩, q4.below hX⟩
      have I0 : WI lo J w0 W M (.slice ao n c0) (.func (.func gf) #[] cap) L B M8 pr8 W11 x y [] W11 := ⟨M8, by simpa using S11.out, fun b e => .inl e, Kp.refl _ _⟩
      have hB11 : B ≤ W11.heap.size := by have := S11.out.b4.lt; omega
      have HBX := hid (And.intro bxa (And.intro bxb (And.intro bxf b11)))
      clear bxa bxb bxf b11 HK9 HK10 CKX CKY H11 b8 f8
      refine' wpIn_range_at rfl (by omega) (gf := 54) (lb := #[.pointer (some ⟨T6, 0, none⟩), .pointer (some ⟨T6 + 1, 0, none⟩), .pointer (some ⟨T6 + 2, 0, none⟩)]) rfl trivial (enters_of Try.func54 (by kernel_rfl) rfl)
        STOPS (fun h k => h.trans k) (fun X l o o' hl _ _ _ => ⟨by simp, fun b hb => World.putObj_heap_other (by rcases hb with hb | rfl | rfl | rfl; rw [← hP] at hb; have := hb.1; omega; all_goals omega)⟩) (Below.refl _ _) (fun _ => rfl)
        (WI lo J w0 W M (.slice ao n c0) (.func (.func gf) #[] cap) L B M8 pr8 W11 x y) (WX lo J w0 W M (.slice ao n c0) (.func (.func gf) #[] cap) L B pr8 (((mg (siI x) (siI y) 0 0).flatMap (pD (L.map tl) (siI x) (siI y))).map toC)) (WI.own hJ hlo hB hB11 _ (Nat.le_refl _)) (WX.own hJ hlo hB _ hB11) I0 _ ?assign ?body ?done ?stop
      case assign =>
        intro l q X K hK
        simp only [encP]
        gi_wp2
        exact hK
      case body =>
        rintro l ps p X ⟨M', hS, hm, hk⟩ hsp
        have hkn : Hid (∀ b, b < W11.heap.size → w8.heap.size ≤ b → X.heap[b]? = W11.heap[b]?) := fun b h1 h2 => hk.block b h1 fun e => by
          rcases e with e | e
          · exact low8.out b h2 e
          · exact lowv.out b h2 e
        obtain ⟨g, o, v3, w1, w2, w3, hR, o3, k3, bh, ol, hs2⟩ := round_facts hS (by have := HALL.out.2.2.2.2.1; omega) gx gy (fun i a hi => by
          obtain ⟨q1, q2, q3, q4⟩ := LX.out i a hi
          exact ⟨by have := hk.size; omega, lowv.out _ q2, fun j u hj => (World.cell?_of_block (a := ⟨gx, 0 + i * 2 + j, none⟩) (hkn.out gx q3 q2)).trans (q4 j u hj)⟩) (fun i a hi => by
          obtain ⟨q1, q2, q3, q4⟩ := LY.out i a hi
          exact ⟨by have := hk.size; omega, lowv.out _ q2, fun j u hj => (World.cell?_of_block (a := ⟨gy, 0 + i * 2 + j, none⟩) (hkn.out gy q3 q2)).trans (q4 j u hj)⟩) p
        obtain ⟨nm, hnm⟩ : ∃ nm, pNm (siI x) (siI y) p.1 = nm := ⟨_, rfl⟩
        have eD : (dl ((L ++ [nm]).map tl) (pX (siI x) p.1.1) (pX (siI y) p.1.2)).map toC = (pD (L.map tl) (siI x) (siI y) p.1).map toC := by unfold pD; rw [hnm, List.map_append]; rfl
        have hpre := flat_pre (A := siI x) (B := siI y) (L := L.map tl) (ps := ps.map (·.1)) (p := p.1) (by simpa using hsp)
        have hsm := pair_small p
        rw [hnm] at hR o3 hsm
        have HIH : Hid (Calls Try.prog 23 #[v3, siP (pX (siI x) p.1.1), siP (pX (siI y) p.1.2), .func (.func gf) #[] cap] w3 fun e w' => ∃ r : Lw, e = .returned (.bool r.g) ∧ r.w = w' ∧ WPost lo J v3 (L ++ [nm]) w3 M' (pr8 ++ ((ps.map (·.1)).flatMap (pD (L.map tl) (siI x) (siI y))).map toC) ((pD (L.map tl) (siI x) (siI y) p.1).map toC) r.g r.w) := by
          obtain ⟨h1, h2, h3, h4, h5, h6⟩ := HALL.out
          have hjl := joinL_len1 (L.map tl) (tl nm)
          rw [tl_len] at hjl
          refine (ih (L ++ [nm]) (pX (siI x) p.1.1) (pX (siI y) p.1.2) v3 w3 M' _ (by omega) (h2.item _) (h3.item _) (hS.bel.trans (k3.below hS.bel.size fun b e => by have := (World.ownsRow.lt hS.ow b e).1; omega)) o3 (fun b e q => ?_) (hJ.keep _ hS.j k3 (fun b e => hS.nv b e) fun b e => (World.ownsRow.lt hS.ow b e).1) ?_ (by simp; omega) (by rw [List.map_append]; simp only [List.map_cons, List.map_nil]; omega)).mono ?_
          · rcases bh.block with e1 | e1
            · rw [e1] at e; exact hS.nv b e q
            · rw [e1] at e
              injection e with e
              have := hJ.lt hS.j q
              omega
          · rw [eD, List.append_assoc]
            refine List.IsPrefix.trans ?_ h4
            rw [HDL.out, List.map_append, HP8.out, List.append_assoc]
            exact (List.prefix_append_right_inj _).2 ((List.prefix_append_right_inj _).2 hpre)
          · rintro e w' ⟨g', rfl, hp⟩
            rw [eD] at hp
            exact ⟨⟨g', w'⟩, rfl, rfl, hp⟩
        have HF := hid (And.intro hS (And.intro hm (And.intro hk (And.intro hpre (And.intro k3 (And.intro bh (And.intro ol hs2)))))))
        clear hS hm hk hpre k3 bh ol hs2 o3 eD hsm hsp
        gi_wp2
        refine regW B (B + 1) X.heap.size (X.heap.size + 1) g o (.slice ao n c0) v3 (.func (.func gf) #[] cap) _ _ _ _ nm l 2 w1 w2 w3 (fun r => WPost lo J v3 (L ++ [nm]) w3 M' (pr8 ++ ((ps.map (·.1)).flatMap (pD (L.map tl) (siI x) (siI y))).map toC) ((pD (L.map tl) (siI x) (siI y) p.1).map toC) r.g r.w) _ X rfl rfl rfl rfl rfl hR.c40 hR.c41 hR.c42 hR.d0 hR.d1 hR.d2 hR.d3 (fun op a ho h1 h2 => by rw [← hR.e3]; exact exec_two ho _ _ h1 h2 _ _ hR.s3) (fun op a ho h1 => by rw [← hR.e8]; exact exec_oneT ho _ h1 _ _ hR.s8) hR.m0 hR.m1 hR.hor hR.cn hR.ha9 hR.hS1 hR.hS2 HIH.out fun r hF => ?_
        rw [foldW]
        obtain ⟨hS, hm, hk, hpre, k3, bh, ol, hs2⟩ := HF.out
        obtain ⟨M2, qs, hS2, hq1, hq2, kk, mm⟩ := hS.after hJ hlo hB k3 bh hs2 ol hF
        have hot := hS.others hJ kk
        have HZ := hid (And.intro hS (And.intro hm (And.intro hk (And.intro hpre (And.intro hS2 (And.intro hq1 (And.intro hq2 (And.intro kk (And.intro mm hot)))))))))
        clear hS hm hk hpre k3 bh ol hs2 hR HIH HF hF hq1 hq2 kk mm hot
        obtain ⟨g', w'⟩ := r
        cases g'
        · have q8 : w'.cell? ⟨B + 1 + 1, 0, none⟩ = some (.bool false) := hS2.b8.cell
          have qf : w'.frozen? ⟨B + 1 + 1, 0, none⟩ = false := hS2.b8.frozen
          clear hS2
          go_simp
          gi_wp2
          obtain ⟨hS, hm, hk, hpre, hS2, hq1, hq2, kk, mm, hot⟩ := HZ.out
          refine ⟨hot.trans (KeepsOthers.setCell _ _ _), M2, ((ps.map (·.1)).flatMap (pD (L.map tl) (siI x) (siI y))).map toC ++ qs, ?_, ?_⟩
          · have hst := hS2.store hJ hlo hB
            rw [List.append_assoc] at hst
            exact hst
          · exact List.IsPrefix.trans ((List.prefix_append_right_inj _).2 hq2) hpre
        · clear hS2
          go_simp
          gi_wp2
          obtain ⟨hS, hm, hk, hpre, hS2, hq1, hq2, kk, mm, hot⟩ := HZ.out
          have nM : ∀ b, b < W11.heap.size → ¬ M8 b → ¬ M' b := fun b h1 h2 e => by
            rcases hm b e with e | e
            · exact h2 e
            · omega
          refine ⟨hot, ⟨kk.size, fun b hb => kk.block b ?_ fun e => ?_⟩, M2, ?_, fun b e => ?_, hk.trans kk fun b hb e => ?_⟩
          · have := hk.size
            rcases hb with hb | rfl | rfl | rfl
            · rw [← hP] at hb; have := hb.1; omega
            all_goals omega
          · have key : P b := by
              rcases hb with hb | rfl | rfl | rfl
              · exact hb
              all_goals rw [← hP]; exact ⟨by omega, low8.out _ (by omega), lowv.out _ (by omega)⟩
            rw [← hP] at key
            rcases e with e | e
            · exact nM b key.1 key.2.1 e
            · exact key.2.2 e
          · rw [hq1 (by first | rfl | trivial)] at hS2
            simpa [List.append_assoc] using hS2
          · rcases mm b e with e | e
            · exact hm b e
            · have := hk.size; exact .inr (by omega)
          · rcases e with e | e
            · rcases hm b e with e | e
              · exact .inl e
              · omega
            · exact .inr e
      case done =>
        rintro D qs X hD hqs ⟨M', hS, hm, hk⟩ hK
        have q8 : X.cell? ⟨B + 1 + 1, 0, none⟩ = some (.bool false) := hS.b8.cell
        have qf : X.frozen? ⟨B + 1 + 1, 0, none⟩ = false := hS.b8.frozen
        have HZ := hid (And.intro hqs (And.intro hS hK))
        clear hqs hS hm hk hK
        gi_wp2
        obtain ⟨hqs, hS, hK⟩ := HZ.out
        have k1 : (X.setCell ⟨B + 2, 0, none⟩ (.bool true)).heap[D]? = some (.deferred (some [])) := (KeepsOthers.setCell _ _ _).same D _ hK rfl
        refine ⟨by simp, .inl ⟨_, _, rfl, run_takeDeferred k1, ?_⟩⟩
        have r8 := cell_kept (hS.b8.set (.bool true)).cell (grownBy_putObj' _ D (.deferred none)) (fun r e => by cases e; exact ⟨_, k1, rfl⟩)
        refine ⟨.bool true, ?_, true, rfl, hS.fin hJ hB (S := fun b => b = B + 2 ∨ b = D) (((Kp.set X (B + 2) 0 (.bool true)).mono fun _ _ e => .inl e).trans (Kp.put _ D (.deferred none)) fun _ _ e => .inr e) (fun b e => e.imp id fun e => by subst e; exact ⟨by omega, fun _ => ⟨_, hK, rfl⟩⟩) (qs := (dl (L.map tl) x y).map toC) ?_ (fun _ => rfl) (List.prefix_rfl)⟩
        · simp [results, Try.f23, go_sem, r8]
        · rw [hqs, HP8.out, HDL.out, List.map_append, List.append_assoc]
      case stop =>
        rintro D ps X hD hps ⟨M', qs, hS, hq⟩ hK
        have HZ := hid (And.intro hS (And.intro hK hq))
        clear hS hK hq
        gi_wp2
        obtain ⟨hS, hK, hq⟩ := HZ.out
        refine ⟨by simp, .inl ⟨_, _, rfl, run_takeDeferred hK, ?_⟩⟩
        have r8 := cell_kept hS.b8.cell (grownBy_putObj' _ D (.deferred none)) (fun r e => by cases e; exact ⟨_, hK, rfl⟩)
        refine ⟨.bool false, ?_, false, rfl, hS.fin hJ hB (Kp.put X D (.deferred none)) (fun b e => .inr (by subst e; exact ⟨by omega, fun _ => ⟨_, hK, rfl⟩⟩)) (qs := (DO.df (L.map tl) (siV x) (siV y)).map toC ++ qs) (by rw [HP8.out, List.append_assoc]) (fun h => by cases h) ?_⟩
        · simp [results, Try.f23, go_sem, r8]
        · rw [HDL.out, List.map_append]
          exact (List.prefix_append_right_inj _).2 hq
theorem walk_all {lo : Nat} {J : Ys} (hJ : Yd lo J) {gf : Nat} {cap : Array Value} (eg : ∀ args w, (callFunc gf args).run Try.prog w = .ok (.enter gf args) w) {T : List Cd} (hY : YOk gf cap J T) {w0 : World} (hlo : w0.heap.size = lo) : ∀ Z, WalkOk lo J gf cap T w0 Z
  | 0 => fun L x y v W M pre h => by omega
  | Z + 1 => walk_step hJ eg hY hlo Z (walk_all hJ eg hY hlo Z)
end Go.Proofs.Ytlelgboklkmkdaa
