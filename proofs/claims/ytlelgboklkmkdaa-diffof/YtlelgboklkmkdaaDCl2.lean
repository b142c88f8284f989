import Derived.Test.YtlelgboklkmkdaaDOf1
set_option maxRecDepth 100000
set_option maxHeartbeats 8000000
/-
  The law's closure that goes through the iterator again (10).
-/
namespace Go.Proofs.Ytlelgboklkmkdaa
open Go.RowKit Ch
theorem was2 : True := trivial
theorem exec_eq44 {o : Oper} {a : Act} (x y : Operand) (v u : Cd) (ho : o.op = .binOp .eql 44 x y 44) (hx : a.eval x = .agg (cc v)) (hy : a.eval y = .agg (cc u)) (w : World) : (execOp a.eval o).run Try.prog w = .ok (.value (.bool (decide (v = u)))) w := by
  have h' : (Op.equal 44 (.agg (cc v)) (.agg (cc u))).run Try.prog w = .ok (decide (v = u)) w := eq55 9996 v u w
  have hg : Try.prog.eqGuardType Try.prog.depth 44 = false := by kernel_rfl
  unfold execOp
  simp only [ho, hx, hy, eqGuard, Sem.run_bind]
  simp [Result.andThen, binOp, h', hg]
def MC (Bw : Nat) (wr : World) (_ : Unit) (done : Nat → Bool) (w : World) : Prop := (done 27 = false → Drew wr w) ∧ (done 27 = true → ∃ wz, Drew wr wz ∧ w = wz.setCell ⟨Bw, 0, none⟩ (.bool true))
theorem MC.step {Bw : Nat} {wr : World} {r : Unit} {done : Nat → Bool} {w : World} (h : MC Bw wr r done w) {j : Nat} (h1 : j ≠ 27) : MC Bw wr r (upd done j) w := by
  unfold MC at *
  rw [upd_ne done (Ne.symm h1)]
  exact h
theorem backC : backB (opsAt Try.f10 2) = true := by kernel_rfl
theorem dstC : dstB (opsAt Try.f10 2) 48 = true := by kernel_rfl
theorem sizeC : (opsAt Try.f10 2).size = 28 := by kernel_rfl
theorem freeC2 : freeB (opsAt Try.f10 2) 2 = true := by kernel_rfl
theorem freeC3 : freeB (opsAt Try.f10 2) 3 = true := by kernel_rfl
theorem freeC4 : freeB (opsAt Try.f10 2) 4 = true := by kernel_rfl
theorem freeC5 : freeB (opsAt Try.f10 2) 5 = true := by kernel_rfl
theorem freeC7 : freeB (opsAt Try.f10 2) 7 = true := by kernel_rfl
theorem freeC8 : freeB (opsAt Try.f10 2) 8 = true := by kernel_rfl
theorem sC_0 : say (opsAt Try.f10 2) 0 = some (some 14, .load 4 (.tmp 2), none) := by kernel_rfl
theorem dC_0 : slotB (opsAt Try.f10 2) 0 = some 14 := by kernel_rfl
theorem sC_1 : say (opsAt Try.f10 2) 1 = some (some 15, .move (.tmp 14), none) := by kernel_rfl
theorem dC_1 : slotB (opsAt Try.f10 2) 1 = some 15 := by kernel_rfl
theorem sC_2 : say (opsAt Try.f10 2) 2 = some (some 16, .load 3 (.tmp 3), some (1, true)) := by kernel_rfl
theorem dC_2 : slotB (opsAt Try.f10 2) 2 = some 16 := by kernel_rfl
theorem sC_3 : say (opsAt Try.f10 2) 3 = some (some 17, .load 35 (.tmp 4), some (1, true)) := by kernel_rfl
theorem dC_3 : slotB (opsAt Try.f10 2) 3 = some 17 := by kernel_rfl
theorem sC_4 : say (opsAt Try.f10 2) 4 = some (some 18, .call { callee := .builtin .len, args := #[.tmp 17], argTypes := #[35] }, some (1, true)) := by kernel_rfl
theorem dC_4 : slotB (opsAt Try.f10 2) 4 = some 18 := by kernel_rfl
theorem sC_5 : say (opsAt Try.f10 2) 5 = some (some 19, .binOp .lss 3 (.tmp 16) (.tmp 18) 3, some (1, true)) := by kernel_rfl
theorem dC_5 : slotB (opsAt Try.f10 2) 5 = some 19 := by kernel_rfl
theorem sC_6 : say (opsAt Try.f10 2) 6 = some (some 20, .pick (.tmp 15) (.tmp 19) (.const (.bool false)), none) := by kernel_rfl
theorem dC_6 : slotB (opsAt Try.f10 2) 6 = some 20 := by kernel_rfl
theorem sC_7 : say (opsAt Try.f10 2) 7 = some (some 21, .move (.tmp 20), none) := by kernel_rfl
theorem dC_7 : slotB (opsAt Try.f10 2) 7 = some 21 := by kernel_rfl
theorem sC_8 : say (opsAt Try.f10 2) 8 = some (some 22, .load 44 (.tmp 5), some (7, true)) := by kernel_rfl
theorem dC_8 : slotB (opsAt Try.f10 2) 8 = some 22 := by kernel_rfl
theorem sC_9 : say (opsAt Try.f10 2) 9 = some (some 23, .load 35 (.tmp 4), some (7, true)) := by kernel_rfl
theorem dC_9 : slotB (opsAt Try.f10 2) 9 = some 23 := by kernel_rfl
theorem sC_10 : say (opsAt Try.f10 2) 10 = some (some 24, .load 3 (.tmp 3), some (7, true)) := by kernel_rfl
theorem dC_10 : slotB (opsAt Try.f10 2) 10 = some 24 := by kernel_rfl
theorem sC_11 : say (opsAt Try.f10 2) 11 = some (some 25, .load 35 (.tmp 4), some (7, true)) := by kernel_rfl
theorem dC_11 : slotB (opsAt Try.f10 2) 11 = some 25 := by kernel_rfl
theorem sC_12 : say (opsAt Try.f10 2) 12 = some (some 26, .call { callee := .builtin .len, args := #[.tmp 25], argTypes := #[35] }, some (7, true)) := by kernel_rfl
theorem dC_12 : slotB (opsAt Try.f10 2) 12 = some 26 := by kernel_rfl
theorem sC_13 : say (opsAt Try.f10 2) 13 = some (some 27, .binOp .sub 3 (.tmp 26) (.const (.int .i64 1)) 3, some (7, true)) := by kernel_rfl
theorem dC_13 : slotB (opsAt Try.f10 2) 13 = some 27 := by kernel_rfl
theorem sC_14 : say (opsAt Try.f10 2) 14 = some (some 28, .call { callee := .builtin .min, args := #[.tmp 24, .tmp 27], argTypes := #[3, 3] }, some (7, true)) := by kernel_rfl
theorem dC_14 : slotB (opsAt Try.f10 2) 14 = some 28 := by kernel_rfl
theorem sC_15 : say (opsAt Try.f10 2) 15 = some (some 29, .indexAddr 35 (.tmp 23) (.tmp 28), some (7, true)) := by kernel_rfl
theorem dC_15 : slotB (opsAt Try.f10 2) 15 = some 29 := by kernel_rfl
theorem sC_16 : say (opsAt Try.f10 2) 16 = some (some 30, .load 44 (.tmp 29), some (7, true)) := by kernel_rfl
theorem dC_16 : slotB (opsAt Try.f10 2) 16 = some 30 := by kernel_rfl
theorem sC_17 : say (opsAt Try.f10 2) 17 = some (some 31, .binOp .eql 44 (.tmp 22) (.tmp 30) 44, some (7, true)) := by kernel_rfl
theorem dC_17 : slotB (opsAt Try.f10 2) 17 = some 31 := by kernel_rfl
theorem sC_18 : say (opsAt Try.f10 2) 18 = some (some 32, .pick (.tmp 21) (.tmp 31) (.const (.bool false)), none) := by kernel_rfl
theorem dC_18 : slotB (opsAt Try.f10 2) 18 = some 32 := by kernel_rfl
theorem sC_19 : say (opsAt Try.f10 2) 19 = some (some 33, .move (.tmp 32), none) := by kernel_rfl
theorem dC_19 : slotB (opsAt Try.f10 2) 19 = some 33 := by kernel_rfl
theorem sC_20 : say (opsAt Try.f10 2) 20 = some (some 34, .move (.tmp 8), some (19, true)) := by kernel_rfl
theorem dC_20 : slotB (opsAt Try.f10 2) 20 = some 34 := by kernel_rfl
theorem sC_21 : say (opsAt Try.f10 2) 21 = some (some 35, .pick (.tmp 33) (.tmp 34) (.const (.bool false)), none) := by kernel_rfl
theorem dC_21 : slotB (opsAt Try.f10 2) 21 = some 35 := by kernel_rfl
theorem sC_22 : say (opsAt Try.f10 2) 22 = some (some 36, .move (.tmp 35), none) := by kernel_rfl
theorem dC_22 : slotB (opsAt Try.f10 2) 22 = some 36 := by kernel_rfl
theorem sC_23 : say (opsAt Try.f10 2) 23 = some (some 37, .move (.tmp 7), some (22, true)) := by kernel_rfl
theorem dC_23 : slotB (opsAt Try.f10 2) 23 = some 37 := by kernel_rfl
theorem sC_24 : say (opsAt Try.f10 2) 24 = some (some 38, .load 35 (.tmp 4), some (22, true)) := by kernel_rfl
theorem dC_24 : slotB (opsAt Try.f10 2) 24 = some 38 := by kernel_rfl
theorem sC_25 : say (opsAt Try.f10 2) 25 = some (some 39, .call { callee := .value (.func 9), args := #[.tmp 37, .tmp 38], argTypes := #[35, 35] }, some (22, true)) := by kernel_rfl
theorem dC_25 : slotB (opsAt Try.f10 2) 25 = some 39 := by kernel_rfl
theorem sC_26 : say (opsAt Try.f10 2) 26 = some (some 40, .pick (.tmp 36) (.tmp 39) (.const (.bool false)), none) := by kernel_rfl
theorem dC_26 : slotB (opsAt Try.f10 2) 26 = some 40 := by kernel_rfl
theorem sC_27 : say (opsAt Try.f10 2) 27 = some (none, .store 4 (.tmp 2) (.tmp 40), none) := by kernel_rfl
def VC (_Bw _Bi _Bv _D gv ov n cv k : Nat) (c : Cd) (u : Value) (_r : Unit) : Nat → Value
  | 0 => .bool true
  | 1 => .bool true
  | 2 => .int .i64 (k : Int)
  | 3 => .slice (some ⟨gv, ov, none⟩) n cv
  | 4 => .int .i64 (n : Int)
  | 5 => .bool true
  | 6 => .bool true
  | 7 => .bool true
  | 8 => .agg (cc c)
  | 9 => .slice (some ⟨gv, ov, none⟩) n cv
  | 10 => .int .i64 (k : Int)
  | 11 => .slice (some ⟨gv, ov, none⟩) n cv
  | 12 => .int .i64 (n : Int)
  | 13 => .int .i64 ((n : Int) - 1)
  | 14 => .int .i64 (k : Int)
  | 15 => .pointer (some ⟨gv, ov + k * 71, none⟩)
  | 16 => .agg (cc c)
  | 17 => .bool true
  | 18 => .bool true
  | 19 => .bool true
  | 20 => .bool true
  | 21 => .bool true
  | 22 => .bool true
  | 23 => u
  | 24 => .slice (some ⟨gv, ov, none⟩) n cv
  | 25 => .bool true
  | 26 => .bool true
  | 27 => undef
  | _ => undef
theorem regC (Bw Bi Bv D gv ov n cv k : Nat) (c : Cd) (u : Value)  (t0 : Array Value) (wr : World) {Q : Exit → Act → World → Prop} (ht : t0.size = 48) (h2 : t0.getD 2 undef = .pointer (some ⟨Bw, 0, none⟩)) (h3 : t0.getD 3 undef = .pointer (some ⟨Bi, 0, none⟩)) (h4 : t0.getD 4 undef = .pointer (some ⟨Bv, 0, none⟩)) (h5 : t0.getD 5 undef = .pointer (some ⟨D, 0, none⟩)) (h7 : t0.getD 7 undef = u) (h8 : t0.getD 8 undef = .bool true)
    (kI : (k : Int) < (n : Int)) (k0 : (0 : Int) ≤ (k : Int)) (hsub : IntKind.i64.wrap ((n : Int) - 1) = (n : Int) - 1) (hmin : min (k : Int) ((n : Int) - 1) = (k : Int)) (cw : wr.cell? ⟨Bw, 0, none⟩ = some (.bool true)) (fw : wr.frozen? ⟨Bw, 0, none⟩ = false) (ci : wr.cell? ⟨Bi, 0, none⟩ = some (.int .i64 (k : Int))) (cvv : wr.cell? ⟨Bv, 0, none⟩ = some (.slice (some ⟨gv, ov, none⟩) n cv)) (lD : Ch.Lies wr D 0 (cc c)) (lk : Ch.Lies wr gv (ov + k * 71) (cc c))
    (hC : ∀ w, Drew wr w → Calls Try.prog 9 #[u, .slice (some ⟨gv, ov, none⟩) n cv] w fun e w' => e = .returned (.bool true) ∧ Drew w w')
    (hQ : ∀ (r : Unit) wz, Drew wr wz → Q .normal ⟨fold (opsAt Try.f10 2) (VC Bw Bi Bv D gv ov n cv k c u r) t0 28, []⟩ (wz.setCell ⟨Bw, 0, none⟩ (.bool true))) : (Code.region 2 (opsAt Try.f10 2) true).wp Try.prog Q ⟨t0, []⟩ wr := by
  have hB : dstB (opsAt Try.f10 2) t0.size = true := by rw [ht]; exact dstC
  refine inv_region (by kernel_rfl) (IE (opsAt Try.f10 2) (VC Bw Bi Bv D gv ov n cv k c u) t0 (MC Bw wr)) backC ⟨(), t0, rfl, ⟨rfl, fun _ _ => rfl, fun _ _ _ _ _ h => by cases h⟩, (fun _ => ⟨1, rfl⟩), (fun h => by cases h)⟩ ?_ ?_
  rotate_left 1
  · rintro done a w ⟨r, t, rfl, hS, hM⟩ hall
    rw [hS.end hB hall, sizeC]
    obtain ⟨wz, hz, rfl⟩ := hM.2 (hall 27 (by rw [sizeC]; decide))
    exact hQ r wz hz
  · rintro jz op done a w ho ⟨r, t, rfl, hS, hM⟩ hnd hdep hcl
    have e2 : t[2]?.getD undef = .pointer (some ⟨Bw, 0, none⟩) := (hS.old freeC2).trans h2
    have e3 : t[3]?.getD undef = .pointer (some ⟨Bi, 0, none⟩) := (hS.old freeC3).trans h3
    have e4 : t[4]?.getD undef = .pointer (some ⟨Bv, 0, none⟩) := (hS.old freeC4).trans h4
    have e5 : t[5]?.getD undef = .pointer (some ⟨D, 0, none⟩) := (hS.old freeC5).trans h5
    have e7 : t[7]?.getD undef = u := (hS.old freeC7).trans h7
    have e8 : t[8]?.getD undef = .bool true := (hS.old freeC8).trans h8
    have hlt : jz < 28 := by rw [← sizeC]; exact (Array.getElem?_eq_some_iff.1 ho).1
    match jz, hlt, ho, hnd, hdep with
    | 0, _, ho, hnd, hdep =>
      obtain ⟨hd, hop, hgd⟩ := say_of sC_0 ho
      have ny27 : done 27 = false := not_yet (k := 0) (j := 27) (by kernel_rfl) hcl hnd
      have hz := hM.1 ny27
      have cz := (hz.cell _).trans cw
      refine ie_val r hB ho (wanted_none hgd) hd hS (hM.step (by decide)) ?_
      unfold execOp
      simp only [hop]
      simp [e2, VC, cz, go_sem]
    | 1, _, ho, hnd, hdep =>
      obtain ⟨hd, hop, hgd⟩ := say_of sC_1 ho
      have x14 : t[14]?.getD undef = _ := hS.at dC_0 (waits (j := 0) (by kernel_rfl) ho hdep)
      simp only [VC] at x14
      refine ie_val r hB ho (wanted_none hgd) hd hS (hM.step (by decide)) ?_
      unfold execOp
      simp only [hop]
      simp [x14, VC, go_sem]
    | 2, _, ho, hnd, hdep =>
      obtain ⟨hd, hop, hgd⟩ := say_of sC_2 ho
      have gx : t[15]?.getD undef = _ := hS.at dC_1 (waits (j := 1) (by kernel_rfl) ho hdep)
      simp only [VC] at gx
      have ny27 : done 27 = false := not_yet (k := 2) (j := 27) (by kernel_rfl) hcl hnd
      have hz := hM.1 ny27
      have cz := (hz.cell _).trans ci
      refine ie_val r hB ho (wanted_yes hgd dC_1 gx) hd hS (hM.step (by decide)) ?_
      unfold execOp
      simp only [hop]
      simp [e3, VC, cz, go_sem]
    | 3, _, ho, hnd, hdep =>
      obtain ⟨hd, hop, hgd⟩ := say_of sC_3 ho
      have gx : t[15]?.getD undef = _ := hS.at dC_1 (waits (j := 1) (by kernel_rfl) ho hdep)
      simp only [VC] at gx
      have ny27 : done 27 = false := not_yet (k := 3) (j := 27) (by kernel_rfl) hcl hnd
      have hz := hM.1 ny27
      have cz := (hz.cell _).trans cvv
      refine ie_val r hB ho (wanted_yes hgd dC_1 gx) hd hS (hM.step (by decide)) ?_
      unfold execOp
      simp only [hop]
      simp [e4, VC, cz, go_sem]
    | 4, _, ho, hnd, hdep =>
      obtain ⟨hd, hop, hgd⟩ := say_of sC_4 ho
      have gx : t[15]?.getD undef = _ := hS.at dC_1 (waits (j := 1) (by kernel_rfl) ho hdep)
      simp only [VC] at gx
      have x17 : t[17]?.getD undef = _ := hS.at dC_3 (waits (j := 3) (by kernel_rfl) ho hdep)
      simp only [VC] at x17
      refine ie_val r hB ho (wanted_yes hgd dC_1 gx) hd hS (hM.step (by decide)) ?_
      unfold execOp
      simp only [hop]
      simp [x17, VC, go_sem]
    | 5, _, ho, hnd, hdep =>
      obtain ⟨hd, hop, hgd⟩ := say_of sC_5 ho
      have gx : t[15]?.getD undef = _ := hS.at dC_1 (waits (j := 1) (by kernel_rfl) ho hdep)
      simp only [VC] at gx
      have x16 : t[16]?.getD undef = _ := hS.at dC_2 (waits (j := 2) (by kernel_rfl) ho hdep)
      simp only [VC] at x16
      have x18 : t[18]?.getD undef = _ := hS.at dC_4 (waits (j := 4) (by kernel_rfl) ho hdep)
      simp only [VC] at x18
      refine ie_val r hB ho (wanted_yes hgd dC_1 gx) hd hS (hM.step (by decide)) ?_
      unfold execOp
      simp only [hop]
      simp [x16, x18, VC, kI, go_sem]
    | 6, _, ho, hnd, hdep =>
      obtain ⟨hd, hop, hgd⟩ := say_of sC_6 ho
      have x15 : t[15]?.getD undef = _ := hS.at dC_1 (waits (j := 1) (by kernel_rfl) ho hdep)
      simp only [VC] at x15
      have x19 : t[19]?.getD undef = _ := hS.at dC_5 (waits (j := 5) (by kernel_rfl) ho hdep)
      simp only [VC] at x19
      refine ie_val r hB ho (wanted_none hgd) hd hS (hM.step (by decide)) ?_
      unfold execOp
      simp only [hop]
      simp [x15, x19, VC, go_sem]
    | 7, _, ho, hnd, hdep =>
      obtain ⟨hd, hop, hgd⟩ := say_of sC_7 ho
      have x20 : t[20]?.getD undef = _ := hS.at dC_6 (waits (j := 6) (by kernel_rfl) ho hdep)
      simp only [VC] at x20
      refine ie_val r hB ho (wanted_none hgd) hd hS (hM.step (by decide)) ?_
      unfold execOp
      simp only [hop]
      simp [x20, VC, go_sem]
    | 8, _, ho, hnd, hdep =>
      obtain ⟨hd, hop, hgd⟩ := say_of sC_8 ho
      have gx : t[21]?.getD undef = _ := hS.at dC_7 (waits (j := 7) (by kernel_rfl) ho hdep)
      simp only [VC] at gx
      have ny27 : done 27 = false := not_yet (k := 8) (j := 27) (by kernel_rfl) hcl hnd
      refine ie_val r hB ho (wanted_yes hgd dC_7 gx) hd hS (hM.step (by decide)) ?_
      have hz := hM.1 ny27
      exact Ch.exec_load 44 _ hop D 0 (by show t.getD 5 undef = _; rw [Array.getD_eq_getD_getElem?]; exact e5) (cc c) _ (lD.drew hz) under55 rfl (by rw [size55, cc_size])
    | 9, _, ho, hnd, hdep =>
      obtain ⟨hd, hop, hgd⟩ := say_of sC_9 ho
      have gx : t[21]?.getD undef = _ := hS.at dC_7 (waits (j := 7) (by kernel_rfl) ho hdep)
      simp only [VC] at gx
      have ny27 : done 27 = false := not_yet (k := 9) (j := 27) (by kernel_rfl) hcl hnd
      have hz := hM.1 ny27
      have cz := (hz.cell _).trans cvv
      refine ie_val r hB ho (wanted_yes hgd dC_7 gx) hd hS (hM.step (by decide)) ?_
      unfold execOp
      simp only [hop]
      simp [e4, VC, cz, go_sem]
    | 10, _, ho, hnd, hdep =>
      obtain ⟨hd, hop, hgd⟩ := say_of sC_10 ho
      have gx : t[21]?.getD undef = _ := hS.at dC_7 (waits (j := 7) (by kernel_rfl) ho hdep)
      simp only [VC] at gx
      have ny27 : done 27 = false := not_yet (k := 10) (j := 27) (by kernel_rfl) hcl hnd
      have hz := hM.1 ny27
      have cz := (hz.cell _).trans ci
      refine ie_val r hB ho (wanted_yes hgd dC_7 gx) hd hS (hM.step (by decide)) ?_
      unfold execOp
      simp only [hop]
      simp [e3, VC, cz, go_sem]
    | 11, _, ho, hnd, hdep =>
      obtain ⟨hd, hop, hgd⟩ := say_of sC_11 ho
      have gx : t[21]?.getD undef = _ := hS.at dC_7 (waits (j := 7) (by kernel_rfl) ho hdep)
      simp only [VC] at gx
      have ny27 : done 27 = false := not_yet (k := 11) (j := 27) (by kernel_rfl) hcl hnd
      have hz := hM.1 ny27
      have cz := (hz.cell _).trans cvv
      refine ie_val r hB ho (wanted_yes hgd dC_7 gx) hd hS (hM.step (by decide)) ?_
      unfold execOp
      simp only [hop]
      simp [e4, VC, cz, go_sem]
    | 12, _, ho, hnd, hdep =>
      obtain ⟨hd, hop, hgd⟩ := say_of sC_12 ho
      have gx : t[21]?.getD undef = _ := hS.at dC_7 (waits (j := 7) (by kernel_rfl) ho hdep)
      simp only [VC] at gx
      have x25 : t[25]?.getD undef = _ := hS.at dC_11 (waits (j := 11) (by kernel_rfl) ho hdep)
      simp only [VC] at x25
      refine ie_val r hB ho (wanted_yes hgd dC_7 gx) hd hS (hM.step (by decide)) ?_
      unfold execOp
      simp only [hop]
      simp [x25, VC, go_sem]
    | 13, _, ho, hnd, hdep =>
      obtain ⟨hd, hop, hgd⟩ := say_of sC_13 ho
      have gx : t[21]?.getD undef = _ := hS.at dC_7 (waits (j := 7) (by kernel_rfl) ho hdep)
      simp only [VC] at gx
      have x26 : t[26]?.getD undef = _ := hS.at dC_12 (waits (j := 12) (by kernel_rfl) ho hdep)
      simp only [VC] at x26
      refine ie_val r hB ho (wanted_yes hgd dC_7 gx) hd hS (hM.step (by decide)) ?_
      unfold execOp
      simp only [hop]
      simp [x26, VC, hsub, go_sem]
    | 14, _, ho, hnd, hdep =>
      obtain ⟨hd, hop, hgd⟩ := say_of sC_14 ho
      have gx : t[21]?.getD undef = _ := hS.at dC_7 (waits (j := 7) (by kernel_rfl) ho hdep)
      simp only [VC] at gx
      have x24 : t[24]?.getD undef = _ := hS.at dC_10 (waits (j := 10) (by kernel_rfl) ho hdep)
      simp only [VC] at x24
      have x27 : t[27]?.getD undef = _ := hS.at dC_13 (waits (j := 13) (by kernel_rfl) ho hdep)
      simp only [VC] at x27
      refine ie_val r hB ho (wanted_yes hgd dC_7 gx) hd hS (hM.step (by decide)) ?_
      unfold execOp
      simp only [hop]
      simp [x24, x27, VC, hmin, go_sem]
    | 15, _, ho, hnd, hdep =>
      obtain ⟨hd, hop, hgd⟩ := say_of sC_15 ho
      have gx : t[21]?.getD undef = _ := hS.at dC_7 (waits (j := 7) (by kernel_rfl) ho hdep)
      simp only [VC] at gx
      have x23 : t[23]?.getD undef = _ := hS.at dC_9 (waits (j := 9) (by kernel_rfl) ho hdep)
      simp only [VC] at x23
      have x28 : t[28]?.getD undef = _ := hS.at dC_14 (waits (j := 14) (by kernel_rfl) ho hdep)
      simp only [VC] at x28
      refine ie_val r hB ho (wanted_yes hgd dC_7 gx) hd hS (hM.step (by decide)) ?_
      unfold execOp
      simp only [hop]
      simp [x23, x28, VC, kI, k0, Ch.addr_add, go_sem]
    | 16, _, ho, hnd, hdep =>
      obtain ⟨hd, hop, hgd⟩ := say_of sC_16 ho
      have gx : t[21]?.getD undef = _ := hS.at dC_7 (waits (j := 7) (by kernel_rfl) ho hdep)
      simp only [VC] at gx
      have x29 : t[29]?.getD undef = _ := hS.at dC_15 (waits (j := 15) (by kernel_rfl) ho hdep)
      simp only [VC] at x29
      have ny27 : done 27 = false := not_yet (k := 16) (j := 27) (by kernel_rfl) hcl hnd
      refine ie_val r hB ho (wanted_yes hgd dC_7 gx) hd hS (hM.step (by decide)) ?_
      have hz := hM.1 ny27
      exact Ch.exec_load 44 _ hop gv (ov + k * 71) (by show t.getD 29 undef = _; rw [Array.getD_eq_getD_getElem?]; exact x29) (cc c) _ (lk.drew hz) under55 rfl (by rw [size55, cc_size])
    | 17, _, ho, hnd, hdep =>
      obtain ⟨hd, hop, hgd⟩ := say_of sC_17 ho
      have gx : t[21]?.getD undef = _ := hS.at dC_7 (waits (j := 7) (by kernel_rfl) ho hdep)
      simp only [VC] at gx
      have x22 : t[22]?.getD undef = _ := hS.at dC_8 (waits (j := 8) (by kernel_rfl) ho hdep)
      simp only [VC] at x22
      have x30 : t[30]?.getD undef = _ := hS.at dC_16 (waits (j := 16) (by kernel_rfl) ho hdep)
      simp only [VC] at x30
      refine ie_val r hB ho (wanted_yes hgd dC_7 gx) hd hS (hM.step (by decide)) ?_
      have := exec_eq44 (a := ⟨t, []⟩) _ _ c c hop (by show t.getD 22 undef = _; rw [Array.getD_eq_getD_getElem?]; exact x22) (by show t.getD 30 undef = _; rw [Array.getD_eq_getD_getElem?]; exact x30) w
      rw [decide_eq_true rfl] at this
      exact this
    | 18, _, ho, hnd, hdep =>
      obtain ⟨hd, hop, hgd⟩ := say_of sC_18 ho
      have x21 : t[21]?.getD undef = _ := hS.at dC_7 (waits (j := 7) (by kernel_rfl) ho hdep)
      simp only [VC] at x21
      have x31 : t[31]?.getD undef = _ := hS.at dC_17 (waits (j := 17) (by kernel_rfl) ho hdep)
      simp only [VC] at x31
      refine ie_val r hB ho (wanted_none hgd) hd hS (hM.step (by decide)) ?_
      unfold execOp
      simp only [hop]
      simp [x21, x31, VC, go_sem]
    | 19, _, ho, hnd, hdep =>
      obtain ⟨hd, hop, hgd⟩ := say_of sC_19 ho
      have x32 : t[32]?.getD undef = _ := hS.at dC_18 (waits (j := 18) (by kernel_rfl) ho hdep)
      simp only [VC] at x32
      refine ie_val r hB ho (wanted_none hgd) hd hS (hM.step (by decide)) ?_
      unfold execOp
      simp only [hop]
      simp [x32, VC, go_sem]
    | 20, _, ho, hnd, hdep =>
      obtain ⟨hd, hop, hgd⟩ := say_of sC_20 ho
      have gx : t[33]?.getD undef = _ := hS.at dC_19 (waits (j := 19) (by kernel_rfl) ho hdep)
      simp only [VC] at gx
      refine ie_val r hB ho (wanted_yes hgd dC_19 gx) hd hS (hM.step (by decide)) ?_
      unfold execOp
      simp only [hop]
      simp [e8, VC, go_sem]
    | 21, _, ho, hnd, hdep =>
      obtain ⟨hd, hop, hgd⟩ := say_of sC_21 ho
      have x33 : t[33]?.getD undef = _ := hS.at dC_19 (waits (j := 19) (by kernel_rfl) ho hdep)
      simp only [VC] at x33
      have x34 : t[34]?.getD undef = _ := hS.at dC_20 (waits (j := 20) (by kernel_rfl) ho hdep)
      simp only [VC] at x34
      refine ie_val r hB ho (wanted_none hgd) hd hS (hM.step (by decide)) ?_
      unfold execOp
      simp only [hop]
      simp [x33, x34, VC, go_sem]
    | 22, _, ho, hnd, hdep =>
      obtain ⟨hd, hop, hgd⟩ := say_of sC_22 ho
      have x35 : t[35]?.getD undef = _ := hS.at dC_21 (waits (j := 21) (by kernel_rfl) ho hdep)
      simp only [VC] at x35
      refine ie_val r hB ho (wanted_none hgd) hd hS (hM.step (by decide)) ?_
      unfold execOp
      simp only [hop]
      simp [x35, VC, go_sem]
    | 23, _, ho, hnd, hdep =>
      obtain ⟨hd, hop, hgd⟩ := say_of sC_23 ho
      have gx : t[36]?.getD undef = _ := hS.at dC_22 (waits (j := 22) (by kernel_rfl) ho hdep)
      simp only [VC] at gx
      refine ie_val r hB ho (wanted_yes hgd dC_22 gx) hd hS (hM.step (by decide)) ?_
      unfold execOp
      simp only [hop]
      simp [e7, VC, go_sem]
    | 24, _, ho, hnd, hdep =>
      obtain ⟨hd, hop, hgd⟩ := say_of sC_24 ho
      have gx : t[36]?.getD undef = _ := hS.at dC_22 (waits (j := 22) (by kernel_rfl) ho hdep)
      simp only [VC] at gx
      have ny27 : done 27 = false := not_yet (k := 24) (j := 27) (by kernel_rfl) hcl hnd
      have hz := hM.1 ny27
      have cz := (hz.cell _).trans cvv
      refine ie_val r hB ho (wanted_yes hgd dC_22 gx) hd hS (hM.step (by decide)) ?_
      unfold execOp
      simp only [hop]
      simp [e4, VC, cz, go_sem]
    | 25, _, ho, hnd, hdep =>
      obtain ⟨hd, hop, hgd⟩ := say_of sC_25 ho
      have gx : t[36]?.getD undef = _ := hS.at dC_22 (waits (j := 22) (by kernel_rfl) ho hdep)
      simp only [VC] at gx
      have x37 : t[37]?.getD undef = _ := hS.at dC_23 (waits (j := 23) (by kernel_rfl) ho hdep)
      simp only [VC] at x37
      have x38 : t[38]?.getD undef = _ := hS.at dC_24 (waits (j := 24) (by kernel_rfl) ho hdep)
      simp only [VC] at x38
      have ny27 : done 27 = false := not_yet (k := 25) (j := 27) (by kernel_rfl) hcl hnd
      refine ie_call r 9 #[u, .slice (some ⟨gv, ov, none⟩) n cv] hB ho (wanted_yes hgd dC_22 gx) hd hS ?_ ?_
      · skip
        unfold execOp
        simp only [hop]
        simp [x37, x38, go_sem]
      · skip
        have hz := hM.1 ny27
        refine (hC w hz).mono ?_
        rintro e w2 ⟨rfl, hd2⟩
        refine ⟨r, rfl, fun _ _ => rfl, fun _ => hz.trans hd2, fun h => ?_⟩
        rw [show upd done 25 27 = done 27 from rfl, ny27] at h
        cases h
    | 26, _, ho, hnd, hdep =>
      obtain ⟨hd, hop, hgd⟩ := say_of sC_26 ho
      have x36 : t[36]?.getD undef = _ := hS.at dC_22 (waits (j := 22) (by kernel_rfl) ho hdep)
      simp only [VC] at x36
      have x39 : t[39]?.getD undef = _ := hS.at dC_25 (waits (j := 25) (by kernel_rfl) ho hdep)
      simp only [VC] at x39
      refine ie_val r hB ho (wanted_none hgd) hd hS (hM.step (by decide)) ?_
      unfold execOp
      simp only [hop]
      simp [x36, x39, VC, go_sem]
    | 27, _, ho, hnd, hdep =>
      obtain ⟨hd, hop, hgd⟩ := say_of sC_27 ho
      have x40 : t[40]?.getD undef = _ := hS.at dC_26 (waits (j := 26) (by kernel_rfl) ho hdep)
      simp only [VC] at x40
      have hz := hM.1 hnd
      have cz := (hz.cell _).trans cw
      have fz : w.frozen? ⟨Bw, 0, none⟩ = false := by obtain ⟨q, rfl⟩ := hz; exact fw
      refine ie_store (w' := w.setCell ⟨Bw, 0, none⟩ (.bool true)) r ho (wanted_none hgd) hd hS ⟨fun h => by simp [upd] at h, fun _ => ⟨w, hz, rfl⟩⟩ ?_
      unfold execOp
      simp only [hop]
      simp [e2, x40, cz, fz, go_sem]
theorem foldC (Bw Bi Bv D gv ov n cv k : Nat) (c : Cd) (u : Value) (r : Unit) (t0 : Array Value) : fold (opsAt Try.f10 2) (VC Bw Bi Bv D gv ov n cv k c u r) t0 28 = (((((((((((((((((((((((((((t0.setIfInBounds 14 (.bool true)).setIfInBounds 15 (.bool true)).setIfInBounds 16 (.int .i64 (k : Int))).setIfInBounds 17 (.slice (some ⟨gv, ov, none⟩) n cv)).setIfInBounds 18 (.int .i64 (n : Int))).setIfInBounds 19 (.bool true)).setIfInBounds 20 (.bool true)).setIfInBounds 21 (.bool true)).setIfInBounds 22 (.agg (cc c))).setIfInBounds 23 (.slice (some ⟨gv, ov, none⟩) n cv)).setIfInBounds 24 (.int .i64 (k : Int))).setIfInBounds 25 (.slice (some ⟨gv, ov, none⟩) n cv)).setIfInBounds 26 (.int .i64 (n : Int))).setIfInBounds 27 (.int .i64 ((n : Int) - 1))).setIfInBounds 28 (.int .i64 (k : Int))).setIfInBounds 29 (.pointer (some ⟨gv, ov + k * 71, none⟩))).setIfInBounds 30 (.agg (cc c))).setIfInBounds 31 (.bool true)).setIfInBounds 32 (.bool true)).setIfInBounds 33 (.bool true)).setIfInBounds 34 (.bool true)).setIfInBounds 35 (.bool true)).setIfInBounds 36 (.bool true)).setIfInBounds 37 (u)).setIfInBounds 38 (.slice (some ⟨gv, ov, none⟩) n cv)).setIfInBounds 39 (.bool true)).setIfInBounds 40 (.bool true)) := by kernel_rfl
end Go.Proofs.Ytlelgboklkmkdaa
/-
  The law's closure (10) by contract.
-/
namespace Go.Proofs.Ytlelgboklkmkdaa
open Go.RowKit Ch
/-- the closure's state -/
def CJ (Bw Bi : Nat) (w0 : World) : Ys := fun g R M W => M = (fun b => b = Bw ∨ b = Bi) ∧ Bx W Bw 4 (.bool true) ∧ Bx W Bi 3 (.int .i64 (R.length : Int)) ∧ g = decide (R.length < 4) ∧ R.length ≤ 4 ∧ Below w0.heap.size w0 W
/-- what the closure leaves -/
def CQ (Bw Bi : Nat) (w0 W : World) (R : List Cd) (e : Ending) (W' : World) : Prop := ∃ g M', e = .returned (.bool g) ∧ CJ Bw Bi w0 g R M' W' ∧ Kp (fun b => b = Bw ∨ b = Bi) W W' ∧ ∀ b, M' b → (b = Bw ∨ b = Bi) ∨ W.heap.size ≤ b
theorem CJ.yd {Bw Bi : Nat} {w0 : World} (h1 : w0.heap.size ≤ Bw) (h2 : w0.heap.size ≤ Bi) : Yd w0.heap.size (CJ Bw Bi w0) := by
  constructor
  · rintro g pre M W W' S ⟨rfl, b1, b2, rfl, b4, bl⟩ hk hS hS2
    exact ⟨rfl, (hk.block _ b1.lt fun e => hS _ e (.inl rfl)).trans b1, (hk.block _ b2.lt fun e => hS _ e (.inr rfl)).trans b2, rfl, b4, bl.trans (hk.below bl.size hS2)⟩
  · rintro g pre M W b ⟨rfl, b1, b2, rfl, b4, bl⟩ hm
    rcases hm with rfl | rfl
    · exact ⟨h1, _, b1, rfl⟩
    · exact ⟨h2, _, b2, rfl⟩
theorem CJ.yok {Bf Bw Bi Bv Bt Bu : Nat} {w0 : World} {x y : Si} {ao : Option Addr} {cv : Nat} (h1 : w0.heap.size ≤ Bw) (h2 : w0.heap.size ≤ Bi) (h3 : Bw ≠ Bi) (hx : SiAt w0 x) (hy : SiAt w0 y) (bt : Bx w0 Bt 32 (siP x)) (bu : Bx w0 Bu 32 (siP y)) (bf : Bx w0 Bf 38 (.func (.func 22) #[] #[.pointer (some ⟨Bt, 0, none⟩), .pointer (some ⟨Bu, 0, none⟩)])) (bv : Bx w0 Bv 35 (.slice ao (difs x y).length cv)) (hv : HasA w0 (.slice ao (difs x y).length cv) (difs x y)) (hl : siZ x + siZ y ≤ 10000) (hw : siW x + siW y ≤ 1000000) (hT : (difs x y).length ≤ 50000) :
    YOk 10 #[.pointer (some ⟨Bf, 0, none⟩), .pointer (some ⟨Bw, 0, none⟩), .pointer (some ⟨Bi, 0, none⟩), .pointer (some ⟨Bv, 0, none⟩)] (CJ Bw Bi w0) (difs x y) := by
  rintro pre M c W ⟨rfl, b1, b2, hg, _, bl⟩ hp
  obtain ⟨k, hk⟩ : ∃ k, pre.length = k := ⟨_, rfl⟩
  rw [hk] at b2 hg
  obtain ⟨n, hn⟩ : ∃ n, (difs x y).length = n := ⟨_, rfl⟩
  have hkn : k < n := by have := hp.length_le; simp at this; omega
  have hck : (difs x y)[k]? = some c := by
    obtain ⟨t, ht⟩ := hp
    rw [← ht, ← hk]
    simp
  obtain ⟨gv, ov, hao, lk⟩ := hv.at hck
  subst hao
  obtain ⟨D, hD⟩ : ∃ D, W.heap.size = D := ⟨_, rfl⟩
  obtain ⟨W1, hW1⟩ : ∃ W1, W.alloc (.cells (cc c) 44) = W1 := ⟨_, rfl⟩
  have g1 : Below W.heap.size W W1 := by rw [← hW1]; exact (Below.refl _ W).alloc (Nat.le_refl _) _
  have bl1 := Below.up bl g1
  have lD : Ch.Lies W1 D 0 (cc c) := fun j u hj => by
    rw [← hW1, ← hD, Nat.zero_add]
    simp only [World.cell?, World.alloc_heap_new]
    exact hj
  have up : ∀ {b t u}, Bx w0 b t u → Bx W1 b t u := fun hb => (bl1.block _ hb.lt).trans hb
  have C8 := hid (given_any x y Bt Bu (-1) W1 (hx.grow bl1) (hy.grow bl1) (up bt) (up bu) hl hw hT)
  have e8 : gvR (-1) (difs x y) = difs x y := by simp [gvR]
  rw [e8] at C8
  have f1 := (up bf).cell
  have HB := hid (And.intro b1 (And.intro b2 (And.intro bl1 (And.intro lD (And.intro lk (And.intro (up bv) (And.intro hv g1)))))))
  obtain ⟨Z, hZ⟩ : ∃ Z, cc c = Z := ⟨_, rfl⟩
  have HZ : Hid (Z.size = 71 ∧ Z.all (·.oneCell') = true) := ⟨by rw [← hZ]; exact cc_size _, by rw [← hZ]; exact cc_one _⟩
  have HZE := hid hZ
  rw [hZ] at hW1
  rw [hZ]
  have HN := hid hn
  have HG : Hid (k < 4) := by show k < 4; simpa using hg.symm
  have HK := hid (And.intro hk hkn)
  rw [hn] at HB hT
  clear b1 b2 bl bl1 lD lk hv bv bf bt bu hx hy up g1 hp hck hZ hn hg e8 hk hkn
  show Calls Try.prog 10 #[.agg Z, .pointer (some ⟨Bf, 0, none⟩), .pointer (some ⟨Bw, 0, none⟩), .pointer (some ⟨Bi, 0, none⟩), .pointer (some ⟨Bv, 0, none⟩)] W (CQ Bw Bi w0 W (pre ++ [c]))
  go_enter Try.func10, Try.ntmps10
  go_upto_region 2 with (go_at_call 8; refine C8.out.mono ?_; rintro e W2 ⟨u, rfl, ou, b2⟩; have H2 := hid (And.intro ou b2); clear ou b2)
  obtain ⟨ou, b2⟩ := H2.out
  obtain ⟨av, cu, hu⟩ := ou.form
  rw [HN.out] at hu
  subst hu
  have b12 := Below.up HB.out.2.2.2.2.2.2.2 b2
  have bw2 : Bx W2 Bw 4 (.bool true) := (b12.block _ HB.out.1.lt).trans HB.out.1
  have bi2 : Bx W2 Bi 3 (.int .i64 (k : Int)) := (b12.block _ HB.out.2.1.lt).trans HB.out.2.1
  have bv2 : Bx W2 Bv 35 (.slice (some ⟨gv, ov, none⟩) n cv) := (b2.block _ HB.out.2.2.2.2.2.1.lt).trans HB.out.2.2.2.2.2.1
  have bel2 := Below.up HB.out.2.2.1 b2
  have hC : ∀ w, Drew W2 w → Calls Try.prog 9 #[.slice av n cu, .slice (some ⟨gv, ov, none⟩) n cv] w fun e w' => e = .returned (.bool true) ∧ Drew w w' := fun w hd => by
    have := same_any av (some ⟨gv, ov, none⟩) cu cv (difs x y) w
    rw [HN.out] at this
    exact this ((HasQ.has ou.hasq).below hd.below) ((HB.out.2.2.2.2.2.2.1.below bel2).below hd.below) (by omega)
  have hkn := HK.out.2
  refine regC Bw Bi Bv D gv ov n cv k c (.slice av n cu) _ W2 rfl rfl rfl rfl rfl rfl rfl (by omega) (by omega) (by rw [IntKind.wrap_i64] <;> omega) (by omega) bw2.cell bw2.frozen bi2.cell bv2.cell (HB.out.2.2.2.1.below b2) (HB.out.2.2.2.2.1.below bel2) hC fun _ wz hz => ?_
  rw [foldC]
  have bwz : Bx wz Bw 4 (.bool true) := by rw [Bx, hz.heap]; exact bw2
  have biz : Bx wz Bi 3 (.int .i64 (k : Int)) := by rw [Bx, hz.heap]; exact bi2
  obtain ⟨W3, hW3⟩ : ∃ W3, wz.setCell ⟨Bw, 0, none⟩ (.bool true) = W3 := ⟨_, rfl⟩
  have bw3 : Bx W3 Bw 4 (.bool true) := by rw [← hW3]; exact bwz.set _
  have bi3 : Bx W3 Bi 3 (.int .i64 (k : Int)) := by rw [← hW3]; exact biz.other (Ne.symm h3)
  have i3 := bi3.cell
  have i3f := bi3.frozen
  obtain ⟨W4, hW4⟩ : ∃ W4, W3.setCell ⟨Bi, 0, none⟩ (.int .i64 ((k : Int) + 1)) = W4 := ⟨_, rfl⟩
  have bw4 : Bx W4 Bw 4 (.bool true) := by rw [← hW4]; exact bw3.other h3
  have bi4 : Bx W4 Bi 3 (.int .i64 ((k : Int) + 1)) := by rw [← hW4]; exact bi3.set _
  have w4 := bw4.cell
  have i4 := bi4.cell
  have kp4 : Kp (fun b => b = Bw ∨ b = Bi) W W4 := by
    rw [← hW4, ← hW3]
    refine (((Kp.of (S := fun b => b = Bw ∨ b = Bi) b12).trans (Kp.of (S := fun _ => False) hz.below) fun _ _ e => e.elim).trans (Kp.set wz Bw 0 (.bool true)) fun _ _ e => .inl e).trans (Kp.set _ Bi 0 _) fun _ _ e => .inr e
  have FIN : Hid (CJ Bw Bi w0 (decide (((k : Int) + 1) < 4)) (pre ++ [c]) (fun b => b = Bw ∨ b = Bi) W4 ∧ Kp (fun b => b = Bw ∨ b = Bi) W W4) := by
    refine ⟨⟨rfl, bw4, ?_, ?_, by rw [List.length_append, HK.out.1]; have := HG.out; simp; omega, ?_⟩, kp4⟩
    · rw [List.length_append, HK.out.1]
      exact bi4
    · rw [List.length_append, HK.out.1]
      simp only [List.length_cons, List.length_nil]
      rw [decide_eq_decide]
      omega
    · rw [← hW4, ← hW3]
      exact ((Below.trans bel2 (hz.below.mono bel2.size)).setCell (p := ⟨Bw, 0, none⟩) h1 _).setCell (p := ⟨Bi, 0, none⟩) h2 _
  generalize Value.agg (cc c) = YC
  obtain ⟨bb, hbb⟩ : ∃ bb, decide (((k : Int) + 1) < 4) = bb := ⟨_, rfl⟩
  rw [hbb] at FIN
  clear bw2 bi2 bv2 bwz biz bw3 bi3 bw4 bi4 bel2 b12 b2 ou hC kp4 hz H2 HB C8 f1
  cases bb
  · have hlt : ¬ ((k : Int) + 1 < 4) := by simpa using hbb
    clear hbb
    go_simp
    go_wp2
    go_ret
    exact ⟨_, _, rfl, FIN.out.1, FIN.out.2, fun b e => .inl e⟩
  · have hlt : ((k : Int) + 1 < 4) := by simpa using hbb
    clear hbb
    go_simp
    go_wp2
    go_ret
    exact ⟨_, _, rfl, FIN.out.1, FIN.out.2, fun b e => .inl e⟩
end Go.Proofs.Ytlelgboklkmkdaa
