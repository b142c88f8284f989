import Derived.Test.YtlelgboklkmkdaaDChk
set_option maxRecDepth 100000
set_option maxHeartbeats 8000000
/-
  twineref13.Of's drawn regions.
-/
namespace Go.Proofs.Ytlelgboklkmkdaa
open Go.RowKit Ch
theorem build44L (p : ByteArray) (v : Ch.Vd) (w : World) : (Instr.build 44 #[(0, .string p), (1, .agg (Ch.vx v).toArray)]).run Try.prog w = .ok (.agg (cc ⟨p, v, Ch.vz⟩)) w := by
  refine run_build w 44 _ _ ?_
  obtain ⟨z, hz, hl⟩ := hz55
  unfold Program.built
  cases hi : Try.prog.info? 44 with
  | none => rw [hi] at hz; cases hz
  | some it =>
    rw [hi] at hz
    simp only [Option.bind_some] at hz
    simp only [under55, hz, places55]
    show Instr.fill _ (List.toArray _) _ = _
    have h0 := Ch.vx_len Ch.vz
    have h1 := Ch.vx_len v
    have hz0 : z.length = 71 := by rw [hl]; simp [h0]
    rw [Ch.fill_cons _ _ 0 0 1 _ [.string p] _ rfl rfl rfl (by omega), Ch.fill_cons _ _ 1 1 35 _ (Ch.vx v) _ rfl rfl h1 (by simp [Ch.over, hz0]), Instr.fill, hl]
    refine congrArg some (congrArg List.toArray ?_)
    have t2 : (Ch.vx Ch.vz ++ Ch.vx Ch.vz).drop 35 = Ch.vx Ch.vz := by
      rw [List.drop_append_of_le_length (by omega), List.drop_of_length_le (by omega), List.nil_append]
    simp only [Ch.over, h1, List.take_succ_cons, List.take_zero, List.cons_append, List.nil_append, List.drop_succ_cons, List.drop_zero, List.length_cons, List.length_nil, Nat.zero_add, Nat.reduceAdd, t2]
theorem exec_build44L {o : Oper} {a : Act} (x y : Operand) (ho : o.op = .build 44 #[(0, x), (1, y)]) (p : ByteArray) (v : Ch.Vd) (hx : a.eval x = .string p) (hy : a.eval y = .agg (Ch.vx v).toArray) (w : World) : (execOp a.eval o).run Try.prog w = .ok (.value (.agg (cc ⟨p, v, Ch.vz⟩))) w := by
  unfold execOp
  simp only [ho]
  have hmap : (#[(0, x), (1, y)].map fun (p : Nat × Operand) => match p with | (i, x) => (i, a.eval x)) = #[(0, .string p), (1, .agg (Ch.vx v).toArray)] := by simp [hx, hy]
  rw [hmap]
  simp only [Sem.run_bind, build44L p v w, Result.andThen_ok, Sem.run_pure]
theorem build44R (p : ByteArray) (v : Ch.Vd) (w : World) : (Instr.build 44 #[(0, .string p), (2, .agg (Ch.vx v).toArray)]).run Try.prog w = .ok (.agg (cc ⟨p, Ch.vz, v⟩)) w := by
  refine run_build w 44 _ _ ?_
  obtain ⟨z, hz, hl⟩ := hz55
  unfold Program.built
  cases hi : Try.prog.info? 44 with
  | none => rw [hi] at hz; cases hz
  | some it =>
    rw [hi] at hz
    simp only [Option.bind_some] at hz
    simp only [under55, hz, places55]
    show Instr.fill _ (List.toArray _) _ = _
    have h0 := Ch.vx_len Ch.vz
    have h1 := Ch.vx_len v
    have hz0 : z.length = 71 := by rw [hl]; simp [h0]
    rw [Ch.fill_cons _ _ 0 0 1 _ [.string p] _ rfl rfl rfl (by omega), Ch.fill_cons _ _ 2 36 35 _ (Ch.vx v) _ rfl rfl h1 (by simp [Ch.over, hz0]), Instr.fill, hl]
    refine congrArg some (congrArg List.toArray ?_)
    have t1 : ∀ r : List Value, (Ch.vx Ch.vz ++ r).take 35 = Ch.vx Ch.vz := fun r => by
      rw [List.take_append_of_le_length (by omega), List.take_of_length_le (by omega)]
    have t3 : (Ch.vx Ch.vz ++ Ch.vx Ch.vz).drop 70 = [] := List.drop_of_length_le (by simp [h0])
    simp only [Ch.over, h1, List.take_succ_cons, List.take_zero, List.cons_append, List.nil_append, List.drop_succ_cons, List.drop_zero, List.length_cons, List.length_nil, Nat.zero_add, Nat.reduceAdd, t1, t3, List.append_nil]
theorem exec_build44R {o : Oper} {a : Act} (x y : Operand) (ho : o.op = .build 44 #[(0, x), (2, y)]) (p : ByteArray) (v : Ch.Vd) (hx : a.eval x = .string p) (hy : a.eval y = .agg (Ch.vx v).toArray) (w : World) : (execOp a.eval o).run Try.prog w = .ok (.value (.agg (cc ⟨p, Ch.vz, v⟩))) w := by
  unfold execOp
  simp only [ho]
  have hmap : (#[(0, x), (2, y)].map fun (p : Nat × Operand) => match p with | (i, x) => (i, a.eval x)) = #[(0, .string p), (2, .agg (Ch.vx v).toArray)] := by simp [hx, hy]
  rw [hmap]
  simp only [Sem.run_bind, build44R p v w, Result.andThen_ok, Sem.run_pure]
def MAp (jb ja : Nat) (w1 w2 wr : World) (_ : Unit) (done : Nat → Bool) (w : World) : Prop := w = (if done ja = true then w2 else if done jb = true then w1 else wr.drew)
theorem MAp.step {jb ja : Nat} {w1 w2 wr : World} {r : Unit} {done : Nat → Bool} {w : World} (h : MAp jb ja w1 w2 wr r done w) {j : Nat} (h1 : j ≠ jb) (h2 : j ≠ ja) : MAp jb ja w1 w2 wr r (upd done j) w := by
  unfold MAp at *
  rw [upd_ne done (Ne.symm h1), upd_ne done (Ne.symm h2)]
  exact h
theorem backoL : backB (opsAt Try.f6 12) = true := by kernel_rfl
theorem dstoL : dstB (opsAt Try.f6 12) 115 = true := by kernel_rfl
theorem sizeoL : (opsAt Try.f6 12).size = 15 := by kernel_rfl
theorem freeoL5 : freeB (opsAt Try.f6 12) 5 = true := by kernel_rfl
theorem freeoL8 : freeB (opsAt Try.f6 12) 8 = true := by kernel_rfl
theorem soL_0 : say (opsAt Try.f6 12) 0 = some (some 46, .move (.tmp 7), none) := by kernel_rfl
theorem doL_0 : slotB (opsAt Try.f6 12) 0 = some 46 := by kernel_rfl
theorem soL_1 : say (opsAt Try.f6 12) 1 = some (some 47, .move (.tmp 5), none) := by kernel_rfl
theorem doL_1 : slotB (opsAt Try.f6 12) 1 = some 47 := by kernel_rfl
theorem soL_2 : say (opsAt Try.f6 12) 2 = some (some 48, .move (.tmp 8), none) := by kernel_rfl
theorem doL_2 : slotB (opsAt Try.f6 12) 2 = some 48 := by kernel_rfl
theorem soL_3 : say (opsAt Try.f6 12) 3 = some (some 49, .indexAddr 60 (.tmp 47) (.tmp 48), none) := by kernel_rfl
theorem doL_3 : slotB (opsAt Try.f6 12) 3 = some 49 := by kernel_rfl
theorem soL_4 : say (opsAt Try.f6 12) 4 = some (some 50, .fieldAddr 64 (.tmp 49) 0, none) := by kernel_rfl
theorem doL_4 : slotB (opsAt Try.f6 12) 4 = some 50 := by kernel_rfl
theorem soL_5 : say (opsAt Try.f6 12) 5 = some (some 51, .load 9 (.tmp 50), none) := by kernel_rfl
theorem doL_5 : slotB (opsAt Try.f6 12) 5 = some 51 := by kernel_rfl
theorem soL_6 : say (opsAt Try.f6 12) 6 = some (some 52, .move (.tmp 5), none) := by kernel_rfl
theorem doL_6 : slotB (opsAt Try.f6 12) 6 = some 52 := by kernel_rfl
theorem soL_7 : say (opsAt Try.f6 12) 7 = some (some 53, .move (.tmp 8), none) := by kernel_rfl
theorem doL_7 : slotB (opsAt Try.f6 12) 7 = some 53 := by kernel_rfl
theorem soL_8 : say (opsAt Try.f6 12) 8 = some (some 54, .indexAddr 60 (.tmp 52) (.tmp 53), none) := by kernel_rfl
theorem doL_8 : slotB (opsAt Try.f6 12) 8 = some 54 := by kernel_rfl
theorem soL_9 : say (opsAt Try.f6 12) 9 = some (some 55, .fieldAddr 64 (.tmp 54) 1, none) := by kernel_rfl
theorem doL_9 : slotB (opsAt Try.f6 12) 9 = some 55 := by kernel_rfl
theorem soL_10 : say (opsAt Try.f6 12) 10 = some (some 56, .load 24 (.tmp 55), none) := by kernel_rfl
theorem doL_10 : slotB (opsAt Try.f6 12) 10 = some 56 := by kernel_rfl
theorem soL_11 : say (opsAt Try.f6 12) 11 = some (some 57, .build 44 #[(0, .tmp 51), (1, .tmp 56)], none) := by kernel_rfl
theorem doL_11 : slotB (opsAt Try.f6 12) 11 = some 57 := by kernel_rfl
theorem soL_12 : say (opsAt Try.f6 12) 12 = some (some 58, .buildSlice 35 1 #[(0, .tmp 57)], none) := by kernel_rfl
theorem doL_12 : slotB (opsAt Try.f6 12) 12 = some 58 := by kernel_rfl
theorem soL_13 : say (opsAt Try.f6 12) 13 = some (some 59, .call { callee := .builtin .append, args := #[.tmp 46, .tmp 58], argTypes := #[35, 35] }, none) := by kernel_rfl
theorem doL_13 : slotB (opsAt Try.f6 12) 13 = some 59 := by kernel_rfl
theorem soL_14 : say (opsAt Try.f6 12) 14 = some (some 7, .assign (.tmp 59), none) := by kernel_rfl
theorem doL_14 : slotB (opsAt Try.f6 12) 14 = some 7 := by kernel_rfl
def VoL (ga oa na ca ia : Nat) (xa : Et) (D : Nat) (v v2 : Value) (_r : Unit) : Nat → Value
  | 0 => v
  | 1 => .slice (some ⟨ga, oa, none⟩) na ca
  | 2 => .int .i64 (ia : Int)
  | 3 => .pointer (some ⟨ga, oa + ia * 40, none⟩)
  | 4 => .pointer (some ⟨ga, oa + ia * 40, none⟩)
  | 5 => .string xa.p
  | 6 => .slice (some ⟨ga, oa, none⟩) na ca
  | 7 => .int .i64 (ia : Int)
  | 8 => .pointer (some ⟨ga, oa + ia * 40, none⟩)
  | 9 => .pointer (some ⟨ga, oa + ia * 40 + 1, none⟩)
  | 10 => .agg (vx xa.v).toArray
  | 11 => .agg (cc ⟨xa.p, cvV xa.v, Ch.vz⟩)
  | 12 => .slice (some ⟨D, 0, none⟩) 1 1
  | 13 => v2
  | 14 => v2
  | _ => undef
theorem regoL (ga oa na ca ia : Nat) (xa : Et) (D : Nat) (v v2 : Value) (w1 w2 : World) (t0 : Array Value) (wr : World) {Q : Exit → Act → World → Prop} (ht : t0.size = 115) (h7 : t0.getD 7 undef = v) (h5 : t0.getD 5 undef = .slice (some ⟨ga, oa, none⟩) na ca) (h8 : t0.getD 8 undef = .int .i64 (ia : Int))
    (kaI : (ia : Int) < (na : Int)) (ka0 : (0 : Int) ≤ (ia : Int)) (pa : wr.cell? ⟨ga, oa + ia * 40, none⟩ = some (.string xa.p)) (va : Ch.Lies wr ga (oa + ia * 40 + 1) (vx xa.v).toArray) (hD : wr.drew.heap.size = D) (e1 : wr.drew.alloc (.cells (cc ⟨xa.p, cvV xa.v, Ch.vz⟩) 44) = w1) (hr : (Builtin.append_ #[35, 35] 35 #[v, .slice (some ⟨D, 0, none⟩) 1 1]).run Try.prog w1 = .ok v2 w2)
    (hQ : ∀ r, Q .normal ⟨fold (opsAt Try.f6 12) (VoL ga oa na ca ia xa D v v2 r) t0 15, []⟩ w2) : (Code.region 12 (opsAt Try.f6 12) true).wp Try.prog Q ⟨t0, []⟩ wr := by
  have hB : dstB (opsAt Try.f6 12) t0.size = true := by rw [ht]; exact dstoL
  refine inv_region (by kernel_rfl) (IE (opsAt Try.f6 12) (VoL ga oa na ca ia xa D v v2) t0 (MAp 12 13 w1 w2 wr)) backoL ⟨(), t0, rfl, ⟨rfl, fun _ _ => rfl, fun _ _ _ _ _ h => by cases h⟩, (by show _ = _; simp)⟩ ?_ ?_
  rotate_left 1
  · rintro done a w ⟨r, t, rfl, hS, hM⟩ hall
    rw [hS.end hB hall, sizeoL]
    have a1 := hall 13 (by rw [sizeoL]; decide)
    have hw : w = w2 := by rw [hM]; simp [a1]
    rw [hw]
    exact hQ r
  · rintro jz op done a w ho ⟨r, t, rfl, hS, hM⟩ hnd hdep hcl
    have e5 : t[5]?.getD undef = .slice (some ⟨ga, oa, none⟩) na ca := (hS.old freeoL5).trans h5
    have e8 : t[8]?.getD undef = .int .i64 (ia : Int) := (hS.old freeoL8).trans h8
    have hlt : jz < 15 := by rw [← sizeoL]; exact (Array.getElem?_eq_some_iff.1 ho).1
    match jz, hlt, ho, hnd, hdep with
    | 0, _, ho, hnd, hdep =>
      obtain ⟨hd, hop, hgd⟩ := say_of soL_0 ho
      have yt14 : done 14 = false := not_yet (k := 0) (j := 14) (by kernel_rfl) hcl hnd
      have e7 : t[7]?.getD undef = _ := (hS.yet hB doL_14 yt14).trans h7
      refine ie_val r hB ho (wanted_none hgd) hd hS (hM.step (by decide) (by decide)) ?_
      unfold execOp
      simp only [hop]
      simp [e7, VoL, go_sem]
    | 1, _, ho, hnd, hdep =>
      obtain ⟨hd, hop, hgd⟩ := say_of soL_1 ho
      refine ie_val r hB ho (wanted_none hgd) hd hS (hM.step (by decide) (by decide)) ?_
      unfold execOp
      simp only [hop]
      simp [e5, VoL, go_sem]
    | 2, _, ho, hnd, hdep =>
      obtain ⟨hd, hop, hgd⟩ := say_of soL_2 ho
      refine ie_val r hB ho (wanted_none hgd) hd hS (hM.step (by decide) (by decide)) ?_
      unfold execOp
      simp only [hop]
      simp [e8, VoL, go_sem]
    | 3, _, ho, hnd, hdep =>
      obtain ⟨hd, hop, hgd⟩ := say_of soL_3 ho
      have x47 : t[47]?.getD undef = _ := hS.at doL_1 (waits (j := 1) (by kernel_rfl) ho hdep)
      simp only [VoL] at x47
      have x48 : t[48]?.getD undef = _ := hS.at doL_2 (waits (j := 2) (by kernel_rfl) ho hdep)
      simp only [VoL] at x48
      refine ie_val r hB ho (wanted_none hgd) hd hS (hM.step (by decide) (by decide)) ?_
      unfold execOp
      simp only [hop]
      simp [x47, x48, VoL, kaI, ka0, Ch.addr_add, go_sem]
    | 4, _, ho, hnd, hdep =>
      obtain ⟨hd, hop, hgd⟩ := say_of soL_4 ho
      have x49 : t[49]?.getD undef = _ := hS.at doL_3 (waits (j := 3) (by kernel_rfl) ho hdep)
      simp only [VoL] at x49
      refine ie_val r hB ho (wanted_none hgd) hd hS (hM.step (by decide) (by decide)) ?_
      unfold execOp
      simp only [hop]
      simp [x49, VoL, go_sem]
    | 5, _, ho, hnd, hdep =>
      obtain ⟨hd, hop, hgd⟩ := say_of soL_5 ho
      have x50 : t[50]?.getD undef = _ := hS.at doL_4 (waits (j := 4) (by kernel_rfl) ho hdep)
      simp only [VoL] at x50
      have ny11 : done 11 = false := not_yet (k := 5) (j := 11) (by kernel_rfl) hcl hnd
      have ny12 : done 12 = false := not_yet (k := 11) (j := 12) (by kernel_rfl) hcl ny11
      have ny13 : done 13 = false := not_yet (k := 12) (j := 13) (by kernel_rfl) hcl ny12
      have hw0 : w = wr.drew := by rw [hM]; simp [ny12, ny13]
      subst hw0
      have cz := (show wr.drew.cell? _ = _ from pa)
      refine ie_val r hB ho (wanted_none hgd) hd hS (hM.step (by decide) (by decide)) ?_
      unfold execOp
      simp only [hop]
      simp [x50, VoL, cz, go_sem]
    | 6, _, ho, hnd, hdep =>
      obtain ⟨hd, hop, hgd⟩ := say_of soL_6 ho
      refine ie_val r hB ho (wanted_none hgd) hd hS (hM.step (by decide) (by decide)) ?_
      unfold execOp
      simp only [hop]
      simp [e5, VoL, go_sem]
    | 7, _, ho, hnd, hdep =>
      obtain ⟨hd, hop, hgd⟩ := say_of soL_7 ho
      refine ie_val r hB ho (wanted_none hgd) hd hS (hM.step (by decide) (by decide)) ?_
      unfold execOp
      simp only [hop]
      simp [e8, VoL, go_sem]
    | 8, _, ho, hnd, hdep =>
      obtain ⟨hd, hop, hgd⟩ := say_of soL_8 ho
      have x52 : t[52]?.getD undef = _ := hS.at doL_6 (waits (j := 6) (by kernel_rfl) ho hdep)
      simp only [VoL] at x52
      have x53 : t[53]?.getD undef = _ := hS.at doL_7 (waits (j := 7) (by kernel_rfl) ho hdep)
      simp only [VoL] at x53
      refine ie_val r hB ho (wanted_none hgd) hd hS (hM.step (by decide) (by decide)) ?_
      unfold execOp
      simp only [hop]
      simp [x52, x53, VoL, kaI, ka0, Ch.addr_add, go_sem]
    | 9, _, ho, hnd, hdep =>
      obtain ⟨hd, hop, hgd⟩ := say_of soL_9 ho
      have x54 : t[54]?.getD undef = _ := hS.at doL_8 (waits (j := 8) (by kernel_rfl) ho hdep)
      simp only [VoL] at x54
      refine ie_val r hB ho (wanted_none hgd) hd hS (hM.step (by decide) (by decide)) ?_
      unfold execOp
      simp only [hop]
      simp [x54, VoL, Ch.addr_add, go_sem]
    | 10, _, ho, hnd, hdep =>
      obtain ⟨hd, hop, hgd⟩ := say_of soL_10 ho
      have x55 : t[55]?.getD undef = _ := hS.at doL_9 (waits (j := 9) (by kernel_rfl) ho hdep)
      simp only [VoL] at x55
      have ny11 : done 11 = false := not_yet (k := 10) (j := 11) (by kernel_rfl) hcl hnd
      have ny12 : done 12 = false := not_yet (k := 11) (j := 12) (by kernel_rfl) hcl ny11
      have ny13 : done 13 = false := not_yet (k := 12) (j := 13) (by kernel_rfl) hcl ny12
      have hw0 : w = wr.drew := by rw [hM]; simp [ny12, ny13]
      subst hw0
      refine ie_val r hB ho (wanted_none hgd) hd hS (hM.step (by decide) (by decide)) ?_
      exact Ch.exec_load 24 _ hop ga (oa + ia * 40 + 1) (by show t.getD 55 undef = _; rw [Array.getD_eq_getD_getElem?]; exact x55) (vx xa.v).toArray _ (va.drew ⟨1, rfl⟩) under24v rfl (by rw [size24v]; simp [vx_len])
    | 11, _, ho, hnd, hdep =>
      obtain ⟨hd, hop, hgd⟩ := say_of soL_11 ho
      have x51 : t[51]?.getD undef = _ := hS.at doL_5 (waits (j := 5) (by kernel_rfl) ho hdep)
      simp only [VoL] at x51
      have x56 : t[56]?.getD undef = _ := hS.at doL_10 (waits (j := 10) (by kernel_rfl) ho hdep)
      simp only [VoL] at x56
      refine ie_val r hB ho (wanted_none hgd) hd hS (hM.step (by decide) (by decide)) ?_
      exact exec_build44L _ _ hop xa.p (cvV xa.v) (by show t.getD 51 undef = _; rw [Array.getD_eq_getD_getElem?]; exact x51) (by show t.getD 56 undef = _; rw [Array.getD_eq_getD_getElem?]; exact x56) _
    | 12, _, ho, hnd, hdep =>
      obtain ⟨hd, hop, hgd⟩ := say_of soL_12 ho
      have x57 : t[57]?.getD undef = _ := hS.at doL_11 (waits (j := 11) (by kernel_rfl) ho hdep)
      simp only [VoL] at x57
      have ny13 : done 13 = false := not_yet (k := 12) (j := 13) (by kernel_rfl) hcl hnd
      have hw0 : w = wr.drew := by rw [hM]; simp [hnd, ny13]
      subst hw0
      refine ie_val (w' := w1) r hB ho (wanted_none hgd) hd hS (by show _ = _; simp [upd, ny13]) ?_
      rw [← e1]
      exact Ch.exec_slice55 _ hop _ (by show t.getD 57 undef = _; rw [Array.getD_eq_getD_getElem?]; exact x57) (cc_size _) _ _ hD
    | 13, _, ho, hnd, hdep =>
      obtain ⟨hd, hop, hgd⟩ := say_of soL_13 ho
      have x46 : t[46]?.getD undef = _ := hS.at doL_0 (waits (j := 0) (by kernel_rfl) ho hdep)
      simp only [VoL] at x46
      have x58 : t[58]?.getD undef = _ := hS.at doL_12 (waits (j := 12) (by kernel_rfl) ho hdep)
      simp only [VoL] at x58
      have a12 : done 12 = true := waits (j := 12) (by kernel_rfl) ho hdep
      have hw0 : w = w1 := by rw [hM]; simp [hnd, a12]
      subst hw0
      refine ie_val (w' := w2) r hB ho (wanted_none hgd) hd hS (by show _ = _; simp [upd]) ?_
      have ht2 : op.type = 35 := by have := congrArg (·.map (·.type)) ho; simpa using this.symm.trans (show _ = some 35 from by kernel_rfl)
      exact exec_app (a := ⟨t, []⟩) (v := v) (src := .slice (some ⟨D, 0, none⟩) 1 1) (v' := v2) hop (by show t.getD 46 undef = _; rw [Array.getD_eq_getD_getElem?]; exact x46) (by show t.getD 58 undef = _; rw [Array.getD_eq_getD_getElem?]; exact x58) (by rw [ht2]; exact hr)
    | 14, _, ho, hnd, hdep =>
      obtain ⟨hd, hop, hgd⟩ := say_of soL_14 ho
      have x59 : t[59]?.getD undef = _ := hS.at doL_13 (waits (j := 13) (by kernel_rfl) ho hdep)
      simp only [VoL] at x59
      refine ie_val r hB ho (wanted_none hgd) hd hS (hM.step (by decide) (by decide)) ?_
      unfold execOp
      simp only [hop]
      simp [x59, VoL, go_sem]
theorem foldoL (ga oa na ca ia : Nat) (xa : Et) (D : Nat) (v v2 : Value) (r : Unit) (t0 : Array Value) : fold (opsAt Try.f6 12) (VoL ga oa na ca ia xa D v v2 r) t0 15 = (((((((((((((((t0.setIfInBounds 46 (v)).setIfInBounds 47 (.slice (some ⟨ga, oa, none⟩) na ca)).setIfInBounds 48 (.int .i64 (ia : Int))).setIfInBounds 49 (.pointer (some ⟨ga, oa + ia * 40, none⟩))).setIfInBounds 50 (.pointer (some ⟨ga, oa + ia * 40, none⟩))).setIfInBounds 51 (.string xa.p)).setIfInBounds 52 (.slice (some ⟨ga, oa, none⟩) na ca)).setIfInBounds 53 (.int .i64 (ia : Int))).setIfInBounds 54 (.pointer (some ⟨ga, oa + ia * 40, none⟩))).setIfInBounds 55 (.pointer (some ⟨ga, oa + ia * 40 + 1, none⟩))).setIfInBounds 56 (.agg (vx xa.v).toArray)).setIfInBounds 57 (.agg (cc ⟨xa.p, cvV xa.v, Ch.vz⟩))).setIfInBounds 58 (.slice (some ⟨D, 0, none⟩) 1 1)).setIfInBounds 59 (v2)).setIfInBounds 7 (v2)) := by kernel_rfl
theorem backoR : backB (opsAt Try.f6 15) = true := by kernel_rfl
theorem dstoR : dstB (opsAt Try.f6 15) 115 = true := by kernel_rfl
theorem sizeoR : (opsAt Try.f6 15).size = 15 := by kernel_rfl
theorem freeoR6 : freeB (opsAt Try.f6 15) 6 = true := by kernel_rfl
theorem freeoR9 : freeB (opsAt Try.f6 15) 9 = true := by kernel_rfl
theorem soR_0 : say (opsAt Try.f6 15) 0 = some (some 64, .move (.tmp 7), none) := by kernel_rfl
theorem doR_0 : slotB (opsAt Try.f6 15) 0 = some 64 := by kernel_rfl
theorem soR_1 : say (opsAt Try.f6 15) 1 = some (some 65, .move (.tmp 6), none) := by kernel_rfl
theorem doR_1 : slotB (opsAt Try.f6 15) 1 = some 65 := by kernel_rfl
theorem soR_2 : say (opsAt Try.f6 15) 2 = some (some 66, .move (.tmp 9), none) := by kernel_rfl
theorem doR_2 : slotB (opsAt Try.f6 15) 2 = some 66 := by kernel_rfl
theorem soR_3 : say (opsAt Try.f6 15) 3 = some (some 67, .indexAddr 60 (.tmp 65) (.tmp 66), none) := by kernel_rfl
theorem doR_3 : slotB (opsAt Try.f6 15) 3 = some 67 := by kernel_rfl
theorem soR_4 : say (opsAt Try.f6 15) 4 = some (some 68, .fieldAddr 64 (.tmp 67) 0, none) := by kernel_rfl
theorem doR_4 : slotB (opsAt Try.f6 15) 4 = some 68 := by kernel_rfl
theorem soR_5 : say (opsAt Try.f6 15) 5 = some (some 69, .load 9 (.tmp 68), none) := by kernel_rfl
theorem doR_5 : slotB (opsAt Try.f6 15) 5 = some 69 := by kernel_rfl
theorem soR_6 : say (opsAt Try.f6 15) 6 = some (some 70, .move (.tmp 6), none) := by kernel_rfl
theorem doR_6 : slotB (opsAt Try.f6 15) 6 = some 70 := by kernel_rfl
theorem soR_7 : say (opsAt Try.f6 15) 7 = some (some 71, .move (.tmp 9), none) := by kernel_rfl
theorem doR_7 : slotB (opsAt Try.f6 15) 7 = some 71 := by kernel_rfl
theorem soR_8 : say (opsAt Try.f6 15) 8 = some (some 72, .indexAddr 60 (.tmp 70) (.tmp 71), none) := by kernel_rfl
theorem doR_8 : slotB (opsAt Try.f6 15) 8 = some 72 := by kernel_rfl
theorem soR_9 : say (opsAt Try.f6 15) 9 = some (some 73, .fieldAddr 64 (.tmp 72) 1, none) := by kernel_rfl
theorem doR_9 : slotB (opsAt Try.f6 15) 9 = some 73 := by kernel_rfl
theorem soR_10 : say (opsAt Try.f6 15) 10 = some (some 74, .load 24 (.tmp 73), none) := by kernel_rfl
theorem doR_10 : slotB (opsAt Try.f6 15) 10 = some 74 := by kernel_rfl
theorem soR_11 : say (opsAt Try.f6 15) 11 = some (some 75, .build 44 #[(0, .tmp 69), (2, .tmp 74)], none) := by kernel_rfl
theorem doR_11 : slotB (opsAt Try.f6 15) 11 = some 75 := by kernel_rfl
theorem soR_12 : say (opsAt Try.f6 15) 12 = some (some 76, .buildSlice 35 1 #[(0, .tmp 75)], none) := by kernel_rfl
theorem doR_12 : slotB (opsAt Try.f6 15) 12 = some 76 := by kernel_rfl
theorem soR_13 : say (opsAt Try.f6 15) 13 = some (some 77, .call { callee := .builtin .append, args := #[.tmp 64, .tmp 76], argTypes := #[35, 35] }, none) := by kernel_rfl
theorem doR_13 : slotB (opsAt Try.f6 15) 13 = some 77 := by kernel_rfl
theorem soR_14 : say (opsAt Try.f6 15) 14 = some (some 7, .assign (.tmp 77), none) := by kernel_rfl
theorem doR_14 : slotB (opsAt Try.f6 15) 14 = some 7 := by kernel_rfl
def VoR (gb ob nb cb ib : Nat) (xb : Et) (D : Nat) (v v2 : Value) (_r : Unit) : Nat → Value
  | 0 => v
  | 1 => .slice (some ⟨gb, ob, none⟩) nb cb
  | 2 => .int .i64 (ib : Int)
  | 3 => .pointer (some ⟨gb, ob + ib * 40, none⟩)
  | 4 => .pointer (some ⟨gb, ob + ib * 40, none⟩)
  | 5 => .string xb.p
  | 6 => .slice (some ⟨gb, ob, none⟩) nb cb
  | 7 => .int .i64 (ib : Int)
  | 8 => .pointer (some ⟨gb, ob + ib * 40, none⟩)
  | 9 => .pointer (some ⟨gb, ob + ib * 40 + 1, none⟩)
  | 10 => .agg (vx xb.v).toArray
  | 11 => .agg (cc ⟨xb.p, Ch.vz, cvV xb.v⟩)
  | 12 => .slice (some ⟨D, 0, none⟩) 1 1
  | 13 => v2
  | 14 => v2
  | _ => undef
theorem regoR (gb ob nb cb ib : Nat) (xb : Et) (D : Nat) (v v2 : Value) (w1 w2 : World) (t0 : Array Value) (wr : World) {Q : Exit → Act → World → Prop} (ht : t0.size = 115) (h7 : t0.getD 7 undef = v) (h6 : t0.getD 6 undef = .slice (some ⟨gb, ob, none⟩) nb cb) (h9 : t0.getD 9 undef = .int .i64 (ib : Int))
    (kbI : (ib : Int) < (nb : Int)) (kb0 : (0 : Int) ≤ (ib : Int)) (pb : wr.cell? ⟨gb, ob + ib * 40, none⟩ = some (.string xb.p)) (vb : Ch.Lies wr gb (ob + ib * 40 + 1) (vx xb.v).toArray) (hD : wr.drew.heap.size = D) (e1 : wr.drew.alloc (.cells (cc ⟨xb.p, Ch.vz, cvV xb.v⟩) 44) = w1) (hr : (Builtin.append_ #[35, 35] 35 #[v, .slice (some ⟨D, 0, none⟩) 1 1]).run Try.prog w1 = .ok v2 w2)
    (hQ : ∀ r, Q .normal ⟨fold (opsAt Try.f6 15) (VoR gb ob nb cb ib xb D v v2 r) t0 15, []⟩ w2) : (Code.region 15 (opsAt Try.f6 15) true).wp Try.prog Q ⟨t0, []⟩ wr := by
  have hB : dstB (opsAt Try.f6 15) t0.size = true := by rw [ht]; exact dstoR
  refine inv_region (by kernel_rfl) (IE (opsAt Try.f6 15) (VoR gb ob nb cb ib xb D v v2) t0 (MAp 12 13 w1 w2 wr)) backoR ⟨(), t0, rfl, ⟨rfl, fun _ _ => rfl, fun _ _ _ _ _ h => by cases h⟩, (by show _ = _; simp)⟩ ?_ ?_
  rotate_left 1
  · rintro done a w ⟨r, t, rfl, hS, hM⟩ hall
    rw [hS.end hB hall, sizeoR]
    have a1 := hall 13 (by rw [sizeoR]; decide)
    have hw : w = w2 := by rw [hM]; simp [a1]
    rw [hw]
    exact hQ r
  · rintro jz op done a w ho ⟨r, t, rfl, hS, hM⟩ hnd hdep hcl
    have e6 : t[6]?.getD undef = .slice (some ⟨gb, ob, none⟩) nb cb := (hS.old freeoR6).trans h6
    have e9 : t[9]?.getD undef = .int .i64 (ib : Int) := (hS.old freeoR9).trans h9
    have hlt : jz < 15 := by rw [← sizeoR]; exact (Array.getElem?_eq_some_iff.1 ho).1
    match jz, hlt, ho, hnd, hdep with
    | 0, _, ho, hnd, hdep =>
      obtain ⟨hd, hop, hgd⟩ := say_of soR_0 ho
      have yt14 : done 14 = false := not_yet (k := 0) (j := 14) (by kernel_rfl) hcl hnd
      have e7 : t[7]?.getD undef = _ := (hS.yet hB doR_14 yt14).trans h7
      refine ie_val r hB ho (wanted_none hgd) hd hS (hM.step (by decide) (by decide)) ?_
      unfold execOp
      simp only [hop]
      simp [e7, VoR, go_sem]
    | 1, _, ho, hnd, hdep =>
      obtain ⟨hd, hop, hgd⟩ := say_of soR_1 ho
      refine ie_val r hB ho (wanted_none hgd) hd hS (hM.step (by decide) (by decide)) ?_
      unfold execOp
      simp only [hop]
      simp [e6, VoR, go_sem]
    | 2, _, ho, hnd, hdep =>
      obtain ⟨hd, hop, hgd⟩ := say_of soR_2 ho
      refine ie_val r hB ho (wanted_none hgd) hd hS (hM.step (by decide) (by decide)) ?_
      unfold execOp
      simp only [hop]
      simp [e9, VoR, go_sem]
    | 3, _, ho, hnd, hdep =>
      obtain ⟨hd, hop, hgd⟩ := say_of soR_3 ho
      have x65 : t[65]?.getD undef = _ := hS.at doR_1 (waits (j := 1) (by kernel_rfl) ho hdep)
      simp only [VoR] at x65
      have x66 : t[66]?.getD undef = _ := hS.at doR_2 (waits (j := 2) (by kernel_rfl) ho hdep)
      simp only [VoR] at x66
      refine ie_val r hB ho (wanted_none hgd) hd hS (hM.step (by decide) (by decide)) ?_
      unfold execOp
      simp only [hop]
      simp [x65, x66, VoR, kbI, kb0, Ch.addr_add, go_sem]
    | 4, _, ho, hnd, hdep =>
      obtain ⟨hd, hop, hgd⟩ := say_of soR_4 ho
      have x67 : t[67]?.getD undef = _ := hS.at doR_3 (waits (j := 3) (by kernel_rfl) ho hdep)
      simp only [VoR] at x67
      refine ie_val r hB ho (wanted_none hgd) hd hS (hM.step (by decide) (by decide)) ?_
      unfold execOp
      simp only [hop]
      simp [x67, VoR, go_sem]
    | 5, _, ho, hnd, hdep =>
      obtain ⟨hd, hop, hgd⟩ := say_of soR_5 ho
      have x68 : t[68]?.getD undef = _ := hS.at doR_4 (waits (j := 4) (by kernel_rfl) ho hdep)
      simp only [VoR] at x68
      have ny11 : done 11 = false := not_yet (k := 5) (j := 11) (by kernel_rfl) hcl hnd
      have ny12 : done 12 = false := not_yet (k := 11) (j := 12) (by kernel_rfl) hcl ny11
      have ny13 : done 13 = false := not_yet (k := 12) (j := 13) (by kernel_rfl) hcl ny12
      have hw0 : w = wr.drew := by rw [hM]; simp [ny12, ny13]
      subst hw0
      have cz := (show wr.drew.cell? _ = _ from pb)
      refine ie_val r hB ho (wanted_none hgd) hd hS (hM.step (by decide) (by decide)) ?_
      unfold execOp
      simp only [hop]
      simp [x68, VoR, cz, go_sem]
    | 6, _, ho, hnd, hdep =>
      obtain ⟨hd, hop, hgd⟩ := say_of soR_6 ho
      refine ie_val r hB ho (wanted_none hgd) hd hS (hM.step (by decide) (by decide)) ?_
      unfold execOp
      simp only [hop]
      simp [e6, VoR, go_sem]
    | 7, _, ho, hnd, hdep =>
      obtain ⟨hd, hop, hgd⟩ := say_of soR_7 ho
      refine ie_val r hB ho (wanted_none hgd) hd hS (hM.step (by decide) (by decide)) ?_
      unfold execOp
      simp only [hop]
      simp [e9, VoR, go_sem]
    | 8, _, ho, hnd, hdep =>
      obtain ⟨hd, hop, hgd⟩ := say_of soR_8 ho
      have x70 : t[70]?.getD undef = _ := hS.at doR_6 (waits (j := 6) (by kernel_rfl) ho hdep)
      simp only [VoR] at x70
      have x71 : t[71]?.getD undef = _ := hS.at doR_7 (waits (j := 7) (by kernel_rfl) ho hdep)
      simp only [VoR] at x71
      refine ie_val r hB ho (wanted_none hgd) hd hS (hM.step (by decide) (by decide)) ?_
      unfold execOp
      simp only [hop]
      simp [x70, x71, VoR, kbI, kb0, Ch.addr_add, go_sem]
    | 9, _, ho, hnd, hdep =>
      obtain ⟨hd, hop, hgd⟩ := say_of soR_9 ho
      have x72 : t[72]?.getD undef = _ := hS.at doR_8 (waits (j := 8) (by kernel_rfl) ho hdep)
      simp only [VoR] at x72
      refine ie_val r hB ho (wanted_none hgd) hd hS (hM.step (by decide) (by decide)) ?_
      unfold execOp
      simp only [hop]
      simp [x72, VoR, Ch.addr_add, go_sem]
    | 10, _, ho, hnd, hdep =>
      obtain ⟨hd, hop, hgd⟩ := say_of soR_10 ho
      have x73 : t[73]?.getD undef = _ := hS.at doR_9 (waits (j := 9) (by kernel_rfl) ho hdep)
      simp only [VoR] at x73
      have ny11 : done 11 = false := not_yet (k := 10) (j := 11) (by kernel_rfl) hcl hnd
      have ny12 : done 12 = false := not_yet (k := 11) (j := 12) (by kernel_rfl) hcl ny11
      have ny13 : done 13 = false := not_yet (k := 12) (j := 13) (by kernel_rfl) hcl ny12
      have hw0 : w = wr.drew := by rw [hM]; simp [ny12, ny13]
      subst hw0
      refine ie_val r hB ho (wanted_none hgd) hd hS (hM.step (by decide) (by decide)) ?_
      exact Ch.exec_load 24 _ hop gb (ob + ib * 40 + 1) (by show t.getD 73 undef = _; rw [Array.getD_eq_getD_getElem?]; exact x73) (vx xb.v).toArray _ (vb.drew ⟨1, rfl⟩) under24v rfl (by rw [size24v]; simp [vx_len])
    | 11, _, ho, hnd, hdep =>
      obtain ⟨hd, hop, hgd⟩ := say_of soR_11 ho
      have x69 : t[69]?.getD undef = _ := hS.at doR_5 (waits (j := 5) (by kernel_rfl) ho hdep)
      simp only [VoR] at x69
      have x74 : t[74]?.getD undef = _ := hS.at doR_10 (waits (j := 10) (by kernel_rfl) ho hdep)
      simp only [VoR] at x74
      refine ie_val r hB ho (wanted_none hgd) hd hS (hM.step (by decide) (by decide)) ?_
      exact exec_build44R _ _ hop xb.p (cvV xb.v) (by show t.getD 69 undef = _; rw [Array.getD_eq_getD_getElem?]; exact x69) (by show t.getD 74 undef = _; rw [Array.getD_eq_getD_getElem?]; exact x74) _
    | 12, _, ho, hnd, hdep =>
      obtain ⟨hd, hop, hgd⟩ := say_of soR_12 ho
      have x75 : t[75]?.getD undef = _ := hS.at doR_11 (waits (j := 11) (by kernel_rfl) ho hdep)
      simp only [VoR] at x75
      have ny13 : done 13 = false := not_yet (k := 12) (j := 13) (by kernel_rfl) hcl hnd
      have hw0 : w = wr.drew := by rw [hM]; simp [hnd, ny13]
      subst hw0
      refine ie_val (w' := w1) r hB ho (wanted_none hgd) hd hS (by show _ = _; simp [upd, ny13]) ?_
      rw [← e1]
      exact Ch.exec_slice55 _ hop _ (by show t.getD 75 undef = _; rw [Array.getD_eq_getD_getElem?]; exact x75) (cc_size _) _ _ hD
    | 13, _, ho, hnd, hdep =>
      obtain ⟨hd, hop, hgd⟩ := say_of soR_13 ho
      have x64 : t[64]?.getD undef = _ := hS.at doR_0 (waits (j := 0) (by kernel_rfl) ho hdep)
      simp only [VoR] at x64
      have x76 : t[76]?.getD undef = _ := hS.at doR_12 (waits (j := 12) (by kernel_rfl) ho hdep)
      simp only [VoR] at x76
      have a12 : done 12 = true := waits (j := 12) (by kernel_rfl) ho hdep
      have hw0 : w = w1 := by rw [hM]; simp [hnd, a12]
      subst hw0
      refine ie_val (w' := w2) r hB ho (wanted_none hgd) hd hS (by show _ = _; simp [upd]) ?_
      have ht2 : op.type = 35 := by have := congrArg (·.map (·.type)) ho; simpa using this.symm.trans (show _ = some 35 from by kernel_rfl)
      exact exec_app (a := ⟨t, []⟩) (v := v) (src := .slice (some ⟨D, 0, none⟩) 1 1) (v' := v2) hop (by show t.getD 64 undef = _; rw [Array.getD_eq_getD_getElem?]; exact x64) (by show t.getD 76 undef = _; rw [Array.getD_eq_getD_getElem?]; exact x76) (by rw [ht2]; exact hr)
    | 14, _, ho, hnd, hdep =>
      obtain ⟨hd, hop, hgd⟩ := say_of soR_14 ho
      have x77 : t[77]?.getD undef = _ := hS.at doR_13 (waits (j := 13) (by kernel_rfl) ho hdep)
      simp only [VoR] at x77
      refine ie_val r hB ho (wanted_none hgd) hd hS (hM.step (by decide) (by decide)) ?_
      unfold execOp
      simp only [hop]
      simp [x77, VoR, go_sem]
theorem foldoR (gb ob nb cb ib : Nat) (xb : Et) (D : Nat) (v v2 : Value) (r : Unit) (t0 : Array Value) : fold (opsAt Try.f6 15) (VoR gb ob nb cb ib xb D v v2 r) t0 15 = (((((((((((((((t0.setIfInBounds 64 (v)).setIfInBounds 65 (.slice (some ⟨gb, ob, none⟩) nb cb)).setIfInBounds 66 (.int .i64 (ib : Int))).setIfInBounds 67 (.pointer (some ⟨gb, ob + ib * 40, none⟩))).setIfInBounds 68 (.pointer (some ⟨gb, ob + ib * 40, none⟩))).setIfInBounds 69 (.string xb.p)).setIfInBounds 70 (.slice (some ⟨gb, ob, none⟩) nb cb)).setIfInBounds 71 (.int .i64 (ib : Int))).setIfInBounds 72 (.pointer (some ⟨gb, ob + ib * 40, none⟩))).setIfInBounds 73 (.pointer (some ⟨gb, ob + ib * 40 + 1, none⟩))).setIfInBounds 74 (.agg (vx xb.v).toArray)).setIfInBounds 75 (.agg (cc ⟨xb.p, Ch.vz, cvV xb.v⟩))).setIfInBounds 76 (.slice (some ⟨D, 0, none⟩) 1 1)).setIfInBounds 77 (v2)).setIfInBounds 7 (v2)) := by kernel_rfl
theorem backoB : backB (opsAt Try.f6 18) = true := by kernel_rfl
theorem dstoB : dstB (opsAt Try.f6 18) 115 = true := by kernel_rfl
theorem sizeoB : (opsAt Try.f6 18).size = 20 := by kernel_rfl
theorem freeoB5 : freeB (opsAt Try.f6 18) 5 = true := by kernel_rfl
theorem freeoB8 : freeB (opsAt Try.f6 18) 8 = true := by kernel_rfl
theorem freeoB6 : freeB (opsAt Try.f6 18) 6 = true := by kernel_rfl
theorem freeoB9 : freeB (opsAt Try.f6 18) 9 = true := by kernel_rfl
theorem soB_0 : say (opsAt Try.f6 18) 0 = some (some 91, .move (.tmp 7), none) := by kernel_rfl
theorem doB_0 : slotB (opsAt Try.f6 18) 0 = some 91 := by kernel_rfl
theorem soB_1 : say (opsAt Try.f6 18) 1 = some (some 92, .move (.tmp 5), none) := by kernel_rfl
theorem doB_1 : slotB (opsAt Try.f6 18) 1 = some 92 := by kernel_rfl
theorem soB_2 : say (opsAt Try.f6 18) 2 = some (some 93, .move (.tmp 8), none) := by kernel_rfl
theorem doB_2 : slotB (opsAt Try.f6 18) 2 = some 93 := by kernel_rfl
theorem soB_3 : say (opsAt Try.f6 18) 3 = some (some 94, .indexAddr 60 (.tmp 92) (.tmp 93), none) := by kernel_rfl
theorem doB_3 : slotB (opsAt Try.f6 18) 3 = some 94 := by kernel_rfl
theorem soB_4 : say (opsAt Try.f6 18) 4 = some (some 95, .fieldAddr 64 (.tmp 94) 0, none) := by kernel_rfl
theorem doB_4 : slotB (opsAt Try.f6 18) 4 = some 95 := by kernel_rfl
theorem soB_5 : say (opsAt Try.f6 18) 5 = some (some 96, .load 9 (.tmp 95), none) := by kernel_rfl
theorem doB_5 : slotB (opsAt Try.f6 18) 5 = some 96 := by kernel_rfl
theorem soB_6 : say (opsAt Try.f6 18) 6 = some (some 97, .move (.tmp 5), none) := by kernel_rfl
theorem doB_6 : slotB (opsAt Try.f6 18) 6 = some 97 := by kernel_rfl
theorem soB_7 : say (opsAt Try.f6 18) 7 = some (some 98, .move (.tmp 8), none) := by kernel_rfl
theorem doB_7 : slotB (opsAt Try.f6 18) 7 = some 98 := by kernel_rfl
theorem soB_8 : say (opsAt Try.f6 18) 8 = some (some 99, .indexAddr 60 (.tmp 97) (.tmp 98), none) := by kernel_rfl
theorem doB_8 : slotB (opsAt Try.f6 18) 8 = some 99 := by kernel_rfl
theorem soB_9 : say (opsAt Try.f6 18) 9 = some (some 100, .fieldAddr 64 (.tmp 99) 1, none) := by kernel_rfl
theorem doB_9 : slotB (opsAt Try.f6 18) 9 = some 100 := by kernel_rfl
theorem soB_10 : say (opsAt Try.f6 18) 10 = some (some 101, .load 24 (.tmp 100), none) := by kernel_rfl
theorem doB_10 : slotB (opsAt Try.f6 18) 10 = some 101 := by kernel_rfl
theorem soB_11 : say (opsAt Try.f6 18) 11 = some (some 102, .move (.tmp 6), none) := by kernel_rfl
theorem doB_11 : slotB (opsAt Try.f6 18) 11 = some 102 := by kernel_rfl
theorem soB_12 : say (opsAt Try.f6 18) 12 = some (some 103, .move (.tmp 9), none) := by kernel_rfl
theorem doB_12 : slotB (opsAt Try.f6 18) 12 = some 103 := by kernel_rfl
theorem soB_13 : say (opsAt Try.f6 18) 13 = some (some 104, .indexAddr 60 (.tmp 102) (.tmp 103), none) := by kernel_rfl
theorem doB_13 : slotB (opsAt Try.f6 18) 13 = some 104 := by kernel_rfl
theorem soB_14 : say (opsAt Try.f6 18) 14 = some (some 105, .fieldAddr 64 (.tmp 104) 1, none) := by kernel_rfl
theorem doB_14 : slotB (opsAt Try.f6 18) 14 = some 105 := by kernel_rfl
theorem soB_15 : say (opsAt Try.f6 18) 15 = some (some 106, .load 24 (.tmp 105), none) := by kernel_rfl
theorem doB_15 : slotB (opsAt Try.f6 18) 15 = some 106 := by kernel_rfl
theorem soB_16 : say (opsAt Try.f6 18) 16 = some (some 107, .build 44 #[(0, .tmp 96), (1, .tmp 101), (2, .tmp 106)], none) := by kernel_rfl
theorem doB_16 : slotB (opsAt Try.f6 18) 16 = some 107 := by kernel_rfl
theorem soB_17 : say (opsAt Try.f6 18) 17 = some (some 108, .buildSlice 35 1 #[(0, .tmp 107)], none) := by kernel_rfl
theorem doB_17 : slotB (opsAt Try.f6 18) 17 = some 108 := by kernel_rfl
theorem soB_18 : say (opsAt Try.f6 18) 18 = some (some 109, .call { callee := .builtin .append, args := #[.tmp 91, .tmp 108], argTypes := #[35, 35] }, none) := by kernel_rfl
theorem doB_18 : slotB (opsAt Try.f6 18) 18 = some 109 := by kernel_rfl
theorem soB_19 : say (opsAt Try.f6 18) 19 = some (some 7, .assign (.tmp 109), none) := by kernel_rfl
theorem doB_19 : slotB (opsAt Try.f6 18) 19 = some 7 := by kernel_rfl
def VoB (ga oa na ca ia : Nat) (xa : Et) (gb ob nb cb ib : Nat) (xb : Et) (D : Nat) (v v2 : Value) (_r : Unit) : Nat → Value
  | 0 => v
  | 1 => .slice (some ⟨ga, oa, none⟩) na ca
  | 2 => .int .i64 (ia : Int)
  | 3 => .pointer (some ⟨ga, oa + ia * 40, none⟩)
  | 4 => .pointer (some ⟨ga, oa + ia * 40, none⟩)
  | 5 => .string xa.p
  | 6 => .slice (some ⟨ga, oa, none⟩) na ca
  | 7 => .int .i64 (ia : Int)
  | 8 => .pointer (some ⟨ga, oa + ia * 40, none⟩)
  | 9 => .pointer (some ⟨ga, oa + ia * 40 + 1, none⟩)
  | 10 => .agg (vx xa.v).toArray
  | 11 => .slice (some ⟨gb, ob, none⟩) nb cb
  | 12 => .int .i64 (ib : Int)
  | 13 => .pointer (some ⟨gb, ob + ib * 40, none⟩)
  | 14 => .pointer (some ⟨gb, ob + ib * 40 + 1, none⟩)
  | 15 => .agg (vx xb.v).toArray
  | 16 => .agg (cc ⟨xa.p, cvV xa.v, cvV xb.v⟩)
  | 17 => .slice (some ⟨D, 0, none⟩) 1 1
  | 18 => v2
  | 19 => v2
  | _ => undef
theorem regoB (ga oa na ca ia : Nat) (xa : Et) (gb ob nb cb ib : Nat) (xb : Et) (D : Nat) (v v2 : Value) (w1 w2 : World) (t0 : Array Value) (wr : World) {Q : Exit → Act → World → Prop} (ht : t0.size = 115) (h7 : t0.getD 7 undef = v) (h5 : t0.getD 5 undef = .slice (some ⟨ga, oa, none⟩) na ca) (h8 : t0.getD 8 undef = .int .i64 (ia : Int)) (h6 : t0.getD 6 undef = .slice (some ⟨gb, ob, none⟩) nb cb) (h9 : t0.getD 9 undef = .int .i64 (ib : Int))
    (kaI : (ia : Int) < (na : Int)) (ka0 : (0 : Int) ≤ (ia : Int)) (pa : wr.cell? ⟨ga, oa + ia * 40, none⟩ = some (.string xa.p)) (va : Ch.Lies wr ga (oa + ia * 40 + 1) (vx xa.v).toArray) (kbI : (ib : Int) < (nb : Int)) (kb0 : (0 : Int) ≤ (ib : Int)) (_pb : wr.cell? ⟨gb, ob + ib * 40, none⟩ = some (.string xb.p)) (vb : Ch.Lies wr gb (ob + ib * 40 + 1) (vx xb.v).toArray) (hD : wr.drew.heap.size = D) (e1 : wr.drew.alloc (.cells (cc ⟨xa.p, cvV xa.v, cvV xb.v⟩) 44) = w1) (hr : (Builtin.append_ #[35, 35] 35 #[v, .slice (some ⟨D, 0, none⟩) 1 1]).run Try.prog w1 = .ok v2 w2)
    (hQ : ∀ r, Q .normal ⟨fold (opsAt Try.f6 18) (VoB ga oa na ca ia xa gb ob nb cb ib xb D v v2 r) t0 20, []⟩ w2) : (Code.region 18 (opsAt Try.f6 18) true).wp Try.prog Q ⟨t0, []⟩ wr := by
  have hB : dstB (opsAt Try.f6 18) t0.size = true := by rw [ht]; exact dstoB
  refine inv_region (by kernel_rfl) (IE (opsAt Try.f6 18) (VoB ga oa na ca ia xa gb ob nb cb ib xb D v v2) t0 (MAp 17 18 w1 w2 wr)) backoB ⟨(), t0, rfl, ⟨rfl, fun _ _ => rfl, fun _ _ _ _ _ h => by cases h⟩, (by show _ = _; simp)⟩ ?_ ?_
  rotate_left 1
  · rintro done a w ⟨r, t, rfl, hS, hM⟩ hall
    rw [hS.end hB hall, sizeoB]
    have a1 := hall 18 (by rw [sizeoB]; decide)
    have hw : w = w2 := by rw [hM]; simp [a1]
    rw [hw]
    exact hQ r
  · rintro jz op done a w ho ⟨r, t, rfl, hS, hM⟩ hnd hdep hcl
    have e5 : t[5]?.getD undef = .slice (some ⟨ga, oa, none⟩) na ca := (hS.old freeoB5).trans h5
    have e8 : t[8]?.getD undef = .int .i64 (ia : Int) := (hS.old freeoB8).trans h8
    have e6 : t[6]?.getD undef = .slice (some ⟨gb, ob, none⟩) nb cb := (hS.old freeoB6).trans h6
    have e9 : t[9]?.getD undef = .int .i64 (ib : Int) := (hS.old freeoB9).trans h9
    have hlt : jz < 20 := by rw [← sizeoB]; exact (Array.getElem?_eq_some_iff.1 ho).1
    match jz, hlt, ho, hnd, hdep with
    | 0, _, ho, hnd, hdep =>
      obtain ⟨hd, hop, hgd⟩ := say_of soB_0 ho
      have yt19 : done 19 = false := not_yet (k := 0) (j := 19) (by kernel_rfl) hcl hnd
      have e7 : t[7]?.getD undef = _ := (hS.yet hB doB_19 yt19).trans h7
      refine ie_val r hB ho (wanted_none hgd) hd hS (hM.step (by decide) (by decide)) ?_
      unfold execOp
      simp only [hop]
      simp [e7, VoB, go_sem]
    | 1, _, ho, hnd, hdep =>
      obtain ⟨hd, hop, hgd⟩ := say_of soB_1 ho
      refine ie_val r hB ho (wanted_none hgd) hd hS (hM.step (by decide) (by decide)) ?_
      unfold execOp
      simp only [hop]
      simp [e5, VoB, go_sem]
    | 2, _, ho, hnd, hdep =>
      obtain ⟨hd, hop, hgd⟩ := say_of soB_2 ho
      refine ie_val r hB ho (wanted_none hgd) hd hS (hM.step (by decide) (by decide)) ?_
      unfold execOp
      simp only [hop]
      simp [e8, VoB, go_sem]
    | 3, _, ho, hnd, hdep =>
      obtain ⟨hd, hop, hgd⟩ := say_of soB_3 ho
      have x92 : t[92]?.getD undef = _ := hS.at doB_1 (waits (j := 1) (by kernel_rfl) ho hdep)
      simp only [VoB] at x92
      have x93 : t[93]?.getD undef = _ := hS.at doB_2 (waits (j := 2) (by kernel_rfl) ho hdep)
      simp only [VoB] at x93
      refine ie_val r hB ho (wanted_none hgd) hd hS (hM.step (by decide) (by decide)) ?_
      unfold execOp
      simp only [hop]
      simp [x92, x93, VoB, kaI, ka0, Ch.addr_add, go_sem]
    | 4, _, ho, hnd, hdep =>
      obtain ⟨hd, hop, hgd⟩ := say_of soB_4 ho
      have x94 : t[94]?.getD undef = _ := hS.at doB_3 (waits (j := 3) (by kernel_rfl) ho hdep)
      simp only [VoB] at x94
      refine ie_val r hB ho (wanted_none hgd) hd hS (hM.step (by decide) (by decide)) ?_
      unfold execOp
      simp only [hop]
      simp [x94, VoB, go_sem]
    | 5, _, ho, hnd, hdep =>
      obtain ⟨hd, hop, hgd⟩ := say_of soB_5 ho
      have x95 : t[95]?.getD undef = _ := hS.at doB_4 (waits (j := 4) (by kernel_rfl) ho hdep)
      simp only [VoB] at x95
      have ny16 : done 16 = false := not_yet (k := 5) (j := 16) (by kernel_rfl) hcl hnd
      have ny17 : done 17 = false := not_yet (k := 16) (j := 17) (by kernel_rfl) hcl ny16
      have ny18 : done 18 = false := not_yet (k := 17) (j := 18) (by kernel_rfl) hcl ny17
      have hw0 : w = wr.drew := by rw [hM]; simp [ny17, ny18]
      subst hw0
      have cz := (show wr.drew.cell? _ = _ from pa)
      refine ie_val r hB ho (wanted_none hgd) hd hS (hM.step (by decide) (by decide)) ?_
      unfold execOp
      simp only [hop]
      simp [x95, VoB, cz, go_sem]
    | 6, _, ho, hnd, hdep =>
      obtain ⟨hd, hop, hgd⟩ := say_of soB_6 ho
      refine ie_val r hB ho (wanted_none hgd) hd hS (hM.step (by decide) (by decide)) ?_
      unfold execOp
      simp only [hop]
      simp [e5, VoB, go_sem]
    | 7, _, ho, hnd, hdep =>
      obtain ⟨hd, hop, hgd⟩ := say_of soB_7 ho
      refine ie_val r hB ho (wanted_none hgd) hd hS (hM.step (by decide) (by decide)) ?_
      unfold execOp
      simp only [hop]
      simp [e8, VoB, go_sem]
    | 8, _, ho, hnd, hdep =>
      obtain ⟨hd, hop, hgd⟩ := say_of soB_8 ho
      have x97 : t[97]?.getD undef = _ := hS.at doB_6 (waits (j := 6) (by kernel_rfl) ho hdep)
      simp only [VoB] at x97
      have x98 : t[98]?.getD undef = _ := hS.at doB_7 (waits (j := 7) (by kernel_rfl) ho hdep)
      simp only [VoB] at x98
      refine ie_val r hB ho (wanted_none hgd) hd hS (hM.step (by decide) (by decide)) ?_
      unfold execOp
      simp only [hop]
      simp [x97, x98, VoB, kaI, ka0, Ch.addr_add, go_sem]
    | 9, _, ho, hnd, hdep =>
      obtain ⟨hd, hop, hgd⟩ := say_of soB_9 ho
      have x99 : t[99]?.getD undef = _ := hS.at doB_8 (waits (j := 8) (by kernel_rfl) ho hdep)
      simp only [VoB] at x99
      refine ie_val r hB ho (wanted_none hgd) hd hS (hM.step (by decide) (by decide)) ?_
      unfold execOp
      simp only [hop]
      simp [x99, VoB, Ch.addr_add, go_sem]
    | 10, _, ho, hnd, hdep =>
      obtain ⟨hd, hop, hgd⟩ := say_of soB_10 ho
      have x100 : t[100]?.getD undef = _ := hS.at doB_9 (waits (j := 9) (by kernel_rfl) ho hdep)
      simp only [VoB] at x100
      have ny16 : done 16 = false := not_yet (k := 10) (j := 16) (by kernel_rfl) hcl hnd
      have ny17 : done 17 = false := not_yet (k := 16) (j := 17) (by kernel_rfl) hcl ny16
      have ny18 : done 18 = false := not_yet (k := 17) (j := 18) (by kernel_rfl) hcl ny17
      have hw0 : w = wr.drew := by rw [hM]; simp [ny17, ny18]
      subst hw0
      refine ie_val r hB ho (wanted_none hgd) hd hS (hM.step (by decide) (by decide)) ?_
      exact Ch.exec_load 24 _ hop ga (oa + ia * 40 + 1) (by show t.getD 100 undef = _; rw [Array.getD_eq_getD_getElem?]; exact x100) (vx xa.v).toArray _ (va.drew ⟨1, rfl⟩) under24v rfl (by rw [size24v]; simp [vx_len])
    | 11, _, ho, hnd, hdep =>
      obtain ⟨hd, hop, hgd⟩ := say_of soB_11 ho
      refine ie_val r hB ho (wanted_none hgd) hd hS (hM.step (by decide) (by decide)) ?_
      unfold execOp
      simp only [hop]
      simp [e6, VoB, go_sem]
    | 12, _, ho, hnd, hdep =>
      obtain ⟨hd, hop, hgd⟩ := say_of soB_12 ho
      refine ie_val r hB ho (wanted_none hgd) hd hS (hM.step (by decide) (by decide)) ?_
      unfold execOp
      simp only [hop]
      simp [e9, VoB, go_sem]
    | 13, _, ho, hnd, hdep =>
      obtain ⟨hd, hop, hgd⟩ := say_of soB_13 ho
      have x102 : t[102]?.getD undef = _ := hS.at doB_11 (waits (j := 11) (by kernel_rfl) ho hdep)
      simp only [VoB] at x102
      have x103 : t[103]?.getD undef = _ := hS.at doB_12 (waits (j := 12) (by kernel_rfl) ho hdep)
      simp only [VoB] at x103
      refine ie_val r hB ho (wanted_none hgd) hd hS (hM.step (by decide) (by decide)) ?_
      unfold execOp
      simp only [hop]
      simp [x102, x103, VoB, kbI, kb0, Ch.addr_add, go_sem]
    | 14, _, ho, hnd, hdep =>
      obtain ⟨hd, hop, hgd⟩ := say_of soB_14 ho
      have x104 : t[104]?.getD undef = _ := hS.at doB_13 (waits (j := 13) (by kernel_rfl) ho hdep)
      simp only [VoB] at x104
      refine ie_val r hB ho (wanted_none hgd) hd hS (hM.step (by decide) (by decide)) ?_
      unfold execOp
      simp only [hop]
      simp [x104, VoB, Ch.addr_add, go_sem]
    | 15, _, ho, hnd, hdep =>
      obtain ⟨hd, hop, hgd⟩ := say_of soB_15 ho
      have x105 : t[105]?.getD undef = _ := hS.at doB_14 (waits (j := 14) (by kernel_rfl) ho hdep)
      simp only [VoB] at x105
      have ny16 : done 16 = false := not_yet (k := 15) (j := 16) (by kernel_rfl) hcl hnd
      have ny17 : done 17 = false := not_yet (k := 16) (j := 17) (by kernel_rfl) hcl ny16
      have ny18 : done 18 = false := not_yet (k := 17) (j := 18) (by kernel_rfl) hcl ny17
      have hw0 : w = wr.drew := by rw [hM]; simp [ny17, ny18]
      subst hw0
      refine ie_val r hB ho (wanted_none hgd) hd hS (hM.step (by decide) (by decide)) ?_
      exact Ch.exec_load 24 _ hop gb (ob + ib * 40 + 1) (by show t.getD 105 undef = _; rw [Array.getD_eq_getD_getElem?]; exact x105) (vx xb.v).toArray _ (vb.drew ⟨1, rfl⟩) under24v rfl (by rw [size24v]; simp [vx_len])
    | 16, _, ho, hnd, hdep =>
      obtain ⟨hd, hop, hgd⟩ := say_of soB_16 ho
      have x96 : t[96]?.getD undef = _ := hS.at doB_5 (waits (j := 5) (by kernel_rfl) ho hdep)
      simp only [VoB] at x96
      have x101 : t[101]?.getD undef = _ := hS.at doB_10 (waits (j := 10) (by kernel_rfl) ho hdep)
      simp only [VoB] at x101
      have x106 : t[106]?.getD undef = _ := hS.at doB_15 (waits (j := 15) (by kernel_rfl) ho hdep)
      simp only [VoB] at x106
      refine ie_val r hB ho (wanted_none hgd) hd hS (hM.step (by decide) (by decide)) ?_
      exact Ch.exec_build55 _ _ _ hop xa.p (cvV xa.v) (cvV xb.v) (by show t.getD 96 undef = _; rw [Array.getD_eq_getD_getElem?]; exact x96) (by show t.getD 101 undef = _; rw [Array.getD_eq_getD_getElem?]; exact x101) (by show t.getD 106 undef = _; rw [Array.getD_eq_getD_getElem?]; exact x106) _
    | 17, _, ho, hnd, hdep =>
      obtain ⟨hd, hop, hgd⟩ := say_of soB_17 ho
      have x107 : t[107]?.getD undef = _ := hS.at doB_16 (waits (j := 16) (by kernel_rfl) ho hdep)
      simp only [VoB] at x107
      have ny18 : done 18 = false := not_yet (k := 17) (j := 18) (by kernel_rfl) hcl hnd
      have hw0 : w = wr.drew := by rw [hM]; simp [hnd, ny18]
      subst hw0
      refine ie_val (w' := w1) r hB ho (wanted_none hgd) hd hS (by show _ = _; simp [upd, ny18]) ?_
      rw [← e1]
      exact Ch.exec_slice55 _ hop _ (by show t.getD 107 undef = _; rw [Array.getD_eq_getD_getElem?]; exact x107) (cc_size _) _ _ hD
    | 18, _, ho, hnd, hdep =>
      obtain ⟨hd, hop, hgd⟩ := say_of soB_18 ho
      have x91 : t[91]?.getD undef = _ := hS.at doB_0 (waits (j := 0) (by kernel_rfl) ho hdep)
      simp only [VoB] at x91
      have x108 : t[108]?.getD undef = _ := hS.at doB_17 (waits (j := 17) (by kernel_rfl) ho hdep)
      simp only [VoB] at x108
      have a17 : done 17 = true := waits (j := 17) (by kernel_rfl) ho hdep
      have hw0 : w = w1 := by rw [hM]; simp [hnd, a17]
      subst hw0
      refine ie_val (w' := w2) r hB ho (wanted_none hgd) hd hS (by show _ = _; simp [upd]) ?_
      have ht2 : op.type = 35 := by have := congrArg (·.map (·.type)) ho; simpa using this.symm.trans (show _ = some 35 from by kernel_rfl)
      exact exec_app (a := ⟨t, []⟩) (v := v) (src := .slice (some ⟨D, 0, none⟩) 1 1) (v' := v2) hop (by show t.getD 91 undef = _; rw [Array.getD_eq_getD_getElem?]; exact x91) (by show t.getD 108 undef = _; rw [Array.getD_eq_getD_getElem?]; exact x108) (by rw [ht2]; exact hr)
    | 19, _, ho, hnd, hdep =>
      obtain ⟨hd, hop, hgd⟩ := say_of soB_19 ho
      have x109 : t[109]?.getD undef = _ := hS.at doB_18 (waits (j := 18) (by kernel_rfl) ho hdep)
      simp only [VoB] at x109
      refine ie_val r hB ho (wanted_none hgd) hd hS (hM.step (by decide) (by decide)) ?_
      unfold execOp
      simp only [hop]
      simp [x109, VoB, go_sem]
theorem foldoB (ga oa na ca ia : Nat) (xa : Et) (gb ob nb cb ib : Nat) (xb : Et) (D : Nat) (v v2 : Value) (r : Unit) (t0 : Array Value) : fold (opsAt Try.f6 18) (VoB ga oa na ca ia xa gb ob nb cb ib xb D v v2 r) t0 20 = ((((((((((((((((((((t0.setIfInBounds 91 (v)).setIfInBounds 92 (.slice (some ⟨ga, oa, none⟩) na ca)).setIfInBounds 93 (.int .i64 (ia : Int))).setIfInBounds 94 (.pointer (some ⟨ga, oa + ia * 40, none⟩))).setIfInBounds 95 (.pointer (some ⟨ga, oa + ia * 40, none⟩))).setIfInBounds 96 (.string xa.p)).setIfInBounds 97 (.slice (some ⟨ga, oa, none⟩) na ca)).setIfInBounds 98 (.int .i64 (ia : Int))).setIfInBounds 99 (.pointer (some ⟨ga, oa + ia * 40, none⟩))).setIfInBounds 100 (.pointer (some ⟨ga, oa + ia * 40 + 1, none⟩))).setIfInBounds 101 (.agg (vx xa.v).toArray)).setIfInBounds 102 (.slice (some ⟨gb, ob, none⟩) nb cb)).setIfInBounds 103 (.int .i64 (ib : Int))).setIfInBounds 104 (.pointer (some ⟨gb, ob + ib * 40, none⟩))).setIfInBounds 105 (.pointer (some ⟨gb, ob + ib * 40 + 1, none⟩))).setIfInBounds 106 (.agg (vx xb.v).toArray)).setIfInBounds 107 (.agg (cc ⟨xa.p, cvV xa.v, cvV xb.v⟩))).setIfInBounds 108 (.slice (some ⟨D, 0, none⟩) 1 1)).setIfInBounds 109 (v2)).setIfInBounds 7 (v2)) := by kernel_rfl
theorem backoQ : backB (opsAt Try.f6 17) = true := by kernel_rfl
theorem dstoQ : dstB (opsAt Try.f6 17) 115 = true := by kernel_rfl
theorem sizeoQ : (opsAt Try.f6 17).size = 11 := by kernel_rfl
theorem freeoQ5 : freeB (opsAt Try.f6 17) 5 = true := by kernel_rfl
theorem freeoQ8 : freeB (opsAt Try.f6 17) 8 = true := by kernel_rfl
theorem freeoQ6 : freeB (opsAt Try.f6 17) 6 = true := by kernel_rfl
theorem freeoQ9 : freeB (opsAt Try.f6 17) 9 = true := by kernel_rfl
theorem soQ_0 : say (opsAt Try.f6 17) 0 = some (some 80, .move (.tmp 5), none) := by kernel_rfl
theorem doQ_0 : slotB (opsAt Try.f6 17) 0 = some 80 := by kernel_rfl
theorem soQ_1 : say (opsAt Try.f6 17) 1 = some (some 81, .move (.tmp 8), none) := by kernel_rfl
theorem doQ_1 : slotB (opsAt Try.f6 17) 1 = some 81 := by kernel_rfl
theorem soQ_2 : say (opsAt Try.f6 17) 2 = some (some 82, .indexAddr 60 (.tmp 80) (.tmp 81), none) := by kernel_rfl
theorem doQ_2 : slotB (opsAt Try.f6 17) 2 = some 82 := by kernel_rfl
theorem soQ_3 : say (opsAt Try.f6 17) 3 = some (some 83, .fieldAddr 64 (.tmp 82) 1, none) := by kernel_rfl
theorem doQ_3 : slotB (opsAt Try.f6 17) 3 = some 83 := by kernel_rfl
theorem soQ_4 : say (opsAt Try.f6 17) 4 = some (some 84, .load 24 (.tmp 83), none) := by kernel_rfl
theorem doQ_4 : slotB (opsAt Try.f6 17) 4 = some 84 := by kernel_rfl
theorem soQ_5 : say (opsAt Try.f6 17) 5 = some (some 85, .move (.tmp 6), none) := by kernel_rfl
theorem doQ_5 : slotB (opsAt Try.f6 17) 5 = some 85 := by kernel_rfl
theorem soQ_6 : say (opsAt Try.f6 17) 6 = some (some 86, .move (.tmp 9), none) := by kernel_rfl
theorem doQ_6 : slotB (opsAt Try.f6 17) 6 = some 86 := by kernel_rfl
theorem soQ_7 : say (opsAt Try.f6 17) 7 = some (some 87, .indexAddr 60 (.tmp 85) (.tmp 86), none) := by kernel_rfl
theorem doQ_7 : slotB (opsAt Try.f6 17) 7 = some 87 := by kernel_rfl
theorem soQ_8 : say (opsAt Try.f6 17) 8 = some (some 88, .fieldAddr 64 (.tmp 87) 1, none) := by kernel_rfl
theorem doQ_8 : slotB (opsAt Try.f6 17) 8 = some 88 := by kernel_rfl
theorem soQ_9 : say (opsAt Try.f6 17) 9 = some (some 89, .load 24 (.tmp 88), none) := by kernel_rfl
theorem doQ_9 : slotB (opsAt Try.f6 17) 9 = some 89 := by kernel_rfl
theorem soQ_10 : say (opsAt Try.f6 17) 10 = some (some 90, .binOp .neq 24 (.tmp 84) (.tmp 89) 24, none) := by kernel_rfl
theorem doQ_10 : slotB (opsAt Try.f6 17) 10 = some 90 := by kernel_rfl
def VoQ (ga oa na ca ia : Nat) (xa : Et) (gb ob nb cb ib : Nat) (xb : Et) (q : Bool) (_r : Unit) : Nat → Value
  | 0 => .slice (some ⟨ga, oa, none⟩) na ca
  | 1 => .int .i64 (ia : Int)
  | 2 => .pointer (some ⟨ga, oa + ia * 40, none⟩)
  | 3 => .pointer (some ⟨ga, oa + ia * 40 + 1, none⟩)
  | 4 => .agg (vx xa.v).toArray
  | 5 => .slice (some ⟨gb, ob, none⟩) nb cb
  | 6 => .int .i64 (ib : Int)
  | 7 => .pointer (some ⟨gb, ob + ib * 40, none⟩)
  | 8 => .pointer (some ⟨gb, ob + ib * 40 + 1, none⟩)
  | 9 => .agg (vx xb.v).toArray
  | 10 => .bool q
  | _ => undef
theorem regoQ (ga oa na ca ia : Nat) (xa : Et) (gb ob nb cb ib : Nat) (xb : Et) (q : Bool)  (t0 : Array Value) (wr : World) {Q : Exit → Act → World → Prop} (ht : t0.size = 115) (h5 : t0.getD 5 undef = .slice (some ⟨ga, oa, none⟩) na ca) (h8 : t0.getD 8 undef = .int .i64 (ia : Int)) (h6 : t0.getD 6 undef = .slice (some ⟨gb, ob, none⟩) nb cb) (h9 : t0.getD 9 undef = .int .i64 (ib : Int))
    (kaI : (ia : Int) < (na : Int)) (ka0 : (0 : Int) ≤ (ia : Int)) (_pa : wr.cell? ⟨ga, oa + ia * 40, none⟩ = some (.string xa.p)) (va : Ch.Lies wr ga (oa + ia * 40 + 1) (vx xa.v).toArray) (kbI : (ib : Int) < (nb : Int)) (kb0 : (0 : Int) ≤ (ib : Int)) (_pb : wr.cell? ⟨gb, ob + ib * 40, none⟩ = some (.string xb.p)) (vb : Ch.Lies wr gb (ob + ib * 40 + 1) (vx xb.v).toArray) (hq : (!decide (xa.v = xb.v)) = q)
    (hQ : ∀ (r : Unit) w, Drew wr w → Q .normal ⟨fold (opsAt Try.f6 17) (VoQ ga oa na ca ia xa gb ob nb cb ib xb q r) t0 11, []⟩ w) : (Code.region 17 (opsAt Try.f6 17) true).wp Try.prog Q ⟨t0, []⟩ wr := by
  have hB : dstB (opsAt Try.f6 17) t0.size = true := by rw [ht]; exact dstoQ
  refine inv_region (by kernel_rfl) (IE (opsAt Try.f6 17) (VoQ ga oa na ca ia xa gb ob nb cb ib xb q) t0 ((fun (_ : Unit) (_ : Nat → Bool) (w : World) => Drew wr w) )) backoQ ⟨(), t0, rfl, ⟨rfl, fun _ _ => rfl, fun _ _ _ _ _ h => by cases h⟩, ⟨1, rfl⟩⟩ ?_ ?_
  rotate_left 1
  · rintro done a w ⟨r, t, rfl, hS, hM⟩ hall
    rw [hS.end hB hall, sizeoQ]
    exact hQ r w hM
  · rintro jz op done a w ho ⟨r, t, rfl, hS, hM⟩ hnd hdep hcl
    have e5 : t[5]?.getD undef = .slice (some ⟨ga, oa, none⟩) na ca := (hS.old freeoQ5).trans h5
    have e8 : t[8]?.getD undef = .int .i64 (ia : Int) := (hS.old freeoQ8).trans h8
    have e6 : t[6]?.getD undef = .slice (some ⟨gb, ob, none⟩) nb cb := (hS.old freeoQ6).trans h6
    have e9 : t[9]?.getD undef = .int .i64 (ib : Int) := (hS.old freeoQ9).trans h9
    have hlt : jz < 11 := by rw [← sizeoQ]; exact (Array.getElem?_eq_some_iff.1 ho).1
    match jz, hlt, ho, hnd, hdep with
    | 0, _, ho, hnd, hdep =>
      obtain ⟨hd, hop, hgd⟩ := say_of soQ_0 ho
      refine ie_val r hB ho (wanted_none hgd) hd hS hM ?_
      unfold execOp
      simp only [hop]
      simp [e5, VoQ, go_sem]
    | 1, _, ho, hnd, hdep =>
      obtain ⟨hd, hop, hgd⟩ := say_of soQ_1 ho
      refine ie_val r hB ho (wanted_none hgd) hd hS hM ?_
      unfold execOp
      simp only [hop]
      simp [e8, VoQ, go_sem]
    | 2, _, ho, hnd, hdep =>
      obtain ⟨hd, hop, hgd⟩ := say_of soQ_2 ho
      have x80 : t[80]?.getD undef = _ := hS.at doQ_0 (waits (j := 0) (by kernel_rfl) ho hdep)
      simp only [VoQ] at x80
      have x81 : t[81]?.getD undef = _ := hS.at doQ_1 (waits (j := 1) (by kernel_rfl) ho hdep)
      simp only [VoQ] at x81
      refine ie_val r hB ho (wanted_none hgd) hd hS hM ?_
      unfold execOp
      simp only [hop]
      simp [x80, x81, VoQ, kaI, ka0, Ch.addr_add, go_sem]
    | 3, _, ho, hnd, hdep =>
      obtain ⟨hd, hop, hgd⟩ := say_of soQ_3 ho
      have x82 : t[82]?.getD undef = _ := hS.at doQ_2 (waits (j := 2) (by kernel_rfl) ho hdep)
      simp only [VoQ] at x82
      refine ie_val r hB ho (wanted_none hgd) hd hS hM ?_
      unfold execOp
      simp only [hop]
      simp [x82, VoQ, Ch.addr_add, go_sem]
    | 4, _, ho, hnd, hdep =>
      obtain ⟨hd, hop, hgd⟩ := say_of soQ_4 ho
      have x83 : t[83]?.getD undef = _ := hS.at doQ_3 (waits (j := 3) (by kernel_rfl) ho hdep)
      simp only [VoQ] at x83
      refine ie_val r hB ho (wanted_none hgd) hd hS hM ?_
      exact Ch.exec_load 24 _ hop ga (oa + ia * 40 + 1) (by show t.getD 83 undef = _; rw [Array.getD_eq_getD_getElem?]; exact x83) (vx xa.v).toArray _ (va.drew hM) under24v rfl (by rw [size24v]; simp [vx_len])
    | 5, _, ho, hnd, hdep =>
      obtain ⟨hd, hop, hgd⟩ := say_of soQ_5 ho
      refine ie_val r hB ho (wanted_none hgd) hd hS hM ?_
      unfold execOp
      simp only [hop]
      simp [e6, VoQ, go_sem]
    | 6, _, ho, hnd, hdep =>
      obtain ⟨hd, hop, hgd⟩ := say_of soQ_6 ho
      refine ie_val r hB ho (wanted_none hgd) hd hS hM ?_
      unfold execOp
      simp only [hop]
      simp [e9, VoQ, go_sem]
    | 7, _, ho, hnd, hdep =>
      obtain ⟨hd, hop, hgd⟩ := say_of soQ_7 ho
      have x85 : t[85]?.getD undef = _ := hS.at doQ_5 (waits (j := 5) (by kernel_rfl) ho hdep)
      simp only [VoQ] at x85
      have x86 : t[86]?.getD undef = _ := hS.at doQ_6 (waits (j := 6) (by kernel_rfl) ho hdep)
      simp only [VoQ] at x86
      refine ie_val r hB ho (wanted_none hgd) hd hS hM ?_
      unfold execOp
      simp only [hop]
      simp [x85, x86, VoQ, kbI, kb0, Ch.addr_add, go_sem]
    | 8, _, ho, hnd, hdep =>
      obtain ⟨hd, hop, hgd⟩ := say_of soQ_8 ho
      have x87 : t[87]?.getD undef = _ := hS.at doQ_7 (waits (j := 7) (by kernel_rfl) ho hdep)
      simp only [VoQ] at x87
      refine ie_val r hB ho (wanted_none hgd) hd hS hM ?_
      unfold execOp
      simp only [hop]
      simp [x87, VoQ, Ch.addr_add, go_sem]
    | 9, _, ho, hnd, hdep =>
      obtain ⟨hd, hop, hgd⟩ := say_of soQ_9 ho
      have x88 : t[88]?.getD undef = _ := hS.at doQ_8 (waits (j := 8) (by kernel_rfl) ho hdep)
      simp only [VoQ] at x88
      refine ie_val r hB ho (wanted_none hgd) hd hS hM ?_
      exact Ch.exec_load 24 _ hop gb (ob + ib * 40 + 1) (by show t.getD 88 undef = _; rw [Array.getD_eq_getD_getElem?]; exact x88) (vx xb.v).toArray _ (vb.drew hM) under24v rfl (by rw [size24v]; simp [vx_len])
    | 10, _, ho, hnd, hdep =>
      obtain ⟨hd, hop, hgd⟩ := say_of soQ_10 ho
      have x84 : t[84]?.getD undef = _ := hS.at doQ_4 (waits (j := 4) (by kernel_rfl) ho hdep)
      simp only [VoQ] at x84
      have x89 : t[89]?.getD undef = _ := hS.at doQ_9 (waits (j := 9) (by kernel_rfl) ho hdep)
      simp only [VoQ] at x89
      refine ie_val r hB ho (wanted_none hgd) hd hS hM ?_
      exact exec_neq24' _ _ hop _ _ (by show t.getD 84 undef = _; rw [Array.getD_eq_getD_getElem?]; exact x84) (by show t.getD 89 undef = _; rw [Array.getD_eq_getD_getElem?]; exact x89) xa.v xb.v rfl rfl q hq _
theorem foldoQ (ga oa na ca ia : Nat) (xa : Et) (gb ob nb cb ib : Nat) (xb : Et) (q : Bool) (r : Unit) (t0 : Array Value) : fold (opsAt Try.f6 17) (VoQ ga oa na ca ia xa gb ob nb cb ib xb q r) t0 11 = (((((((((((t0.setIfInBounds 80 (.slice (some ⟨ga, oa, none⟩) na ca)).setIfInBounds 81 (.int .i64 (ia : Int))).setIfInBounds 82 (.pointer (some ⟨ga, oa + ia * 40, none⟩))).setIfInBounds 83 (.pointer (some ⟨ga, oa + ia * 40 + 1, none⟩))).setIfInBounds 84 (.agg (vx xa.v).toArray)).setIfInBounds 85 (.slice (some ⟨gb, ob, none⟩) nb cb)).setIfInBounds 86 (.int .i64 (ib : Int))).setIfInBounds 87 (.pointer (some ⟨gb, ob + ib * 40, none⟩))).setIfInBounds 88 (.pointer (some ⟨gb, ob + ib * 40 + 1, none⟩))).setIfInBounds 89 (.agg (vx xb.v).toArray)).setIfInBounds 90 (.bool q)) := by kernel_rfl
theorem backoP : backB (opsAt Try.f6 10) = true := by kernel_rfl
theorem dstoP : dstB (opsAt Try.f6 10) 115 = true := by kernel_rfl
theorem sizeoP : (opsAt Try.f6 10).size = 12 := by kernel_rfl
theorem freeoP5 : freeB (opsAt Try.f6 10) 5 = true := by kernel_rfl
theorem freeoP8 : freeB (opsAt Try.f6 10) 8 = true := by kernel_rfl
theorem freeoP6 : freeB (opsAt Try.f6 10) 6 = true := by kernel_rfl
theorem freeoP9 : freeB (opsAt Try.f6 10) 9 = true := by kernel_rfl
theorem soP_0 : say (opsAt Try.f6 10) 0 = some (some 33, .move (.tmp 5), none) := by kernel_rfl
theorem doP_0 : slotB (opsAt Try.f6 10) 0 = some 33 := by kernel_rfl
theorem soP_1 : say (opsAt Try.f6 10) 1 = some (some 34, .move (.tmp 8), none) := by kernel_rfl
theorem doP_1 : slotB (opsAt Try.f6 10) 1 = some 34 := by kernel_rfl
theorem soP_2 : say (opsAt Try.f6 10) 2 = some (some 35, .indexAddr 60 (.tmp 33) (.tmp 34), none) := by kernel_rfl
theorem doP_2 : slotB (opsAt Try.f6 10) 2 = some 35 := by kernel_rfl
theorem soP_3 : say (opsAt Try.f6 10) 3 = some (some 36, .fieldAddr 64 (.tmp 35) 0, none) := by kernel_rfl
theorem doP_3 : slotB (opsAt Try.f6 10) 3 = some 36 := by kernel_rfl
theorem soP_4 : say (opsAt Try.f6 10) 4 = some (some 37, .load 9 (.tmp 36), none) := by kernel_rfl
theorem doP_4 : slotB (opsAt Try.f6 10) 4 = some 37 := by kernel_rfl
theorem soP_5 : say (opsAt Try.f6 10) 5 = some (some 38, .move (.tmp 6), none) := by kernel_rfl
theorem doP_5 : slotB (opsAt Try.f6 10) 5 = some 38 := by kernel_rfl
theorem soP_6 : say (opsAt Try.f6 10) 6 = some (some 39, .move (.tmp 9), none) := by kernel_rfl
theorem doP_6 : slotB (opsAt Try.f6 10) 6 = some 39 := by kernel_rfl
theorem soP_7 : say (opsAt Try.f6 10) 7 = some (some 40, .indexAddr 60 (.tmp 38) (.tmp 39), none) := by kernel_rfl
theorem doP_7 : slotB (opsAt Try.f6 10) 7 = some 40 := by kernel_rfl
theorem soP_8 : say (opsAt Try.f6 10) 8 = some (some 41, .fieldAddr 64 (.tmp 40) 0, none) := by kernel_rfl
theorem doP_8 : slotB (opsAt Try.f6 10) 8 = some 41 := by kernel_rfl
theorem soP_9 : say (opsAt Try.f6 10) 9 = some (some 42, .load 9 (.tmp 41), none) := by kernel_rfl
theorem doP_9 : slotB (opsAt Try.f6 10) 9 = some 42 := by kernel_rfl
theorem soP_10 : say (opsAt Try.f6 10) 10 = some (some 43, .call { callee := .value (.func 21), args := #[.tmp 37, .tmp 42], argTypes := #[9, 9] }, none) := by kernel_rfl
theorem doP_10 : slotB (opsAt Try.f6 10) 10 = some 43 := by kernel_rfl
theorem soP_11 : say (opsAt Try.f6 10) 11 = some (some 10, .assign (.tmp 43), none) := by kernel_rfl
theorem doP_11 : slotB (opsAt Try.f6 10) 11 = some 10 := by kernel_rfl
def VoP (ga oa na ca ia : Nat) (xa : Et) (gb ob nb cb ib : Nat) (xb : Et) (q : Int) (_r : Unit) : Nat → Value
  | 0 => .slice (some ⟨ga, oa, none⟩) na ca
  | 1 => .int .i64 (ia : Int)
  | 2 => .pointer (some ⟨ga, oa + ia * 40, none⟩)
  | 3 => .pointer (some ⟨ga, oa + ia * 40, none⟩)
  | 4 => .string xa.p
  | 5 => .slice (some ⟨gb, ob, none⟩) nb cb
  | 6 => .int .i64 (ib : Int)
  | 7 => .pointer (some ⟨gb, ob + ib * 40, none⟩)
  | 8 => .pointer (some ⟨gb, ob + ib * 40, none⟩)
  | 9 => .string xb.p
  | 10 => .int .i64 q
  | 11 => .int .i64 q
  | _ => undef
theorem regoP (ga oa na ca ia : Nat) (xa : Et) (gb ob nb cb ib : Nat) (xb : Et) (q : Int)  (t0 : Array Value) (wr : World) {Q : Exit → Act → World → Prop} (ht : t0.size = 115) (h5 : t0.getD 5 undef = .slice (some ⟨ga, oa, none⟩) na ca) (h8 : t0.getD 8 undef = .int .i64 (ia : Int)) (h6 : t0.getD 6 undef = .slice (some ⟨gb, ob, none⟩) nb cb) (h9 : t0.getD 9 undef = .int .i64 (ib : Int))
    (kaI : (ia : Int) < (na : Int)) (ka0 : (0 : Int) ≤ (ia : Int)) (pa : wr.cell? ⟨ga, oa + ia * 40, none⟩ = some (.string xa.p)) (_va : Ch.Lies wr ga (oa + ia * 40 + 1) (vx xa.v).toArray) (kbI : (ib : Int) < (nb : Int)) (kb0 : (0 : Int) ≤ (ib : Int)) (pb : wr.cell? ⟨gb, ob + ib * 40, none⟩ = some (.string xb.p)) (_vb : Ch.Lies wr gb (ob + ib * 40 + 1) (vx xb.v).toArray) (sa : xa.p.size ≤ 1048576) (sb : xb.p.size ≤ 1048576) (hq : cmpL (tl xa.p) (tl xb.p) = q)
    (hQ : ∀ (r : Unit) w, Below wr.heap.size wr w → Q .normal ⟨fold (opsAt Try.f6 10) (VoP ga oa na ca ia xa gb ob nb cb ib xb q r) t0 12, []⟩ w) : (Code.region 10 (opsAt Try.f6 10) true).wp Try.prog Q ⟨t0, []⟩ wr := by
  have hB : dstB (opsAt Try.f6 10) t0.size = true := by rw [ht]; exact dstoP
  refine inv_region (by kernel_rfl) (IE (opsAt Try.f6 10) (VoP ga oa na ca ia xa gb ob nb cb ib xb q) t0 ((fun (_ : Unit) (_ : Nat → Bool) (w : World) => Below wr.heap.size wr w) )) backoP ⟨(), t0, rfl, ⟨rfl, fun _ _ => rfl, fun _ _ _ _ _ h => by cases h⟩, Below.drews (Below.refl _ wr) ⟨1, rfl⟩⟩ ?_ ?_
  rotate_left 1
  · rintro done a w ⟨r, t, rfl, hS, hM⟩ hall
    rw [hS.end hB hall, sizeoP]
    exact hQ r w hM
  · rintro jz op done a w ho ⟨r, t, rfl, hS, hM⟩ hnd hdep hcl
    have e5 : t[5]?.getD undef = .slice (some ⟨ga, oa, none⟩) na ca := (hS.old freeoP5).trans h5
    have e8 : t[8]?.getD undef = .int .i64 (ia : Int) := (hS.old freeoP8).trans h8
    have e6 : t[6]?.getD undef = .slice (some ⟨gb, ob, none⟩) nb cb := (hS.old freeoP6).trans h6
    have e9 : t[9]?.getD undef = .int .i64 (ib : Int) := (hS.old freeoP9).trans h9
    have hlt : jz < 12 := by rw [← sizeoP]; exact (Array.getElem?_eq_some_iff.1 ho).1
    match jz, hlt, ho, hnd, hdep with
    | 0, _, ho, hnd, hdep =>
      obtain ⟨hd, hop, hgd⟩ := say_of soP_0 ho
      refine ie_val r hB ho (wanted_none hgd) hd hS hM ?_
      unfold execOp
      simp only [hop]
      simp [e5, VoP, go_sem]
    | 1, _, ho, hnd, hdep =>
      obtain ⟨hd, hop, hgd⟩ := say_of soP_1 ho
      refine ie_val r hB ho (wanted_none hgd) hd hS hM ?_
      unfold execOp
      simp only [hop]
      simp [e8, VoP, go_sem]
    | 2, _, ho, hnd, hdep =>
      obtain ⟨hd, hop, hgd⟩ := say_of soP_2 ho
      have x33 : t[33]?.getD undef = _ := hS.at doP_0 (waits (j := 0) (by kernel_rfl) ho hdep)
      simp only [VoP] at x33
      have x34 : t[34]?.getD undef = _ := hS.at doP_1 (waits (j := 1) (by kernel_rfl) ho hdep)
      simp only [VoP] at x34
      refine ie_val r hB ho (wanted_none hgd) hd hS hM ?_
      unfold execOp
      simp only [hop]
      simp [x33, x34, VoP, kaI, ka0, Ch.addr_add, go_sem]
    | 3, _, ho, hnd, hdep =>
      obtain ⟨hd, hop, hgd⟩ := say_of soP_3 ho
      have x35 : t[35]?.getD undef = _ := hS.at doP_2 (waits (j := 2) (by kernel_rfl) ho hdep)
      simp only [VoP] at x35
      refine ie_val r hB ho (wanted_none hgd) hd hS hM ?_
      unfold execOp
      simp only [hop]
      simp [x35, VoP, go_sem]
    | 4, _, ho, hnd, hdep =>
      obtain ⟨hd, hop, hgd⟩ := say_of soP_4 ho
      have x36 : t[36]?.getD undef = _ := hS.at doP_3 (waits (j := 3) (by kernel_rfl) ho hdep)
      simp only [VoP] at x36
      have cz := (hM.cell (World.block_lt_of_cell? wr _ pa)).trans pa
      refine ie_val r hB ho (wanted_none hgd) hd hS hM ?_
      unfold execOp
      simp only [hop]
      simp [x36, VoP, cz, go_sem]
    | 5, _, ho, hnd, hdep =>
      obtain ⟨hd, hop, hgd⟩ := say_of soP_5 ho
      refine ie_val r hB ho (wanted_none hgd) hd hS hM ?_
      unfold execOp
      simp only [hop]
      simp [e6, VoP, go_sem]
    | 6, _, ho, hnd, hdep =>
      obtain ⟨hd, hop, hgd⟩ := say_of soP_6 ho
      refine ie_val r hB ho (wanted_none hgd) hd hS hM ?_
      unfold execOp
      simp only [hop]
      simp [e9, VoP, go_sem]
    | 7, _, ho, hnd, hdep =>
      obtain ⟨hd, hop, hgd⟩ := say_of soP_7 ho
      have x38 : t[38]?.getD undef = _ := hS.at doP_5 (waits (j := 5) (by kernel_rfl) ho hdep)
      simp only [VoP] at x38
      have x39 : t[39]?.getD undef = _ := hS.at doP_6 (waits (j := 6) (by kernel_rfl) ho hdep)
      simp only [VoP] at x39
      refine ie_val r hB ho (wanted_none hgd) hd hS hM ?_
      unfold execOp
      simp only [hop]
      simp [x38, x39, VoP, kbI, kb0, Ch.addr_add, go_sem]
    | 8, _, ho, hnd, hdep =>
      obtain ⟨hd, hop, hgd⟩ := say_of soP_8 ho
      have x40 : t[40]?.getD undef = _ := hS.at doP_7 (waits (j := 7) (by kernel_rfl) ho hdep)
      simp only [VoP] at x40
      refine ie_val r hB ho (wanted_none hgd) hd hS hM ?_
      unfold execOp
      simp only [hop]
      simp [x40, VoP, go_sem]
    | 9, _, ho, hnd, hdep =>
      obtain ⟨hd, hop, hgd⟩ := say_of soP_9 ho
      have x41 : t[41]?.getD undef = _ := hS.at doP_8 (waits (j := 8) (by kernel_rfl) ho hdep)
      simp only [VoP] at x41
      have cz := (hM.cell (World.block_lt_of_cell? wr _ pb)).trans pb
      refine ie_val r hB ho (wanted_none hgd) hd hS hM ?_
      unfold execOp
      simp only [hop]
      simp [x41, VoP, cz, go_sem]
    | 10, _, ho, hnd, hdep =>
      obtain ⟨hd, hop, hgd⟩ := say_of soP_10 ho
      have x37 : t[37]?.getD undef = _ := hS.at doP_4 (waits (j := 4) (by kernel_rfl) ho hdep)
      simp only [VoP] at x37
      have x42 : t[42]?.getD undef = _ := hS.at doP_9 (waits (j := 9) (by kernel_rfl) ho hdep)
      simp only [VoP] at x42
      refine ie_call r 21 #[.string xa.p, .string xb.p] hB ho (wanted_none hgd) hd hS ?_ ?_
      · skip
        unfold execOp
        simp only [hop]
        simp [x37, x42, go_sem]
      · skip
        refine (refCompare_any xa.p xb.p w sa sb).mono ?_
        rintro e w2 ⟨rfl, b2⟩
        exact ⟨r, by rw [hq]; rfl, fun _ _ => rfl, hM.trans (b2.mono hM.size)⟩
    | 11, _, ho, hnd, hdep =>
      obtain ⟨hd, hop, hgd⟩ := say_of soP_11 ho
      have x43 : t[43]?.getD undef = _ := hS.at doP_10 (waits (j := 10) (by kernel_rfl) ho hdep)
      simp only [VoP] at x43
      refine ie_val r hB ho (wanted_none hgd) hd hS hM ?_
      unfold execOp
      simp only [hop]
      simp [x43, VoP, go_sem]
theorem foldoP (ga oa na ca ia : Nat) (xa : Et) (gb ob nb cb ib : Nat) (xb : Et) (q : Int) (r : Unit) (t0 : Array Value) : fold (opsAt Try.f6 10) (VoP ga oa na ca ia xa gb ob nb cb ib xb q r) t0 12 = ((((((((((((t0.setIfInBounds 33 (.slice (some ⟨ga, oa, none⟩) na ca)).setIfInBounds 34 (.int .i64 (ia : Int))).setIfInBounds 35 (.pointer (some ⟨ga, oa + ia * 40, none⟩))).setIfInBounds 36 (.pointer (some ⟨ga, oa + ia * 40, none⟩))).setIfInBounds 37 (.string xa.p)).setIfInBounds 38 (.slice (some ⟨gb, ob, none⟩) nb cb)).setIfInBounds 39 (.int .i64 (ib : Int))).setIfInBounds 40 (.pointer (some ⟨gb, ob + ib * 40, none⟩))).setIfInBounds 41 (.pointer (some ⟨gb, ob + ib * 40, none⟩))).setIfInBounds 42 (.string xb.p)).setIfInBounds 43 (.int .i64 q)).setIfInBounds 10 (.int .i64 q)) := by kernel_rfl
/-- what the two calls leave -/
structure Lf where
  u1 : Value
  w1 : World
  u2 : Value
  w2 : World
def MF (F1 : Value → World → Prop) (F2 : Lf → Prop) (wr : World) (r : Lf) (done : Nat → Bool) (w : World) : Prop := (done 1 = true → F1 r.u1 r.w1) ∧ (done 3 = true → F2 r) ∧ w = (if done 3 = true then r.w2 else if done 1 = true then r.w1 else wr.drew)
theorem MF.step {F1 : Value → World → Prop} {F2 : Lf → Prop} {wr : World} {r : Lf} {done : Nat → Bool} {w : World} (h : MF F1 F2 wr r done w) {j : Nat} (h1 : j ≠ 1) (h2 : j ≠ 3) : MF F1 F2 wr r (upd done j) w := by
  unfold MF at *
  rw [upd_ne done (Ne.symm h1), upd_ne done (Ne.symm h2)]
  exact h
theorem backoF : backB (opsAt Try.f6 1) = true := by kernel_rfl
theorem dstoF : dstB (opsAt Try.f6 1) 115 = true := by kernel_rfl
theorem sizeoF : (opsAt Try.f6 1).size = 6 := by kernel_rfl
theorem freeoF2 : freeB (opsAt Try.f6 1) 2 = true := by kernel_rfl
theorem freeoF3 : freeB (opsAt Try.f6 1) 3 = true := by kernel_rfl
theorem soF_0 : say (opsAt Try.f6 1) 0 = some (some 11, .load 30 (.tmp 2), none) := by kernel_rfl
theorem doF_0 : slotB (opsAt Try.f6 1) 0 = some 11 := by kernel_rfl
theorem soF_1 : say (opsAt Try.f6 1) 1 = some (some 12, .call { callee := .value (.func 20), args := #[.tmp 11], argTypes := #[30] }, none) := by kernel_rfl
theorem doF_1 : slotB (opsAt Try.f6 1) 1 = some 12 := by kernel_rfl
theorem soF_2 : say (opsAt Try.f6 1) 2 = some (some 13, .load 30 (.tmp 3), none) := by kernel_rfl
theorem doF_2 : slotB (opsAt Try.f6 1) 2 = some 13 := by kernel_rfl
theorem soF_3 : say (opsAt Try.f6 1) 3 = some (some 14, .call { callee := .value (.func 20), args := #[.tmp 13], argTypes := #[30] }, none) := by kernel_rfl
theorem doF_3 : slotB (opsAt Try.f6 1) 3 = some 14 := by kernel_rfl
theorem soF_4 : say (opsAt Try.f6 1) 4 = some (some 5, .assign (.tmp 12), none) := by kernel_rfl
theorem doF_4 : slotB (opsAt Try.f6 1) 4 = some 5 := by kernel_rfl
theorem soF_5 : say (opsAt Try.f6 1) 5 = some (some 6, .assign (.tmp 14), none) := by kernel_rfl
theorem doF_5 : slotB (opsAt Try.f6 1) 5 = some 6 := by kernel_rfl
def VoF (_B : Nat) (c1 c2 : Array Value) (r : Lf) : Nat → Value
  | 0 => .agg c1
  | 1 => r.u1
  | 2 => .agg c2
  | 3 => r.u2
  | 4 => r.u1
  | 5 => r.u2
  | _ => undef
theorem regoF (B : Nat) (c1 c2 : Array Value) (F1 : Value → World → Prop) (F2 : Lf → Prop) (t0 : Array Value) (wr : World) {Q : Exit → Act → World → Prop} (ht : t0.size = 115) (h2 : t0.getD 2 undef = .pointer (some ⟨B, 0, none⟩)) (h3 : t0.getD 3 undef = .pointer (some ⟨B + 1, 0, none⟩))
    (l1 : Lies wr B 0 c1) (l2 : Lies wr (B + 1) 0 c2) (s1 : c1.size = 41) (s2 : c2.size = 41) (hG1 : ∀ u w, F1 u w → Below wr.heap.size wr w)
    (hC1 : Calls Try.prog 20 #[.agg c1] wr.drew fun e w' => ∃ u, e = .returned u ∧ F1 u w') (hC2 : ∀ u1 w1, F1 u1 w1 → Calls Try.prog 20 #[.agg c2] w1 fun e w' => ∃ u, e = .returned u ∧ F2 ⟨u1, w1, u, w'⟩)
    (hQ : ∀ r, F2 r → Q .normal ⟨fold (opsAt Try.f6 1) (VoF B c1 c2 r) t0 6, []⟩ r.w2) : (Code.region 1 (opsAt Try.f6 1) true).wp Try.prog Q ⟨t0, []⟩ wr := by
  have hB : dstB (opsAt Try.f6 1) t0.size = true := by rw [ht]; exact dstoF
  refine inv_region (by kernel_rfl) (IE (opsAt Try.f6 1) (VoF B c1 c2) t0 (MF F1 F2 wr)) backoF ⟨⟨undef, wr, undef, wr⟩, t0, rfl, ⟨rfl, fun _ _ => rfl, fun _ _ _ _ _ h => by cases h⟩, (fun h => by cases h), (fun h => by cases h), by simp⟩ ?_ ?_
  rotate_left 1
  · rintro done a w ⟨r, t, rfl, hS, hM⟩ hall
    rw [hS.end hB hall, sizeoF]
    have a3 := hall 3 (by rw [sizeoF]; decide)
    have hw := hM.2.2
    rw [a3, if_pos rfl] at hw
    rw [hw]
    exact hQ r (hM.2.1 a3)
  · rintro jz op done a w ho ⟨r, t, rfl, hS, hM⟩ hnd hdep hcl
    have e2 : t[2]?.getD undef = .pointer (some ⟨B, 0, none⟩) := (hS.old freeoF2).trans h2
    have e3 : t[3]?.getD undef = .pointer (some ⟨B + 1, 0, none⟩) := (hS.old freeoF3).trans h3
    have hlt : jz < 6 := by rw [← sizeoF]; exact (Array.getElem?_eq_some_iff.1 ho).1
    match jz, hlt, ho, hnd, hdep with
    | 0, _, ho, hnd, hdep =>
      obtain ⟨hd, hop, hgd⟩ := say_of soF_0 ho
      have ny1 : done 1 = false := not_yet (k := 0) (j := 1) (by kernel_rfl) hcl hnd
      have ny3 : done 3 = false := not_yet (k := 1) (j := 3) (by kernel_rfl) hcl ny1
      have hw0 : w = wr.drew := by rw [hM.2.2]; simp [ny1, ny3]
      subst hw0
      refine ie_val r hB ho (wanted_none hgd) hd hS (hM.step (by decide) (by decide)) ?_
      exact exec_load30 (a := ⟨t, []⟩) _ hop B 0 (by show t.getD 2 undef = _; rw [Array.getD_eq_getD_getElem?]; exact e2) c1 s1 (l1.below (Below.drews (Below.refl _ _) ⟨1, rfl⟩))
    | 1, _, ho, hnd, hdep =>
      obtain ⟨hd, hop, hgd⟩ := say_of soF_1 ho
      have x11 : t[11]?.getD undef = _ := hS.at doF_0 (waits (j := 0) (by kernel_rfl) ho hdep)
      simp only [VoF] at x11
      have ny3 : done 3 = false := not_yet (k := 1) (j := 3) (by kernel_rfl) hcl hnd
      have ny4 : done 4 = false := not_yet (k := 1) (j := 4) (by kernel_rfl) hcl hnd
      have ny5 : done 5 = false := not_yet (k := 1) (j := 5) (by kernel_rfl) hcl hnd
      have hw0 : w = wr.drew := by rw [hM.2.2]; simp [hnd, ny3]
      subst hw0
      refine ie_call r 20 #[.agg c1] hB ho (wanted_none hgd) hd hS ?_ ?_
      · skip
        unfold execOp
        simp only [hop]
        simp [x11, go_sem]
      · skip
        refine hC1.mono ?_
        rintro e w' ⟨u, rfl, hF⟩
        refine ⟨{ r with u1 := u, w1 := w' }, rfl, fun k hk => ?_, fun _ => hF, fun h => ?_, by simp [upd, ny3]⟩
        · have h1 : k ≠ 1 := fun e => by rw [e, hnd] at hk; cases hk
          have h2 : k ≠ 3 := fun e => by rw [e, ny3] at hk; cases hk
          have h3 : k ≠ 4 := fun e => by rw [e, ny4] at hk; cases hk
          have h4 : k ≠ 5 := fun e => by rw [e, ny5] at hk; cases hk
          unfold VoF
          split <;> first | rfl | exact absurd rfl h1 | exact absurd rfl h2 | exact absurd rfl h3 | exact absurd rfl h4
        · rw [show upd done 1 3 = done 3 from rfl, ny3] at h
          cases h
    | 2, _, ho, hnd, hdep =>
      obtain ⟨hd, hop, hgd⟩ := say_of soF_2 ho
      have ny3 : done 3 = false := not_yet (k := 2) (j := 3) (by kernel_rfl) hcl hnd
      have hb : Below wr.heap.size wr w := by
        rw [hM.2.2, ny3]
        simp only [Bool.false_eq_true, if_false]
        split
        · rename_i h1
          exact hG1 _ _ (hM.1 h1)
        · exact Below.drews (Below.refl _ _) ⟨1, rfl⟩
      refine ie_val r hB ho (wanted_none hgd) hd hS (hM.step (by decide) (by decide)) ?_
      exact exec_load30 (a := ⟨t, []⟩) _ hop (B + 1) 0 (by show t.getD 3 undef = _; rw [Array.getD_eq_getD_getElem?]; exact e3) c2 s2 (l2.below hb)
    | 3, _, ho, hnd, hdep =>
      obtain ⟨hd, hop, hgd⟩ := say_of soF_3 ho
      have x13 : t[13]?.getD undef = _ := hS.at doF_2 (waits (j := 2) (by kernel_rfl) ho hdep)
      simp only [VoF] at x13
      have ny4 : done 4 = false := not_yet (k := 3) (j := 4) (by kernel_rfl) hcl hnd
      have ny5 : done 5 = false := not_yet (k := 3) (j := 5) (by kernel_rfl) hcl hnd
      have a1 : done 1 = true := waits (j := 1) (by kernel_rfl) ho hdep
      have hw0 : w = r.w1 := by rw [hM.2.2]; simp [hnd, a1]
      refine ie_call r 20 #[.agg c2] hB ho (wanted_none hgd) hd hS ?_ ?_
      · skip
        unfold execOp
        simp only [hop]
        simp [x13, go_sem]
      · skip
        rw [hw0]
        refine (hC2 r.u1 r.w1 (hM.1 a1)).mono ?_
        rintro e w' ⟨u, rfl, hF⟩
        refine ⟨{ r with u2 := u, w2 := w' }, rfl, fun k hk => ?_, fun _ => hM.1 a1, fun _ => hF, by simp [upd]⟩
        have h2 : k ≠ 3 := fun e => by rw [e, hnd] at hk; cases hk
        have h3 : k ≠ 4 := fun e => by rw [e, ny4] at hk; cases hk
        have h4 : k ≠ 5 := fun e => by rw [e, ny5] at hk; cases hk
        unfold VoF
        split <;> first | rfl | exact absurd rfl h2 | exact absurd rfl h3 | exact absurd rfl h4
    | 4, _, ho, hnd, hdep =>
      obtain ⟨hd, hop, hgd⟩ := say_of soF_4 ho
      have x12 : t[12]?.getD undef = _ := hS.at doF_1 (waits (j := 1) (by kernel_rfl) ho hdep)
      simp only [VoF] at x12
      refine ie_val r hB ho (wanted_none hgd) hd hS (hM.step (by decide) (by decide)) ?_
      unfold execOp
      simp only [hop]
      simp [x12, VoF, go_sem]
    | 5, _, ho, hnd, hdep =>
      obtain ⟨hd, hop, hgd⟩ := say_of soF_5 ho
      have x14 : t[14]?.getD undef = _ := hS.at doF_3 (waits (j := 3) (by kernel_rfl) ho hdep)
      simp only [VoF] at x14
      refine ie_val r hB ho (wanted_none hgd) hd hS (hM.step (by decide) (by decide)) ?_
      unfold execOp
      simp only [hop]
      simp [x14, VoF, go_sem]
theorem foldoF (B : Nat) (c1 c2 : Array Value) (r : Lf) (t0 : Array Value) : fold (opsAt Try.f6 1) (VoF B c1 c2 r) t0 6 = ((((((t0.setIfInBounds 11 (.agg c1)).setIfInBounds 12 (r.u1)).setIfInBounds 13 (.agg c2)).setIfInBounds 14 (r.u2)).setIfInBounds 5 (r.u1)).setIfInBounds 6 (r.u2)) := by kernel_rfl
end Go.Proofs.Ytlelgboklkmkdaa
