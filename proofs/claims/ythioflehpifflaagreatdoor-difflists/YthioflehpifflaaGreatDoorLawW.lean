/-
  DiffLists: the walk.
-/
import Derived.Test.YthioflehpifflaaGreatDoorLists
import Derived.Test.YthioflehpifflaaGreatDoorFew
namespace Go.Proofs.YthioflehpifflaaGreatDoor
open Go.RowKit Bk

theorem over_mid (A M B vs : List Value) (j : Nat) (h : j + vs.length ≤ M.length) : over (A ++ (M ++ B)) (A.length + j) vs = A ++ (over M j vs ++ B) := by
  unfold over
  have t : (A ++ (M ++ B)).take (A.length + j) = A ++ M.take j := by
    rw [List.take_length_add_append, List.take_append_of_le_length (by omega)]
  have d : (A ++ (M ++ B)).drop (A.length + j + vs.length) = M.drop (j + vs.length) ++ B := by
    rw [Nat.add_assoc, List.drop_length_add_append, List.drop_append_of_le_length (by omega)]
  rw [t, d]
  simp [List.append_assoc]
theorem flat_over_at {L : List Cd} {i : Nat} {x x' : Cd} {j : Nat} {vs : List Value} (h : L[i]? = some x) (hj : j + vs.length ≤ 71) (e : (cc x').toList = over (cc x).toList j vs) : over (rcs L) (i * 71 + j) vs = rcs (L.set i x') := by
  have hi := (List.getElem?_eq_some_iff.1 h).1
  have hx := (List.getElem?_eq_some_iff.1 h).2
  have e1 : rcs L = rcs (L.take i) ++ ((cc x).toList ++ rcs (L.drop (i + 1))) := by
    conv => lhs; rw [← List.take_append_drop i L, List.drop_eq_getElem_cons hi, hx]
    rw [rcs_app]
    rfl
  have e2 : rcs (L.set i x') = rcs (L.take i) ++ ((cc x').toList ++ rcs (L.drop (i + 1))) := by
    rw [List.set_eq_take_append_cons_drop, if_pos hi, rcs_app]
    rfl
  have hl : (rcs (L.take i)).length = i * 71 := by rw [rcs_len, List.length_take, Nat.min_eq_left (by omega)]
  rw [e1, e2, e, ← hl, over_mid]
  simp [cc_size]
  exact hj
theorem cc_setP (c : Cd) (p : ByteArray) : (cc ⟨p, c.old, c.new⟩).toList = over (cc c).toList 0 [.string p] := by simp [over, cc]
theorem cc_setO (c : Cd) (v : Vd) : (cc ⟨c.path, v, c.new⟩).toList = over (cc c).toList 1 (vx v) := by
  simp [over, cc, vx_len]
theorem cc_setN (c : Cd) (v : Vd) : (cc ⟨c.path, c.old, v⟩).toList = over (cc c).toList 36 (vx v) := by
  simp [over, cc, vx_len]
theorem cc_setM (c : Cd) (m : Int) : (cc ⟨c.path, c.old, ⟨c.new.kind, m, c.new.size, c.new.sum, c.new.len⟩⟩).toList = over (cc c).toList 37 [.int .i64 m] := by
  simp [over, cc, vx, c.old.len, List.take_append, List.drop_append]
  rw [List.take_of_length_le (by simp [c.old.len]), List.drop_of_length_le (by simp [c.old.len])]
  rfl
theorem backZ : backB (opsAt Tryz.f3 15) = true := by kernel_rfl
theorem dstZ : dstB (opsAt Tryz.f3 15) 134 = true := by kernel_rfl
theorem sizeZ : (opsAt Tryz.f3 15).size = 20 := by kernel_rfl
theorem freeZ7 : freeB (opsAt Tryz.f3 15) 7 = true := by kernel_rfl
theorem freeZ10 : freeB (opsAt Tryz.f3 15) 10 = true := by kernel_rfl
def VZ (ga oa n cp k : Nat) (YO YN : Array Value) : Nat → Value
  | 0 => .slice (some ⟨ga, oa, none⟩) n cp
  | 1 => .int .i64 (k : Int)
  | 2 => .slice (some ⟨ga, oa, none⟩) n cp
  | 3 => .int .i64 (k : Int)
  | 4 => .slice (some ⟨ga, oa, none⟩) n cp
  | 5 => .int .i64 (k : Int)
  | 6 => .pointer (some ⟨ga, oa + k * 71, none⟩)
  | 7 => .pointer (some ⟨ga, oa + k * 71 + 36, none⟩)
  | 8 => .agg YN
  | 9 => .slice (some ⟨ga, oa, none⟩) n cp
  | 10 => .int .i64 (k : Int)
  | 11 => .pointer (some ⟨ga, oa + k * 71, none⟩)
  | 12 => .pointer (some ⟨ga, oa + k * 71 + 1, none⟩)
  | 13 => .agg YO
  | 14 => .pointer (some ⟨ga, oa + k * 71, none⟩)
  | 15 => .pointer (some ⟨ga, oa + k * 71 + 1, none⟩)
  | 16 => undef
  | 17 => .pointer (some ⟨ga, oa + k * 71, none⟩)
  | 18 => .pointer (some ⟨ga, oa + k * 71 + 36, none⟩)
  | 19 => undef
  | _ => undef
theorem sZ_0 : say (opsAt Tryz.f3 15) 0 = some (some 78, .move (.tmp 7), none) := by kernel_rfl
theorem dZ_0 : slotB (opsAt Tryz.f3 15) 0 = some 78 := by kernel_rfl
theorem sZ_1 : say (opsAt Tryz.f3 15) 1 = some (some 79, .move (.tmp 10), none) := by kernel_rfl
theorem dZ_1 : slotB (opsAt Tryz.f3 15) 1 = some 79 := by kernel_rfl
theorem sZ_2 : say (opsAt Tryz.f3 15) 2 = some (some 80, .move (.tmp 7), none) := by kernel_rfl
theorem dZ_2 : slotB (opsAt Tryz.f3 15) 2 = some 80 := by kernel_rfl
theorem sZ_3 : say (opsAt Tryz.f3 15) 3 = some (some 81, .move (.tmp 10), none) := by kernel_rfl
theorem dZ_3 : slotB (opsAt Tryz.f3 15) 3 = some 81 := by kernel_rfl
theorem sZ_4 : say (opsAt Tryz.f3 15) 4 = some (some 82, .move (.tmp 7), none) := by kernel_rfl
theorem dZ_4 : slotB (opsAt Tryz.f3 15) 4 = some 82 := by kernel_rfl
theorem sZ_5 : say (opsAt Tryz.f3 15) 5 = some (some 83, .move (.tmp 10), none) := by kernel_rfl
theorem dZ_5 : slotB (opsAt Tryz.f3 15) 5 = some 83 := by kernel_rfl
theorem sZ_6 : say (opsAt Tryz.f3 15) 6 = some (some 84, .indexAddr 22 (.tmp 82) (.tmp 83), none) := by kernel_rfl
theorem dZ_6 : slotB (opsAt Tryz.f3 15) 6 = some 84 := by kernel_rfl
theorem sZ_7 : say (opsAt Tryz.f3 15) 7 = some (some 85, .fieldAddr 55 (.tmp 84) 2, none) := by kernel_rfl
theorem dZ_7 : slotB (opsAt Tryz.f3 15) 7 = some 85 := by kernel_rfl
theorem sZ_8 : say (opsAt Tryz.f3 15) 8 = some (some 86, .load 53 (.tmp 85), none) := by kernel_rfl
theorem dZ_8 : slotB (opsAt Tryz.f3 15) 8 = some 86 := by kernel_rfl
theorem sZ_9 : say (opsAt Tryz.f3 15) 9 = some (some 87, .move (.tmp 7), none) := by kernel_rfl
theorem dZ_9 : slotB (opsAt Tryz.f3 15) 9 = some 87 := by kernel_rfl
theorem sZ_10 : say (opsAt Tryz.f3 15) 10 = some (some 88, .move (.tmp 10), none) := by kernel_rfl
theorem dZ_10 : slotB (opsAt Tryz.f3 15) 10 = some 88 := by kernel_rfl
theorem sZ_11 : say (opsAt Tryz.f3 15) 11 = some (some 89, .indexAddr 22 (.tmp 87) (.tmp 88), none) := by kernel_rfl
theorem dZ_11 : slotB (opsAt Tryz.f3 15) 11 = some 89 := by kernel_rfl
theorem sZ_12 : say (opsAt Tryz.f3 15) 12 = some (some 90, .fieldAddr 55 (.tmp 89) 1, none) := by kernel_rfl
theorem dZ_12 : slotB (opsAt Tryz.f3 15) 12 = some 90 := by kernel_rfl
theorem sZ_13 : say (opsAt Tryz.f3 15) 13 = some (some 91, .load 53 (.tmp 90), none) := by kernel_rfl
theorem dZ_13 : slotB (opsAt Tryz.f3 15) 13 = some 91 := by kernel_rfl
theorem sZ_14 : say (opsAt Tryz.f3 15) 14 = some (some 92, .indexAddr 22 (.tmp 78) (.tmp 79), none) := by kernel_rfl
theorem dZ_14 : slotB (opsAt Tryz.f3 15) 14 = some 92 := by kernel_rfl
theorem sZ_15 : say (opsAt Tryz.f3 15) 15 = some (some 93, .fieldAddr 55 (.tmp 92) 1, none) := by kernel_rfl
theorem dZ_15 : slotB (opsAt Tryz.f3 15) 15 = some 93 := by kernel_rfl
theorem sZ_16 : say (opsAt Tryz.f3 15) 16 = some (none, .store 53 (.tmp 93) (.tmp 86), none) := by kernel_rfl
theorem sZ_17 : say (opsAt Tryz.f3 15) 17 = some (some 94, .indexAddr 22 (.tmp 80) (.tmp 81), none) := by kernel_rfl
theorem dZ_17 : slotB (opsAt Tryz.f3 15) 17 = some 94 := by kernel_rfl
theorem sZ_18 : say (opsAt Tryz.f3 15) 18 = some (some 95, .fieldAddr 55 (.tmp 94) 2, none) := by kernel_rfl
theorem dZ_18 : slotB (opsAt Tryz.f3 15) 18 = some 95 := by kernel_rfl
theorem sZ_19 : say (opsAt Tryz.f3 15) 19 = some (none, .store 53 (.tmp 95) (.tmp 91), none) := by kernel_rfl
set_option maxHeartbeats 4000000 in
set_option maxRecDepth 100000 in
theorem regZ (ga oa n cp k : Nat) (YO YN : Array Value) (wB wC : World) (t0 : Array Value) (wr : World) {Q : Exit → Act → World → Prop} (ht : t0.size = 134) (h7 : t0.getD 7 undef = .slice (some ⟨ga, oa, none⟩) n cp) (h10 : t0.getD 10 undef = .int .i64 (k : Int))
    (hk : k < n) (lO : Lies wr.drew ga (oa + k * 71 + 1) YO) (lN : Lies wr.drew ga (oa + k * 71 + 36) YN) (sO : YO.size = 35) (sN : YN.size = 35) (aO : YO.all (·.oneCell') = true) (aN : YN.all (·.oneCell') = true) (tB : wr.drew.there ga (oa + k * 71 + 1) 35) (hwB : wr.drew.setCells ga (oa + k * 71 + 1) YN.toList = wB) (tC : wB.there ga (oa + k * 71 + 36) 35) (hwC : wB.setCells ga (oa + k * 71 + 36) YO.toList = wC)
    (hQ : Q .normal ⟨fold (opsAt Tryz.f3 15) (VZ ga oa n cp k YO YN) t0 20, []⟩ wC) : (Code.region 15 (opsAt Tryz.f3 15) true).wp Tryz.prog Q ⟨t0, []⟩ wr := by
  have hB : dstB (opsAt Tryz.f3 15) t0.size = true := by rw [ht]; exact dstZ
  have kI : (k : Int) < (n : Int) := by omega
  have k0 : (0 : Int) ≤ (k : Int) := by omega
  refine inv_region (by kernel_rfl) (IV (opsAt Tryz.f3 15) (VZ ga oa n cp k YO YN) t0 (fun done w => w = (if done 19 = true then wC else (if done 16 = true then wB else wr.drew)))) backZ ⟨t0, rfl, ⟨rfl, fun _ _ => rfl, fun _ _ _ _ _ h => by cases h⟩, by simp⟩ ?_ ?_
  rotate_left 1
  · rintro done a w ⟨t, rfl, hS, hw⟩ hall
    rw [hS.end hB hall, sizeZ]
    rw [hall 19 (by rw [sizeZ]; decide), if_pos rfl] at hw
    rw [hw]
    exact hQ
  · rintro jz op done a w ho ⟨t, rfl, hS, hw⟩ hnd hdep hcl
    have e7 : t[7]?.getD undef = .slice (some ⟨ga, oa, none⟩) n cp := (hS.old freeZ7).trans h7
    have e10 : t[10]?.getD undef = .int .i64 (k : Int) := (hS.old freeZ10).trans h10
    have hlt : jz < 20 := by rw [← sizeZ]; exact (Array.getElem?_eq_some_iff.1 ho).1
    match jz, hlt, ho, hnd, hdep with
    | 0, _, ho, hnd, hdep =>
      obtain ⟨hd, hop, hgd⟩ := say_of sZ_0 ho
      refine iv_val hB ho hgd hd hS (by simpa [upd] using hw) ?_
      unfold execOp
      simp only [hop]
      simp [e7, VZ, go_sem]
    | 1, _, ho, hnd, hdep =>
      obtain ⟨hd, hop, hgd⟩ := say_of sZ_1 ho
      refine iv_val hB ho hgd hd hS (by simpa [upd] using hw) ?_
      unfold execOp
      simp only [hop]
      simp [e10, VZ, go_sem]
    | 2, _, ho, hnd, hdep =>
      obtain ⟨hd, hop, hgd⟩ := say_of sZ_2 ho
      refine iv_val hB ho hgd hd hS (by simpa [upd] using hw) ?_
      unfold execOp
      simp only [hop]
      simp [e7, VZ, go_sem]
    | 3, _, ho, hnd, hdep =>
      obtain ⟨hd, hop, hgd⟩ := say_of sZ_3 ho
      refine iv_val hB ho hgd hd hS (by simpa [upd] using hw) ?_
      unfold execOp
      simp only [hop]
      simp [e10, VZ, go_sem]
    | 4, _, ho, hnd, hdep =>
      obtain ⟨hd, hop, hgd⟩ := say_of sZ_4 ho
      refine iv_val hB ho hgd hd hS (by simpa [upd] using hw) ?_
      unfold execOp
      simp only [hop]
      simp [e7, VZ, go_sem]
    | 5, _, ho, hnd, hdep =>
      obtain ⟨hd, hop, hgd⟩ := say_of sZ_5 ho
      refine iv_val hB ho hgd hd hS (by simpa [upd] using hw) ?_
      unfold execOp
      simp only [hop]
      simp [e10, VZ, go_sem]
    | 6, _, ho, hnd, hdep =>
      obtain ⟨hd, hop, hgd⟩ := say_of sZ_6 ho
      have x82 : t[82]?.getD undef = _ := hS.at dZ_4 (waits (j := 4) (by kernel_rfl) ho hdep)
      simp only [VZ] at x82
      have x83 : t[83]?.getD undef = _ := hS.at dZ_5 (waits (j := 5) (by kernel_rfl) ho hdep)
      simp only [VZ] at x83
      refine iv_val hB ho hgd hd hS (by simpa [upd] using hw) ?_
      unfold execOp
      simp only [hop]
      simp [x82, x83, VZ, kI, k0, addr_add, go_sem]
    | 7, _, ho, hnd, hdep =>
      obtain ⟨hd, hop, hgd⟩ := say_of sZ_7 ho
      have x84 : t[84]?.getD undef = _ := hS.at dZ_6 (waits (j := 6) (by kernel_rfl) ho hdep)
      simp only [VZ] at x84
      refine iv_val hB ho hgd hd hS (by simpa [upd] using hw) ?_
      unfold execOp
      simp only [hop]
      simp [x84, VZ, go_sem]
    | 8, _, ho, hnd, hdep =>
      obtain ⟨hd, hop, hgd⟩ := say_of sZ_8 ho
      have x85 : t[85]?.getD undef = _ := hS.at dZ_7 (waits (j := 7) (by kernel_rfl) ho hdep)
      simp only [VZ] at x85
      have ny16 : done 16 = false := not_yet (k := 8) (j := 16) (by kernel_rfl) hcl hnd
      have ny19 : done 19 = false := not_yet (k := 16) (j := 19) (by kernel_rfl) hcl ny16
      have hw0 : w = wr.drew := by rw [hw]; simp [ny16, ny19]
      refine iv_val hB ho hgd hd hS (by simpa [upd] using hw) ?_
      exact exec_load53 (a := ⟨t, []⟩) _ hop ga (oa + k * 71 + 36) (by show t.getD 85 undef = _; rw [Array.getD_eq_getD_getElem?]; exact x85) YN sN (by rw [hw0]; exact lN)
    | 9, _, ho, hnd, hdep =>
      obtain ⟨hd, hop, hgd⟩ := say_of sZ_9 ho
      refine iv_val hB ho hgd hd hS (by simpa [upd] using hw) ?_
      unfold execOp
      simp only [hop]
      simp [e7, VZ, go_sem]
    | 10, _, ho, hnd, hdep =>
      obtain ⟨hd, hop, hgd⟩ := say_of sZ_10 ho
      refine iv_val hB ho hgd hd hS (by simpa [upd] using hw) ?_
      unfold execOp
      simp only [hop]
      simp [e10, VZ, go_sem]
    | 11, _, ho, hnd, hdep =>
      obtain ⟨hd, hop, hgd⟩ := say_of sZ_11 ho
      have x87 : t[87]?.getD undef = _ := hS.at dZ_9 (waits (j := 9) (by kernel_rfl) ho hdep)
      simp only [VZ] at x87
      have x88 : t[88]?.getD undef = _ := hS.at dZ_10 (waits (j := 10) (by kernel_rfl) ho hdep)
      simp only [VZ] at x88
      refine iv_val hB ho hgd hd hS (by simpa [upd] using hw) ?_
      unfold execOp
      simp only [hop]
      simp [x87, x88, VZ, kI, k0, addr_add, go_sem]
    | 12, _, ho, hnd, hdep =>
      obtain ⟨hd, hop, hgd⟩ := say_of sZ_12 ho
      have x89 : t[89]?.getD undef = _ := hS.at dZ_11 (waits (j := 11) (by kernel_rfl) ho hdep)
      simp only [VZ] at x89
      refine iv_val hB ho hgd hd hS (by simpa [upd] using hw) ?_
      unfold execOp
      simp only [hop]
      simp [x89, VZ, go_sem]
    | 13, _, ho, hnd, hdep =>
      obtain ⟨hd, hop, hgd⟩ := say_of sZ_13 ho
      have x90 : t[90]?.getD undef = _ := hS.at dZ_12 (waits (j := 12) (by kernel_rfl) ho hdep)
      simp only [VZ] at x90
      have ny16 : done 16 = false := not_yet (k := 13) (j := 16) (by kernel_rfl) hcl hnd
      have ny19 : done 19 = false := not_yet (k := 16) (j := 19) (by kernel_rfl) hcl ny16
      have hw0 : w = wr.drew := by rw [hw]; simp [ny16, ny19]
      refine iv_val hB ho hgd hd hS (by simpa [upd] using hw) ?_
      exact exec_load53 (a := ⟨t, []⟩) _ hop ga (oa + k * 71 + 1) (by show t.getD 90 undef = _; rw [Array.getD_eq_getD_getElem?]; exact x90) YO sO (by rw [hw0]; exact lO)
    | 14, _, ho, hnd, hdep =>
      obtain ⟨hd, hop, hgd⟩ := say_of sZ_14 ho
      have x78 : t[78]?.getD undef = _ := hS.at dZ_0 (waits (j := 0) (by kernel_rfl) ho hdep)
      simp only [VZ] at x78
      have x79 : t[79]?.getD undef = _ := hS.at dZ_1 (waits (j := 1) (by kernel_rfl) ho hdep)
      simp only [VZ] at x79
      refine iv_val hB ho hgd hd hS (by simpa [upd] using hw) ?_
      unfold execOp
      simp only [hop]
      simp [x78, x79, VZ, kI, k0, addr_add, go_sem]
    | 15, _, ho, hnd, hdep =>
      obtain ⟨hd, hop, hgd⟩ := say_of sZ_15 ho
      have x92 : t[92]?.getD undef = _ := hS.at dZ_14 (waits (j := 14) (by kernel_rfl) ho hdep)
      simp only [VZ] at x92
      refine iv_val hB ho hgd hd hS (by simpa [upd] using hw) ?_
      unfold execOp
      simp only [hop]
      simp [x92, VZ, go_sem]
    | 16, _, ho, hnd, hdep =>
      obtain ⟨hd, hop, hgd⟩ := say_of sZ_16 ho
      have x93 : t[93]?.getD undef = _ := hS.at dZ_15 (waits (j := 15) (by kernel_rfl) ho hdep)
      simp only [VZ] at x93
      have x86 : t[86]?.getD undef = _ := hS.at dZ_8 (waits (j := 8) (by kernel_rfl) ho hdep)
      simp only [VZ] at x86
      have ny19 : done 19 = false := not_yet (k := 16) (j := 19) (by kernel_rfl) hcl hnd
      have hw0 : w = wr.drew := by rw [hw]; simp [hnd, ny19]
      subst hw0
      refine iv_store (w' := wB) ho hgd hd hS (by simp [upd, ny19]) ?_
      rw [← hwB]
      exact exec_storeM (a := ⟨t, []⟩) 53 _ _ hop ga (oa + k * 71 + 1) YN (by show t.getD 93 undef = _; rw [Array.getD_eq_getD_getElem?]; exact x93) (by show t.getD 86 undef = _; rw [Array.getD_eq_getD_getElem?]; exact x86) _ (by rw [sN]; exact tB) (by rw [sN]; exact size53) aN
    | 17, _, ho, hnd, hdep =>
      obtain ⟨hd, hop, hgd⟩ := say_of sZ_17 ho
      have x80 : t[80]?.getD undef = _ := hS.at dZ_2 (waits (j := 2) (by kernel_rfl) ho hdep)
      simp only [VZ] at x80
      have x81 : t[81]?.getD undef = _ := hS.at dZ_3 (waits (j := 3) (by kernel_rfl) ho hdep)
      simp only [VZ] at x81
      refine iv_val hB ho hgd hd hS (by simpa [upd] using hw) ?_
      unfold execOp
      simp only [hop]
      simp [x80, x81, VZ, kI, k0, addr_add, go_sem]
    | 18, _, ho, hnd, hdep =>
      obtain ⟨hd, hop, hgd⟩ := say_of sZ_18 ho
      have x94 : t[94]?.getD undef = _ := hS.at dZ_17 (waits (j := 17) (by kernel_rfl) ho hdep)
      simp only [VZ] at x94
      refine iv_val hB ho hgd hd hS (by simpa [upd] using hw) ?_
      unfold execOp
      simp only [hop]
      simp [x94, VZ, go_sem]
    | 19, _, ho, hnd, hdep =>
      obtain ⟨hd, hop, hgd⟩ := say_of sZ_19 ho
      have x95 : t[95]?.getD undef = _ := hS.at dZ_18 (waits (j := 18) (by kernel_rfl) ho hdep)
      simp only [VZ] at x95
      have x91 : t[91]?.getD undef = _ := hS.at dZ_13 (waits (j := 13) (by kernel_rfl) ho hdep)
      simp only [VZ] at x91
      have yes : done 16 = true := waits (j := 16) (by kernel_rfl) ho hdep
      have hw0 : w = wB := by rw [hw]; simp [hnd, yes]
      subst hw0
      refine iv_store (w' := wC) ho hgd hd hS (by simp [upd]) ?_
      rw [← hwC]
      exact exec_storeM (a := ⟨t, []⟩) 53 _ _ hop ga (oa + k * 71 + 36) YO (by show t.getD 95 undef = _; rw [Array.getD_eq_getD_getElem?]; exact x95) (by show t.getD 91 undef = _; rw [Array.getD_eq_getD_getElem?]; exact x91) _ (by rw [sO]; exact tC) (by rw [sO]; exact size53) aO
theorem foldZ (ga oa n cp k : Nat) (YO YN : Array Value) (t0 : Array Value) : fold (opsAt Tryz.f3 15) (VZ ga oa n cp k YO YN) t0 20 = ((((((((((((((((((t0.setIfInBounds 78 (.slice (some ⟨ga, oa, none⟩) n cp)).setIfInBounds 79 (.int .i64 (k : Int))).setIfInBounds 80 (.slice (some ⟨ga, oa, none⟩) n cp)).setIfInBounds 81 (.int .i64 (k : Int))).setIfInBounds 82 (.slice (some ⟨ga, oa, none⟩) n cp)).setIfInBounds 83 (.int .i64 (k : Int))).setIfInBounds 84 (.pointer (some ⟨ga, oa + k * 71, none⟩))).setIfInBounds 85 (.pointer (some ⟨ga, oa + k * 71 + 36, none⟩))).setIfInBounds 86 (.agg YN)).setIfInBounds 87 (.slice (some ⟨ga, oa, none⟩) n cp)).setIfInBounds 88 (.int .i64 (k : Int))).setIfInBounds 89 (.pointer (some ⟨ga, oa + k * 71, none⟩))).setIfInBounds 90 (.pointer (some ⟨ga, oa + k * 71 + 1, none⟩))).setIfInBounds 91 (.agg YO)).setIfInBounds 92 (.pointer (some ⟨ga, oa + k * 71, none⟩))).setIfInBounds 93 (.pointer (some ⟨ga, oa + k * 71 + 1, none⟩))).setIfInBounds 94 (.pointer (some ⟨ga, oa + k * 71, none⟩))).setIfInBounds 95 (.pointer (some ⟨ga, oa + k * 71 + 36, none⟩))) := by kernel_rfl

theorem set_in {w : World} {lo F M c k j : Nat} {L : List Cd} {x x' : Cd} {vs : List Value} (h : OwnsR w lo (.slice (some ⟨F, 0, none⟩) M c) L) (hM : L.length = M) (hx : L[k]? = some x) (hj : j + vs.length ≤ 71) (e : (cc x').toList = over (cc x).toList j vs) :
    OwnsR (w.setCells F (k * 71 + j) vs) lo (.slice (some ⟨F, 0, none⟩) M c) (L.set k x') ∧ w.grownBy (w.setCells F (k * 71 + j) vs) (some F) := by
  have hk := (List.getElem?_eq_some_iff.1 hx).1
  have h' : w.ownsRow lo 55 71 (.slice (some ⟨F, 0, none⟩) M c) M (rcs L) := by unfold OwnsR at h; rwa [hM] at h
  obtain ⟨h1, h2⟩ := owns_setCells vs (k * 71 + j) w (rcs L) h' (by rw [rcs_len]; omega)
  rw [flat_over_at hx hj e] at h1
  refine ⟨?_, h2⟩
  unfold OwnsR
  rw [List.length_set, hM]
  exact h1
theorem marks_of {w : World} {lo F n c : Nat} {X : List Cd} (h : OwnsR w lo (.slice (some ⟨F, 0, none⟩) (n + 40) c) (X ++ mksC 40)) (hn : X.length = n) : ∀ j, j < 40 → Lies w F ((n + j) * 71) (cc (mkC j)) := fun j hj => by
  have hm : (X ++ mksC 40)[n + j]? = some (mkC j) := by
    rw [List.getElem?_append_right (by omega), hn, Nat.add_sub_cancel_left]
    simp [mksC, hj]
  obtain ⟨g, o, e, hl⟩ := h.has.at hm
  cases e
  rw [Nat.zero_add] at hl
  exact hl
theorem x_of {w : World} {lo F n c cp : Nat} {X : List Cd} (h : OwnsR w lo (.slice (some ⟨F, 0, none⟩) (n + 40) c) (X ++ mksC 40)) (hn : X.length = n) (hc : n ≤ cp) : HasA w (.slice (some ⟨F, 0, none⟩) n cp) X := by
  refine .inr ⟨F, 0, cp, by rw [hn], by omega, fun i x hi => ?_⟩
  obtain ⟨g, o, e, hl⟩ := h.has.at (i := i) (x := x) (by rw [List.getElem?_append_left (List.getElem?_eq_some_iff.1 hi).1]; exact hi)
  cases e
  exact hl
/-- the law's state: two laid lists, the Room, the Book -/
structure St (w wr : World) (R K F1 c1 F2 c2 n m nb : Nat) (B2 : Nat → Prop) (X Y : List Cd) : Prop where
  bel : Below w.heap.size w wr
  room : RoomOk wr w.heap.size R [⟨F1, n, c1⟩, ⟨F2, m, c2⟩] B2
  book : ∃ Bk, BookOk wr w.heap.size K nb Bk ∧ ∀ b, Bk b → ¬ B2 b ∧ b ≠ F1 ∧ b ≠ F2
  o1 : OwnsR wr w.heap.size (.slice (some ⟨F1, 0, none⟩) (n + 40) c1) (X ++ mksC 40)
  o2 : OwnsR wr w.heap.size (.slice (some ⟨F2, 0, none⟩) (m + 40) c2) (Y ++ mksC 40)
  lx : X.length = n
  ly : Y.length = m
  f1 : ¬ B2 F1
  f2 : ¬ B2 F2
  f12 : F1 ≠ F2
theorem St.wr {w wr w' : World} {R K F1 c1 F2 c2 n m nb : Nat} {B2 : Nat → Prop} {X Y X' Y' : List Cd} (h : St w wr R K F1 c1 F2 c2 n m nb B2 X Y) (hs : wr.heap.size ≤ w'.heap.size) (ho : w'.os = wr.os) (ht : w'.tape = wr.tape) (hu : w'.output = wr.output)
    (hb : ∀ b, b < wr.heap.size → b ≠ F1 → b ≠ F2 → w'.heap[b]? = wr.heap[b]?) (o1 : OwnsR w' w.heap.size (.slice (some ⟨F1, 0, none⟩) (n + 40) c1) (X' ++ mksC 40)) (o2 : OwnsR w' w.heap.size (.slice (some ⟨F2, 0, none⟩) (m + 40) c2) (Y' ++ mksC 40)) (lx : X'.length = n) (ly : Y'.length = m) :
    St w w' R K F1 c1 F2 c2 n m nb B2 X' Y' := by
  have g1 := (World.ownsRow.lt h.o1 F1 rfl).1
  have g2 := (World.ownsRow.lt h.o2 F2 rfl).1
  obtain ⟨Bk, hB, hd⟩ := h.book
  refine ⟨⟨ho.trans h.bel.os, ht.trans h.bel.tape, hu.trans h.bel.output, Nat.le_trans h.bel.size hs, fun b hb' => (hb b (by have := h.bel.size; omega) (by omega) (by omega)).trans (h.bel.block b hb')⟩,
    h.room.keep (fun b hB => hb b (h.room.lt b hB) (fun e => h.f1 (e ▸ hB)) (fun e => h.f2 (e ▸ hB))) (fun e he j hj => ?_), ⟨Bk, hB.keep hs (fun b hb' => hb b (hB.lt b hb') (hd b hb').2.1 (hd b hb').2.2) ho ht hu, hd⟩, o1, o2, lx, ly, h.f1, h.f2, h.f12⟩
  simp only [List.mem_cons, List.not_mem_nil, or_false] at he
  rcases he with rfl | rfl
  · exact marks_of o1 lx j hj
  · exact marks_of o2 ly j hj
theorem St.up {w wr w' : World} {R K F1 c1 F2 c2 n m nb : Nat} {B2 : Nat → Prop} {X Y : List Cd} (h : St w wr R K F1 c1 F2 c2 n m nb B2 X Y) (hb : Below wr.heap.size wr w') : St w w' R K F1 c1 F2 c2 n m nb B2 X Y :=
  h.wr hb.size hb.os hb.tape hb.output (fun b h _ _ => hb.block b h) (h.o1.up hb) (h.o2.up hb) h.lx h.ly
theorem St.lists {w wr : World} {R K F1 c1 F2 c2 n m nb : Nat} {B2 : Nat → Prop} {X Y : List Cd} (h : St w wr R K F1 c1 F2 c2 n m nb B2 X Y) (po qo : Option Addr) (cp cq mark : Nat) (hp : HasA wr (.slice po n cp) X) (hq : HasA wr (.slice qo m cq) Y)
    (hn : n ≤ 10000) (hm : m ≤ 10000) (hpa : ∀ c ∈ X, c.path.size ≤ 1048576) (hpb : ∀ c ∈ Y, c.path.size ≤ 1048576) (hnb : nb ≤ 1000) (htb : Tb w.heap.size w) (hk : mark ≤ 100000) :
    Calls Tryz.prog 6 #[.pointer (some ⟨K, 0, none⟩), .slice (some ⟨F1, 0, none⟩) n (n + 40), .slice (some ⟨F2, 0, none⟩) m (m + 40), .slice po n cp, .slice qo m cq, .int .i64 (mark : Int)] wr fun e w' => e = .returned (.bool true) ∧ St w w' R K F1 c1 F2 c2 n m (nb + 2) B2 X Y := by
  obtain ⟨Bk, hB, hd⟩ := h.book
  have hx := x_of (cp := n + 40) h.o1 h.lx (by omega)
  have hy := x_of (cp := m + 40) h.o2 h.ly (by omega)
  have lx := h.lx
  have ly := h.ly
  subst lx ly
  refine (lists_any w.heap.size K nb Bk _ _ po qo _ _ cp cq X Y mark wr hx hy hp hq hn hm hpa hpb hB hnb h.bel.size (htb.on h.bel) hk).mono ?_
  rintro e w' ⟨rfl, B', hB', bl, kp⟩
  refine ⟨rfl, ?_⟩
  have l1 := (World.ownsRow.lt h.o1 F1 rfl).2
  have l2 := (World.ownsRow.lt h.o2 F2 rfl).2
  have k1 := kp F1 l1 (fun e => (hd F1 e).2.1 rfl)
  have k2 := kp F2 l2 (fun e => (hd F2 e).2.2 rfl)
  have o1 : OwnsR w' w.heap.size (.slice (some ⟨F1, 0, none⟩) (X.length + 40) c1) (X ++ mksC 40) := rowB h.o1 fun b hb => by cases hb; exact k1.1
  have o2 : OwnsR w' w.heap.size (.slice (some ⟨F2, 0, none⟩) (Y.length + 40) c2) (Y ++ mksC 40) := rowB h.o2 fun b hb => by cases hb; exact k2.1
  refine ⟨h.bel.trans bl, h.room.keep (fun b hb => (kp b (h.room.lt b hb) (fun e => (hd b e).1 hb)).1) (fun e he j hj => ?_), ⟨B', hB', fun b hb => ⟨fun e => (kp b (h.room.lt b e) (fun e2 => (hd b e2).1 e)).2 hb, fun e => k1.2 (e ▸ hb), fun e => k2.2 (e ▸ hb)⟩⟩, o1, o2, rfl, rfl, h.f1, h.f2, h.f12⟩
  simp only [List.mem_cons, List.not_mem_nil, or_false] at he
  rcases he with rfl | rfl
  · exact marks_of o1 rfl j hj
  · exact marks_of o2 rfl j hj
theorem St.hold9 {w wr : World} {R K F1 c1 F2 c2 n m nb : Nat} {B2 : Nat → Prop} {X Y : List Cd} (h : St w wr R K F1 c1 F2 c2 n m nb B2 X Y) (hnb : nb ≤ 1000) : Calls Tryz.prog 9 #[.pointer (some ⟨K, 0, none⟩)] wr fun e w' => e = .returned (.bool true) ∧ Below wr.heap.size wr w' := by
  obtain ⟨Bk, hB, _⟩ := h.book
  exact bookHoldOk wr _ K nb Bk hB (by omega)
theorem St.hold8 {w wr : World} {R K F1 c1 F2 c2 n m nb : Nat} {B2 : Nat → Prop} {X Y : List Cd} (h : St w wr R K F1 c1 F2 c2 n m nb B2 X Y) (hn : n ≤ 10000) (hm : m ≤ 10000) : Calls Tryz.prog 8 #[.pointer (some ⟨R, 0, none⟩)] wr fun e w' => e = .returned (.bool true) ∧ Below wr.heap.size wr w' :=
  roomHold_any _ R _ B2 wr h.room (by simp) (fun e he => by
    simp only [List.mem_cons, List.not_mem_nil, or_false] at he
    rcases he with rfl | rfl
    · exact hn
    · exact hm)
/-- cells of one change of the first list are written over -/
theorem St.set1 {w wr : World} {R K F1 c1 F2 c2 n m nb : Nat} {B2 : Nat → Prop} {X Y : List Cd} (h : St w wr R K F1 c1 F2 c2 n m nb B2 X Y) {k j : Nat} {x x' : Cd} {vs : List Value} (hx : X[k]? = some x) (hj : j + vs.length ≤ 71) (e : (cc x').toList = over (cc x).toList j vs) :
    St w (wr.setCells F1 (k * 71 + j) vs) R K F1 c1 F2 c2 n m nb B2 (X.set k x') Y := by
  have hk := (List.getElem?_eq_some_iff.1 hx).1
  obtain ⟨h1, h2⟩ := set_in (k := k) h.o1 (by rw [List.length_append, mksC_len, h.lx]) (by rw [List.getElem?_append_left hk]; exact hx) hj e
  rw [List.set_append_left _ _ hk] at h1
  refine h.wr h2.size h2.os h2.tape h2.output (fun b hb n1 _ => h2.block b hb (fun e => n1 (by cases e; rfl))) h1 (rowB h.o2 fun b hb => ?_) (by rw [List.length_set, h.lx]) h.ly
  cases hb
  exact h2.block F2 (World.ownsRow.lt h.o2 F2 rfl).2 (fun e => h.f12 (by cases e; rfl))
/-- of the second -/
theorem St.set2 {w wr : World} {R K F1 c1 F2 c2 n m nb : Nat} {B2 : Nat → Prop} {X Y : List Cd} (h : St w wr R K F1 c1 F2 c2 n m nb B2 X Y) {k j : Nat} {x x' : Cd} {vs : List Value} (hx : Y[k]? = some x) (hj : j + vs.length ≤ 71) (e : (cc x').toList = over (cc x).toList j vs) :
    St w (wr.setCells F2 (k * 71 + j) vs) R K F1 c1 F2 c2 n m nb B2 X (Y.set k x') := by
  have hk := (List.getElem?_eq_some_iff.1 hx).1
  obtain ⟨h1, h2⟩ := set_in (k := k) h.o2 (by rw [List.length_append, mksC_len, h.ly]) (by rw [List.getElem?_append_left hk]; exact hx) hj e
  rw [List.set_append_left _ _ hk] at h1
  refine h.wr h2.size h2.os h2.tape h2.output (fun b hb _ n2 => h2.block b hb (fun e => n2 (by cases e; rfl))) (rowB h.o1 fun b hb => ?_) h1 h.lx (by rw [List.length_set, h.ly])
  cases hb
  exact h2.block F1 (World.ownsRow.lt h.o1 F1 rfl).2 (fun e => h.f12 (by cases e; rfl))
theorem St.there1 {w wr : World} {R K F1 c1 F2 c2 n m nb : Nat} {B2 : Nat → Prop} {X Y : List Cd} (h : St w wr R K F1 c1 F2 c2 n m nb B2 X Y) {k j l : Nat} (hk : k < n) (hj : j + l ≤ 71) : wr.there F1 (k * 71 + j) l := by
  have hl : (X ++ mksC 40).length = n + 40 := by rw [List.length_append, mksC_len, h.lx]
  have h' : wr.ownsRow w.heap.size 55 71 (.slice (some ⟨F1, 0, none⟩) (n + 40) c1) (n + 40) (rcs (X ++ mksC 40)) := by have := h.o1; unfold OwnsR at this; rwa [hl] at this
  exact owns_there h' _ _ (by rw [rcs_len, hl]; omega)
theorem St.there2 {w wr : World} {R K F1 c1 F2 c2 n m nb : Nat} {B2 : Nat → Prop} {X Y : List Cd} (h : St w wr R K F1 c1 F2 c2 n m nb B2 X Y) {k j l : Nat} (hk : k < m) (hj : j + l ≤ 71) : wr.there F2 (k * 71 + j) l := by
  have hl : (Y ++ mksC 40).length = m + 40 := by rw [List.length_append, mksC_len, h.ly]
  have h' : wr.ownsRow w.heap.size 55 71 (.slice (some ⟨F2, 0, none⟩) (m + 40) c2) (m + 40) (rcs (Y ++ mksC 40)) := by have := h.o2; unfold OwnsR at this; rwa [hl] at this
  exact owns_there h' _ _ (by rw [rcs_len, hl]; omega)
end Go.Proofs.YthioflehpifflaaGreatDoor
namespace Go.Proofs.YthioflehpifflaaGreatDoor
open Go.RowKit Bk

theorem bookObj_cells : bookObj = .cells bookCells 46 := bookObj_eq
set_option maxHeartbeats 1000000 in
/-- the state when both lists are laid -/
theorem St.start {w w4 w5 w6 : World} {R K F1 c1 F2 c2 : Nat} {B1 B2 : Nat → Prop} {A C : List Cd} (b4 : Below w.heap.size w w4) (hK : K < w4.heap.size) (hRK : K ≠ R) (hwK : w.heap.size ≤ K)
    (bk : BookOk w4 w.heap.size K 0 (fun b => b = K))
    (g5 : w4.heap.size ≤ F1) (n5 : ¬ B1 F1) (o5 : OwnsR w5 w4.heap.size (.slice (some ⟨F1, 0, none⟩) (A.length + 40) c1) (A ++ mksC 40)) (k5 : ∀ b, b < w4.heap.size → ¬ b = R → w5.heap[b]? = w4.heap[b]? ∧ ¬ B1 b) (b5 : Below w.heap.size w4 w5)
    (r6 : RoomOk w6 w.heap.size R ([⟨F1, A.length, c1⟩] ++ [⟨F2, C.length, c2⟩]) B2) (g6 : w5.heap.size ≤ F2) (n6 : ¬ B2 F2) (o6 : OwnsR w6 w5.heap.size (.slice (some ⟨F2, 0, none⟩) (C.length + 40) c2) (C ++ mksC 40)) (k6 : ∀ b, b < w5.heap.size → ¬ B1 b → w6.heap[b]? = w5.heap[b]? ∧ ¬ B2 b) (b6 : Below w.heap.size w5 w6) :
    St w w6 R K F1 c1 F2 c2 A.length C.length 0 B2 A C := by
  have s4 := b4.size
  have s5 := b5.size
  have s6 := b6.size
  obtain ⟨q1, q2⟩ := k5 K hK hRK
  obtain ⟨q3, q4⟩ := k6 K (by omega) q2
  have l1 := (World.ownsRow.lt o5 F1 rfl).2
  obtain ⟨q5, q6⟩ := k6 F1 l1 n5
  refine ⟨(b4.trans b5).trans b6, r6, ⟨_, bk.keep (by omega) (fun b hb => by subst hb; exact q3.trans q1) (b6.os.trans b5.os) (b6.tape.trans b5.tape) (b6.output.trans b5.output), fun b hb => by subst hb; exact ⟨q4, by omega, by omega⟩⟩, row_low (rowB o5 fun b hb => by cases hb; exact q5) (by omega), row_low o6 (by omega), rfl, rfl, q6, n6, by omega⟩

set_option maxHeartbeats 16000000 in
set_option maxRecDepth 100000 in
theorem lists_walk (ao bo : Option Addr) (cp cq : Nat) (A C : List Cd) (w : World) (ha : HasA w (.slice ao A.length cp) A) (hb : HasA w (.slice bo C.length cq) C) (hla : A.length ≤ 9223372036854775807) (hlb : C.length ≤ 9223372036854775807) (hpa : ∀ c ∈ A, c.path.size ≤ 9223372036854775807) (hpb : ∀ c ∈ C, c.path.size ≤ 9223372036854775807) (htb : Tb w.heap.size w) :
    Calls Tryz.prog 3 #[.slice ao A.length cp, .slice bo C.length cq] w fun e w' => e = .returned (.bool true) ∧ Below w.heap.size w w' := by
  have HA := hid ha
  have HC := hid hb
  have HT := hid htb
  have C4a := hid (few_any ao cp A w ha hla hpa)
  have C4b : Hid (∀ w1, Below w.heap.size w w1 → Calls Tryz.prog 4 #[.slice bo C.length cq] w1 fun e w' => ∃ b, e = .returned (.bool b) ∧ (b = true → parts C ≤ 6000) ∧ Below w1.heap.size w1 w') := fun w1 b1 => few_any bo cq C w1 (HC.out.below b1) hlb hpb
  obtain ⟨n, hn'⟩ : ∃ n, A.length = n := ⟨_, rfl⟩
  obtain ⟨m, hm'⟩ : ∃ m, C.length = m := ⟨_, rfl⟩
  have HN := hid hn'
  have HM := hid hm'
  rw [hn'] at HA C4a ⊢
  rw [hm'] at HC C4b ⊢
  clear ha hb htb hla hlb hpa hpb hn' hm'
  go_enter Tryz.func3, Tryz.ntmps3
  go_upto_region 3 with (first
    | (go_at_call 4; refine (C4b.out _ H1.out.2).mono ?_; rintro e w2 ⟨b, rfl, hp2, hg2⟩; have H2 := hid (And.intro hp2 (Below.up H1.out.2 hg2)); clear hp2 hg2; cases b)
    | (go_at_call 4; refine C4a.out.mono ?_; rintro e w1 ⟨b, rfl, hp1, hg1⟩; have H1 := hid (And.intro hp1 hg1); clear hp1 hg1; cases b))
  · go_ret
    exact ⟨rfl, H1.out.2⟩
  · go_ret
    exact ⟨rfl, H2.out.2⟩
  have pA : parts A ≤ 6000 := H1.out.1 (by first | rfl | trivial)
  have pC : parts C ≤ 6000 := H2.out.1 (by first | rfl | trivial)
  have HPA : Hid (∀ c ∈ A, c.path.size ≤ 6000) := fun c hc => Nat.le_trans (parts_mem A c hc) pA
  have HPC : Hid (∀ c ∈ C, c.path.size ≤ 6000) := fun c hc => Nat.le_trans (parts_mem C c hc) pC
  have hn : n ≤ 6000 := by have := parts_len A; have := HN.out; omega
  have hm : m ≤ 6000 := by have := parts_len C; have := HM.out; omega
  obtain ⟨R, hR⟩ : ∃ R, w2.heap.size = R := ⟨_, rfl⟩
  obtain ⟨w3, hw3⟩ : ∃ w3, w2.alloc (.cells roomCells 40) = w3 := ⟨_, rfl⟩
  have s3 : w3.heap.size = R + 1 := by rw [← hw3, World.size_alloc, hR]
  obtain ⟨w4, hw4⟩ : ∃ w4, w3.alloc (.cells bookCells 46) = w4 := ⟨_, rfl⟩
  have s4 : w4.heap.size = R + 1 + 1 := by rw [← hw4, World.size_alloc, s3]
  have g2 := H2.out.2
  have g3 : Below w2.heap.size w2 w3 := by rw [← hw3]; exact (Below.refl _ w2).alloc (Nat.le_refl _) _
  have g4 : Below w3.heap.size w3 w4 := by rw [← hw4]; exact (Below.refl _ w3).alloc (Nat.le_refl _) _
  have gw : Below w.heap.size w w4 := Below.up (Below.up g2 g3) g4
  have hS : w.heap.size ≤ R := by have := g2.size; omega
  have rm4 : RoomOk w4 w.heap.size R [] (fun b => b = R) := by
    have := room_new w2 w.heap.size
    rw [hR, hw3] at this
    exact this.below g4
  have bk4 : BookOk w4 w.heap.size (R + 1) 0 (fun b => b = R + 1) := by
    have := book_new w3 w.heap.size (by omega)
    rw [bookObj_cells, s3, hw4] at this
    exact this
  have C5a : Hid (Calls Tryz.prog 5 #[.pointer (some ⟨R, 0, none⟩), .slice ao n cp] w4 fun e w' => ∃ F c B', e = .returned (.slice (some ⟨F, 0, none⟩) n (n + 40)) ∧ RoomOk w' w.heap.size R ([] ++ [⟨F, n, c⟩]) B' ∧ w4.heap.size ≤ F ∧ ¬ B' F ∧ OwnsR w' w4.heap.size (.slice (some ⟨F, 0, none⟩) (n + 40) c) (A ++ mksC 40) ∧ (∀ b, b < w4.heap.size → ¬ b = R → w'.heap[b]? = w4.heap[b]? ∧ ¬ B' b) ∧ Below w.heap.size w4 w') := by
    have := lay5_any w.heap.size R [] (fun b => b = R) ao cp A w4 (by rw [HN.out]; exact HA.out.below gw) (by rw [HN.out]; omega) (by simp) rm4 gw.size hS
    rw [HN.out] at this
    exact this
  have C5b : Hid (∀ w5 F c B1, RoomOk w5 w.heap.size R [⟨F, n, c⟩] B1 → Below w.heap.size w4 w5 → Calls Tryz.prog 5 #[.pointer (some ⟨R, 0, none⟩), .slice bo m cq] w5 fun e w' => ∃ F2 c2 B', e = .returned (.slice (some ⟨F2, 0, none⟩) m (m + 40)) ∧ RoomOk w' w.heap.size R ([⟨F, n, c⟩] ++ [⟨F2, m, c2⟩]) B' ∧ w5.heap.size ≤ F2 ∧ ¬ B' F2 ∧ OwnsR w' w5.heap.size (.slice (some ⟨F2, 0, none⟩) (m + 40) c2) (C ++ mksC 40) ∧ (∀ b, b < w5.heap.size → ¬ B1 b → w'.heap[b]? = w5.heap[b]? ∧ ¬ B' b) ∧ Below w.heap.size w5 w') := fun w5 F c B1 hr hb5 => by
    have gw5 : Below w.heap.size w w5 := gw.trans hb5
    have := lay5_any w.heap.size R [⟨F, n, c⟩] B1 bo cq C w5 (by rw [HM.out]; exact HC.out.below gw5) (by rw [HM.out]; omega) (by simp) hr gw5.size hS
    rw [HM.out] at this
    exact this
  have H4 := hid (And.intro gw (And.intro bk4 (And.intro s4 hS)))
  clear C4a C4b H1 H2 g2 g3 g4 gw rm4 bk4 pA pC
  go_upto_region 5 with (first
    | (refine wpList_new 40 roomCells built40 rfl rfl rfl _ rfl rfl ?_)
    | (refine wpList_new 46 bookCells built41 rfl rfl rfl _ rfl rfl ?_))
  go_upto_region 6 with (first
    | (go_at_call 5; refine (C5b.out _ _ _ _ H5.out.1 H5.out.2.2.2.2.2).mono ?_; rintro e w6 ⟨F2, c2, B2, rfl, h6⟩; have H6 := hid h6; clear h6)
    | (go_at_call 5; refine C5a.out.mono ?_; rintro e w5 ⟨F1, c1, B1, rfl, h5⟩; have H5 := hid h5; clear h5))
  obtain ⟨K, hK⟩ : ∃ K, R + 1 = K := ⟨_, rfl⟩
  have ST : Hid (St w w6 R K F1 c1 F2 c2 n m 0 B2 A C) := by
    obtain ⟨gw, bk4, s4, hS⟩ := H4.out
    obtain ⟨r5, g5, n5, o5, k5, b5⟩ := H5.out
    obtain ⟨r6, g6, n6, o6, k6, b6⟩ := H6.out
    have hn0 := HN.out
    have hm0 := HM.out
    subst hn0 hm0 hK
    exact St.start gw (by omega) (by omega) (by omega) bk4 g5 n5 o5 k5 b5 r6 g6 n6 o6 k6 b6
  rw [hK]
  clear H4 H5 H6 C5a C5b hw3 hw4 s3 s4 hR hK
  go_wp2
  go_loopg [9] 3 (fun gh i wr => ∃ k : Nat, k ≤ 3 ∧ gh = 3 - k ∧ i = .int .i64 (k : Int) ∧ Hid (St w wr R K F1 c1 F2 c2 n m (2 * k) B2 A C))
  case atStart => exact ⟨0, by omega, rfl, rfl, ST.out⟩
  case round =>
    clear ST
    obtain ⟨k, hk, rfl, rfl, HS⟩ := hrel
    by_cases hlt : k < 3
    · have kI : (k : Int) < 3 := by omega
      have C6 : Hid (Calls Tryz.prog 6 #[.pointer (some ⟨K, 0, none⟩), .slice (some ⟨F1, 0, none⟩) n (n + 40), .slice (some ⟨F2, 0, none⟩) m (m + 40), .slice ao n cp, .slice bo m cq, .int .i64 (1000 * (k : Int))] wr fun e w' => e = .returned (.bool true) ∧ St w w' R K F1 c1 F2 c2 n m (2 * k + 2) B2 A C) := by
        have := HS.out.lists ao bo cp cq (1000 * k) (HA.out.below HS.out.bel) (HC.out.below HS.out.bel) (by omega) (by omega) (fun c hc => by have := HPA.out c hc; omega) (fun c hc => by have := HPC.out c hc; omega) (by omega) HT.out (by omega)
        rw [show ((1000 * k : Nat) : Int) = 1000 * (k : Int) by omega] at this
        exact this
      have C7a : Hid (∀ w', St w w' R K F1 c1 F2 c2 n m (2 * k + 2) B2 A C → Calls Tryz.prog 7 #[.slice (some ⟨F1, 0, none⟩) n (n + 40), .slice ao n cp] w' fun e w'' => e = .returned (.bool true) ∧ Drew w' w'') := fun w' s =>
        same_v (x_of s.o1 s.lx (by omega)) (HA.out.below s.bel) (by rw [HN.out]; omega)
      have C7b : Hid (∀ w', St w w' R K F1 c1 F2 c2 n m (2 * k + 2) B2 A C → Calls Tryz.prog 7 #[.slice (some ⟨F2, 0, none⟩) m (m + 40), .slice bo m cq] w' fun e w'' => e = .returned (.bool true) ∧ Drew w' w'') := fun w' s =>
        same_v (x_of s.o2 s.ly (by omega)) (HC.out.below s.bel) (by rw [HM.out]; omega)
      have C8 : Hid (∀ w', St w w' R K F1 c1 F2 c2 n m (2 * k + 2) B2 A C → Calls Tryz.prog 8 #[.pointer (some ⟨R, 0, none⟩)] w' fun e w'' => e = .returned (.bool true) ∧ Below w'.heap.size w' w'') := fun w' s => s.hold8 (by omega) (by omega)
      clear HS
      go_wp2_with (first
        | (go_at_call 7; refine (C7b.out _ S8.out).mono ?_; rintro e w9 ⟨rfl, d9⟩; have S9 := hid (S8.out.up d9.below); clear d9)
        | (go_at_call 7; refine (C7a.out _ S7.out).mono ?_; rintro e w8 ⟨rfl, d8⟩; have S8 := hid (S7.out.up d8.below); clear d8)
        | (go_at_call 6; refine C6.out.mono ?_; rintro e w7 ⟨rfl, s7⟩; have S7 := hid s7; clear s7)
        | (go_at_call 8; refine (C8.out _ S9.out).mono ?_; rintro e w10 ⟨rfl, d10⟩; have S10 := hid (S9.out.up d10); clear d10))
      go_roundg (3 - (k + 1))
      case measure => omega
      case rel => exact ⟨k + 1, by omega, rfl, by go_num, S10.out⟩
    · obtain rfl : k = 3 := by omega
      have kI : ¬ ((3 : Nat) : Int) < 3 := by omega
      have SL := hid (HS.out : St w wr R K F1 c1 F2 c2 n m 6 B2 A C)
      clear HS
      go_wp2
      go_loopg [10] n (fun gh i wr => ∃ k : Nat, k ≤ n ∧ gh = n - k ∧ i = .int .i64 (k : Int) ∧ ∃ X, Hid (St w wr R K F1 c1 F2 c2 n m 6 B2 X C ∧ (∀ c ∈ X, c.path.size ≤ 6001) ∧ ∀ i c, k ≤ i → X[i]? = some c → c.path.size ≤ 6000))
      case atStart => exact ⟨0, by omega, rfl, rfl, A, SL.out, fun c hc => by have := HPA.out c hc; omega, fun i c _ hc => HPA.out c (List.mem_of_getElem? hc)⟩
      case round =>
        clear SL
        obtain ⟨k, hk, rfl, rfl, X, HS⟩ := hrel
        by_cases hlt : k < n
        · have i1 : (k : Int) < (n : Int) := by omega
          have i0 : (0 : Int) ≤ (k : Int) := by omega
          obtain ⟨x, hx⟩ : ∃ x, X[k]? = some x := ⟨X[k]'(by rw [HS.out.1.lx]; exact hlt), by simp⟩
          have hp := HS.out.2.2 k x (Nat.le_refl _) hx
          have lx : Lies wr F1 (k * 71) (cc x) := by
            obtain ⟨g, o, e, hl⟩ := (x_of (cp := n + 40) HS.out.1.o1 HS.out.1.lx (by omega)).at hx
            cases e
            rwa [Nat.zero_add] at hl
          have c0 := lx.path
          have u0 : wr.frozen? ⟨F1, k * 71, none⟩ = false := (HS.out.1.there1 (j := 0) (l := 1) hlt (by omega) 0 (by omega)).2
          obtain ⟨p2, hp2⟩ : ∃ p2, x.path ++ ⟨#[122]⟩ = p2 := ⟨_, rfl⟩
          have hz2 : p2.size ≤ 6001 := by rw [← hp2, ByteArray.size_append]; show x.path.size + 1 ≤ 6001; omega
          obtain ⟨w1, hw1⟩ : ∃ w1, wr.setCell ⟨F1, k * 71, none⟩ (.string p2) = w1 := ⟨_, rfl⟩
          have S1 : St w w1 R K F1 c1 F2 c2 n m 6 B2 (X.set k ⟨p2, x.old, x.new⟩) C := by
            have := HS.out.1.set1 (j := 0) (vs := [.string p2]) hx (by simp) (cc_setP x p2)
            rw [← hw1]
            exact this
          have HX := hid hx
          have H1 := hid S1
          clear lx hx S1
          go_upto_region 15 with fail
          have sd : St w w1.drew R K F1 c1 F2 c2 n m 6 B2 (X.set k ⟨p2, x.old, x.new⟩) C := H1.out.up (Below.refl _ w1).drew
          have hx1 : (X.set k ⟨p2, x.old, x.new⟩)[k]? = some ⟨p2, x.old, x.new⟩ := List.getElem?_set_self (List.getElem?_eq_some_iff.1 HX.out).1
          have ld : Lies w1.drew F1 (k * 71) (cc ⟨p2, x.old, x.new⟩) := by
            obtain ⟨g, o, e, hl⟩ := (x_of (cp := n + 40) sd.o1 sd.lx (by omega)).at hx1
            cases e
            rwa [Nat.zero_add] at hl
          obtain ⟨wB, hwB⟩ : ∃ wB, w1.drew.setCells F1 (k * 71 + 1) (vx x.new) = wB := ⟨_, rfl⟩
          have sB : St w wB R K F1 c1 F2 c2 n m 6 B2 (X.set k ⟨p2, x.new, x.new⟩) C := by
            have := sd.set1 (j := 1) (x' := ⟨p2, x.new, x.new⟩) hx1 (by simp [vx_len]) (cc_setO ⟨p2, x.old, x.new⟩ x.new)
            rw [hwB, List.set_set] at this
            exact this
          have hx2 : (X.set k ⟨p2, x.new, x.new⟩)[k]? = some ⟨p2, x.new, x.new⟩ := List.getElem?_set_self (List.getElem?_eq_some_iff.1 HX.out).1
          obtain ⟨wC, hwC⟩ : ∃ wC, wB.setCells F1 (k * 71 + 36) (vx x.old) = wC := ⟨_, rfl⟩
          have sC : St w wC R K F1 c1 F2 c2 n m 6 B2 (X.set k ⟨p2, x.new, x.old⟩) C := by
            have := sB.set1 (j := 36) (x' := ⟨p2, x.new, x.old⟩) hx2 (by simp [vx_len]) (cc_setN ⟨p2, x.new, x.new⟩ x.old)
            rw [hwC, List.set_set] at this
            exact this
          have HE : Hid (St w wC R K F1 c1 F2 c2 n m 6 B2 (X.set k ⟨p2, x.new, x.old⟩) C ∧ (∀ c ∈ X.set k ⟨p2, x.new, x.old⟩, c.path.size ≤ 6001) ∧ ∀ i c, k + 1 ≤ i → (X.set k ⟨p2, x.new, x.old⟩)[i]? = some c → c.path.size ≤ 6000) := by
            refine ⟨sC, fun c hc => ?_, fun i c hi hc => ?_⟩
            · rcases List.mem_or_eq_of_mem_set hc with e | e
              · exact HS.out.2.1 c e
              · rw [e]; exact hz2
            · rw [List.getElem?_set_ne (by omega)] at hc
              exact HS.out.2.2 i c (by omega) hc
          have lO : Lies w1.drew F1 (0 + k * 71 + 1) (vx x.old).toArray := by rw [Nat.zero_add]; exact ld.old
          have lN : Lies w1.drew F1 (0 + k * 71 + 36) (vx x.new).toArray := by rw [Nat.zero_add]; exact ld.new
          have tB := sd.there1 (j := 1) (l := 35) hlt (by omega)
          have tC := sB.there1 (j := 36) (l := 35) hlt (by omega)
          refine regZ F1 0 n (n + 40) k (vx x.old).toArray (vx x.new).toArray wB wC _ w1 rfl rfl rfl hlt lO lN (by simp [vx_len]) (by simp [vx_len]) (vx_oneA _) (vx_oneA _) (by rw [Nat.zero_add]; exact tB) (by rw [Nat.zero_add]; exact hwB) (by rw [Nat.zero_add]; exact tC) (by rw [Nat.zero_add]; exact hwC) ?_
          rw [foldZ]
          obtain ⟨YO, hYO⟩ : ∃ Y, (vx x.old).toArray = Y := ⟨_, rfl⟩
          obtain ⟨YN, hYN⟩ : ∃ Y, (vx x.new).toArray = Y := ⟨_, rfl⟩
          rw [hYO, hYN]
          clear hYO hYN sd hx1 ld hwB sB hx2 hwC sC lO lN tB tC H1 HX HS c0 u0 hw1 hp2
          go_simp
          go_wp2
          go_roundg (n - (k + 1))
          case measure => omega
          case rel => exact ⟨k + 1, by omega, rfl, by go_num, _, HE.out⟩
        · obtain rfl : k = n := by omega
          have i1 : ¬ ((k : Int) < (k : Int)) := by omega
          have SL : Hid (St w wr R K F1 c1 F2 c2 k m 6 B2 X C ∧ ∀ c ∈ X, c.path.size ≤ 6001) := ⟨HS.out.1, HS.out.2.1⟩
          clear HS
          go_wp2
          go_loopg [11] m (fun gh i wr => ∃ j : Nat, j ≤ m ∧ gh = m - j ∧ i = .int .i64 (j : Int) ∧ ∃ Y, Hid (St w wr R K F1 c1 F2 c2 k m 6 B2 X Y ∧ ∀ c ∈ Y, c.path.size ≤ 6000))
          case atStart => exact ⟨0, by omega, rfl, rfl, C, SL.out.1, HPC.out⟩
          case round =>
            obtain ⟨j, hj, rfl, rfl, Y, HS⟩ := hrel
            by_cases hlt2 : j < m
            · have j1 : (j : Int) < (m : Int) := by omega
              have j0 : (0 : Int) ≤ (j : Int) := by omega
              obtain ⟨y, hy⟩ : ∃ y, Y[j]? = some y := ⟨Y[j]'(by rw [HS.out.1.ly]; exact hlt2), by simp⟩
              have hp := HS.out.2 y (List.mem_of_getElem? hy)
              have ly : Lies wr F2 (j * 71) (cc y) := by
                obtain ⟨g, o, e, hl⟩ := (x_of (cp := m + 40) HS.out.1.o2 HS.out.1.ly (by omega)).at hy
                cases e
                rwa [Nat.zero_add] at hl
              have c0 : wr.cell? ⟨F2, j * 71 + 37, none⟩ = some (.int .i64 y.new.mode) := ly.new 1 _ rfl
              have u0 : wr.frozen? ⟨F2, j * 71 + 37, none⟩ = false := (HS.out.1.there2 (j := 37) (l := 1) hlt2 (by omega) 0 (by omega)).2
              obtain ⟨mm, hmm⟩ : ∃ mm, IntKind.i64.wrap (y.new.mode + 1) = mm := ⟨_, rfl⟩
              obtain ⟨w1, hw1⟩ : ∃ w1, wr.setCell ⟨F2, j * 71 + 37, none⟩ (.int .i64 mm) = w1 := ⟨_, rfl⟩
              have HE : Hid (St w w1 R K F1 c1 F2 c2 k m 6 B2 X (Y.set j ⟨y.path, y.old, ⟨y.new.kind, mm, y.new.size, y.new.sum, y.new.len⟩⟩) ∧ ∀ c ∈ Y.set j ⟨y.path, y.old, ⟨y.new.kind, mm, y.new.size, y.new.sum, y.new.len⟩⟩, c.path.size ≤ 6000) := by
                refine ⟨?_, fun c hc => ?_⟩
                · have := HS.out.1.set2 (j := 37) (vs := [.int .i64 mm]) hy (by simp) (cc_setM y mm)
                  rw [← hw1]
                  exact this
                · rcases List.mem_or_eq_of_mem_set hc with e | e
                  · exact HS.out.2 c e
                  · rw [e]; exact hp
              clear ly hy HS SL
              go_wp2
              go_roundg (m - (j + 1))
              case measure => omega
              case rel => exact ⟨j + 1, by omega, rfl, by go_num, _, HE.out⟩
            · obtain rfl : j = m := by omega
              have j1 : ¬ ((j : Int) < (j : Int)) := by omega
              go_upto_region 20 with fail
              obtain ⟨B0, hB0⟩ : ∃ B0, wr.heap.size = B0 := ⟨_, rfl⟩
              obtain ⟨w1, hw1⟩ : ∃ w1, wr.alloc (.cells #[] 55) = w1 := ⟨_, rfl⟩
              have g1 : Below wr.heap.size wr w1 := by rw [← hw1]; exact (Below.refl _ wr).alloc (Nat.le_refl _) _
              have t1 := HS.out.1.up g1
              have o1 : OwnsR w1 B0 (.slice (some ⟨B0, 0, none⟩) 0 0) [] := by rw [← hw1, ← hB0]; exact owns_lit0 wr
              obtain ⟨v2, w2, hr2, o2, gr2, _, _⟩ := app_run 22 o1 (x_of (cp := k + 40) t1.o1 t1.lx (by omega)) (by have := g1.size; omega) (by simp; rw [t1.lx]; omega)
              rw [List.nil_append] at o2
              have g2 : Below wr.heap.size wr w2 := by
                refine ⟨gr2.os.trans g1.os, gr2.tape.trans g1.tape, gr2.output.trans g1.output, Nat.le_trans g1.size gr2.size, fun k hk => (gr2.block k (Nat.lt_of_lt_of_le hk g1.size) (fun e => ?_)).trans (g1.block k hk)⟩
                simp [Value.ownBlock] at e
                omega
              obtain ⟨B1, hB1⟩ : ∃ B1, w2.heap.size = B1 := ⟨_, rfl⟩
              obtain ⟨w3, hw3⟩ : ∃ w3, w2.alloc (.cells #[] 55) = w3 := ⟨_, rfl⟩
              have g3 : Below w2.heap.size w2 w3 := by rw [← hw3]; exact (Below.refl _ w2).alloc (Nat.le_refl _) _
              have t3 := (HS.out.1.up g2).up g3
              have o3 : OwnsR w3 B1 (.slice (some ⟨B1, 0, none⟩) 0 0) [] := by rw [← hw3, ← hB1]; exact owns_lit0 w2
              obtain ⟨v4, w4, hr4, o4, gr4, _, _⟩ := app_run 22 o3 (x_of (cp := j + 40) t3.o2 t3.ly (by omega)) (by have := g3.size; omega) (by simp; rw [t3.ly]; omega)
              rw [List.nil_append] at o4
              have g4 : Below w2.heap.size w2 w4 := by
                refine ⟨gr4.os.trans g3.os, gr4.tape.trans g3.tape, gr4.output.trans g3.output, Nat.le_trans g3.size gr4.size, fun k hk => (gr4.block k (Nat.lt_of_lt_of_le hk g3.size) (fun e => ?_)).trans (g3.block k hk)⟩
                simp [Value.ownBlock] at e
                omega
              have t4 := (HS.out.1.up g2).up g4
              obtain ⟨pc, qc, ec⟩ := o2.form
              obtain ⟨pd, qd, ed⟩ := o4.form
              rw [t4.lx] at ec
              rw [t4.ly] at ed
              subst ec ed
              have HR2 := hid hr2
              have HR4 := hid hr4
              have C6 := hid (t4.lists pc pd qc qd 5000 ((o2.up g4).has) o4.has (by omega) (by omega) (fun c hc => by have := SL.out.2 c hc; omega) (fun c hc => by have := HS.out.2 c hc; omega) (by omega) HT.out (by omega))
              clear g1 t1 o1 hr2 o2 gr2 g2 g3 t3 o3 hr4 o4 gr4 g4 t4 HS SL
              go_upto_region 21 with (first
                | ((with_reducible refine wpList_execW (.slice pd j qd) w4 ?_ ?_ ?_); exact exec_app (v := .slice (some ⟨B1, 0, none⟩) 0 0) (src := .slice (some ⟨F2, 0, none⟩) j (j + 40)) rfl rfl rfl HR4.out; kernel_rfl)
                | ((with_reducible refine wpList_execW (.slice pc k qc) w2 ?_ ?_ ?_); exact exec_app (v := .slice (some ⟨B0, 0, none⟩) 0 0) (src := .slice (some ⟨F1, 0, none⟩) k (k + 40)) rfl rfl rfl HR2.out; kernel_rfl))
              clear HR2 HR4 hw1 hw3 hB0 hB1
              go_wp2_with (first
                | (go_at_call 6; refine C6.out.mono ?_; rintro e w7 ⟨rfl, s7⟩; have S7 := hid s7; clear s7)
                | (go_at_call 9; refine (S7.out.hold9 (by omega)).mono ?_; rintro e w8 ⟨rfl, d8⟩; have S8 := hid (S7.out.up d8); clear d8)
                | (go_at_call 8; refine (S8.out.hold8 (by omega) (by omega)).mono ?_; rintro e w9 ⟨rfl, d9⟩; have S9 := hid (S8.out.up d9); clear d9))
              go_ret
              exact ⟨rfl, S9.out.bel⟩
end Go.Proofs.YthioflehpifflaaGreatDoor
