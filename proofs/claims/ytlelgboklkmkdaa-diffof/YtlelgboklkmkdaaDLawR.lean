import Derived.Test.YtlelgboklkmkdaaDWR
set_option maxRecDepth 100000
set_option maxHeartbeats 8000000
/-
  DiffOf's last region.
-/
namespace Go.Proofs.Ytlelgboklkmkdaa
open Go.RowKit Ch
/-- what the calls answer -/
structure Lz where
  n1 : Array Value
  f1 : Array Value
  n2 : Array Value
  f2 : Array Value
def MZ (F1 G1 F2 G2 : Array Value → World → Prop) (wr : World) (r : Lz) (done : Nat → Bool) (w : World) : Prop := Below wr.heap.size wr w ∧ (done 10 = true → F1 r.n1 w) ∧ (done 12 = true → G1 r.f1 w) ∧ (done 17 = true → F2 r.n2 w) ∧ (done 19 = true → G2 r.f2 w)
theorem MZ.step {F1 G1 F2 G2 : Array Value → World → Prop} {wr : World} {r : Lz} {done : Nat → Bool} {w : World} (h : MZ F1 G1 F2 G2 wr r done w) {j : Nat} (h1 : j ≠ 10) (h2 : j ≠ 12) (h3 : j ≠ 17) (h4 : j ≠ 19) : MZ F1 G1 F2 G2 wr r (upd done j) w := by
  unfold MZ at *
  rw [upd_ne done (Ne.symm h1), upd_ne done (Ne.symm h2), upd_ne done (Ne.symm h3), upd_ne done (Ne.symm h4)]
  exact h
theorem MZ.grow {F1 G1 F2 G2 : Array Value → World → Prop} {wr : World} {r : Lz} {done : Nat → Bool} {w w2 : World} (h : MZ F1 G1 F2 G2 wr r done w) (hF1 : ∀ c w w', F1 c w → Below w.heap.size w w' → F1 c w') (hG1 : ∀ c w w', G1 c w → Below w.heap.size w w' → G1 c w') (hF2 : ∀ c w w', F2 c w → Below w.heap.size w w' → F2 c w') (hG2 : ∀ c w w', G2 c w → Below w.heap.size w w' → G2 c w') (hb : Below w.heap.size w w2) : MZ F1 G1 F2 G2 wr r done w2 :=
  ⟨h.1.trans (hb.mono h.1.size), fun q => hF1 _ _ _ (h.2.1 q) hb, fun q => hG1 _ _ _ (h.2.2.1 q) hb, fun q => hF2 _ _ _ (h.2.2.2.1 q) hb, fun q => hG2 _ _ _ (h.2.2.2.2 q) hb⟩
theorem backZ : backB (opsAt Try.f3 21) = true := by kernel_rfl
theorem dstZ : dstB (opsAt Try.f3 21) 121 = true := by kernel_rfl
theorem sizeZ : (opsAt Try.f3 21).size = 23 := by kernel_rfl
theorem freeZ20 : freeB (opsAt Try.f3 21) 20 = true := by kernel_rfl
theorem freeZ19 : freeB (opsAt Try.f3 21) 19 = true := by kernel_rfl
theorem freeZ11 : freeB (opsAt Try.f3 21) 11 = true := by kernel_rfl
theorem freeZ7 : freeB (opsAt Try.f3 21) 7 = true := by kernel_rfl
theorem freeZ3 : freeB (opsAt Try.f3 21) 3 = true := by kernel_rfl
theorem freeZ9 : freeB (opsAt Try.f3 21) 9 = true := by kernel_rfl
theorem freeZ4 : freeB (opsAt Try.f3 21) 4 = true := by kernel_rfl
theorem sZ_0 : say (opsAt Try.f3 21) 0 = some (some 99, .load 4 (.tmp 20), none) := by kernel_rfl
theorem dZ_0 : slotB (opsAt Try.f3 21) 0 = some 99 := by kernel_rfl
theorem sZ_1 : say (opsAt Try.f3 21) 1 = some (some 100, .move (.tmp 99), none) := by kernel_rfl
theorem dZ_1 : slotB (opsAt Try.f3 21) 1 = some 100 := by kernel_rfl
theorem sZ_2 : say (opsAt Try.f3 21) 2 = some (some 101, .load 3 (.tmp 19), some (1, true)) := by kernel_rfl
theorem dZ_2 : slotB (opsAt Try.f3 21) 2 = some 101 := by kernel_rfl
theorem sZ_3 : say (opsAt Try.f3 21) 3 = some (some 102, .load 35 (.tmp 11), some (1, true)) := by kernel_rfl
theorem dZ_3 : slotB (opsAt Try.f3 21) 3 = some 102 := by kernel_rfl
theorem sZ_4 : say (opsAt Try.f3 21) 4 = some (some 103, .call { callee := .builtin .len, args := #[.tmp 102], argTypes := #[35] }, some (1, true)) := by kernel_rfl
theorem dZ_4 : slotB (opsAt Try.f3 21) 4 = some 103 := by kernel_rfl
theorem sZ_5 : say (opsAt Try.f3 21) 5 = some (some 104, .call { callee := .builtin .min, args := #[.tmp 103, .const (.int .i64 4)], argTypes := #[3, 3] }, some (1, true)) := by kernel_rfl
theorem dZ_5 : slotB (opsAt Try.f3 21) 5 = some 104 := by kernel_rfl
theorem sZ_6 : say (opsAt Try.f3 21) 6 = some (some 105, .binOp .eql 3 (.tmp 101) (.tmp 104) 3, some (1, true)) := by kernel_rfl
theorem dZ_6 : slotB (opsAt Try.f3 21) 6 = some 105 := by kernel_rfl
theorem sZ_7 : say (opsAt Try.f3 21) 7 = some (some 106, .pick (.tmp 100) (.tmp 105) (.const (.bool false)), none) := by kernel_rfl
theorem dZ_7 : slotB (opsAt Try.f3 21) 7 = some 106 := by kernel_rfl
theorem sZ_8 : say (opsAt Try.f3 21) 8 = some (some 107, .move (.tmp 106), none) := by kernel_rfl
theorem dZ_8 : slotB (opsAt Try.f3 21) 8 = some 107 := by kernel_rfl
theorem sZ_9 : say (opsAt Try.f3 21) 9 = some (some 108, .move (.tmp 7), some (8, true)) := by kernel_rfl
theorem dZ_9 : slotB (opsAt Try.f3 21) 9 = some 108 := by kernel_rfl
theorem sZ_10 : say (opsAt Try.f3 21) 10 = some (some 109, .call { callee := .value (.func 12), args := #[.tmp 108], argTypes := #[32] }, some (8, true)) := by kernel_rfl
theorem dZ_10 : slotB (opsAt Try.f3 21) 10 = some 109 := by kernel_rfl
theorem sZ_11 : say (opsAt Try.f3 21) 11 = some (some 110, .load 30 (.tmp 3), some (8, true)) := by kernel_rfl
theorem dZ_11 : slotB (opsAt Try.f3 21) 11 = some 110 := by kernel_rfl
theorem sZ_12 : say (opsAt Try.f3 21) 12 = some (some 111, .call { callee := .value (.func 13), args := #[.tmp 110], argTypes := #[30] }, some (8, true)) := by kernel_rfl
theorem dZ_12 : slotB (opsAt Try.f3 21) 12 = some 111 := by kernel_rfl
theorem sZ_13 : say (opsAt Try.f3 21) 13 = some (some 112, .call { callee := .value (.func 11), args := #[.tmp 109, .tmp 111], argTypes := #[30, 30] }, some (8, true)) := by kernel_rfl
theorem dZ_13 : slotB (opsAt Try.f3 21) 13 = some 112 := by kernel_rfl
theorem sZ_14 : say (opsAt Try.f3 21) 14 = some (some 113, .pick (.tmp 107) (.tmp 112) (.const (.bool false)), none) := by kernel_rfl
theorem dZ_14 : slotB (opsAt Try.f3 21) 14 = some 113 := by kernel_rfl
theorem sZ_15 : say (opsAt Try.f3 21) 15 = some (some 114, .move (.tmp 113), none) := by kernel_rfl
theorem dZ_15 : slotB (opsAt Try.f3 21) 15 = some 114 := by kernel_rfl
theorem sZ_16 : say (opsAt Try.f3 21) 16 = some (some 115, .move (.tmp 9), some (15, true)) := by kernel_rfl
theorem dZ_16 : slotB (opsAt Try.f3 21) 16 = some 115 := by kernel_rfl
theorem sZ_17 : say (opsAt Try.f3 21) 17 = some (some 116, .call { callee := .value (.func 12), args := #[.tmp 115], argTypes := #[32] }, some (15, true)) := by kernel_rfl
theorem dZ_17 : slotB (opsAt Try.f3 21) 17 = some 116 := by kernel_rfl
theorem sZ_18 : say (opsAt Try.f3 21) 18 = some (some 117, .load 30 (.tmp 4), some (15, true)) := by kernel_rfl
theorem dZ_18 : slotB (opsAt Try.f3 21) 18 = some 117 := by kernel_rfl
theorem sZ_19 : say (opsAt Try.f3 21) 19 = some (some 118, .call { callee := .value (.func 13), args := #[.tmp 117], argTypes := #[30] }, some (15, true)) := by kernel_rfl
theorem dZ_19 : slotB (opsAt Try.f3 21) 19 = some 118 := by kernel_rfl
theorem sZ_20 : say (opsAt Try.f3 21) 20 = some (some 119, .call { callee := .value (.func 11), args := #[.tmp 116, .tmp 118], argTypes := #[30, 30] }, some (15, true)) := by kernel_rfl
theorem dZ_20 : slotB (opsAt Try.f3 21) 20 = some 119 := by kernel_rfl
theorem sZ_21 : say (opsAt Try.f3 21) 21 = some (some 120, .pick (.tmp 114) (.tmp 119) (.const (.bool false)), none) := by kernel_rfl
theorem dZ_21 : slotB (opsAt Try.f3 21) 21 = some 120 := by kernel_rfl
theorem sZ_22 : say (opsAt Try.f3 21) 22 = some (some 6, .assign (.tmp 120), none) := by kernel_rfl
theorem dZ_22 : slotB (opsAt Try.f3 21) 22 = some 6 := by kernel_rfl
def VZ (_B _Bw _Bi _Bv p1 p2 n cv : Nat) (ao : Option Addr) (q : Int) (c1 c2 : Array Value) (r : Lz) : Nat → Value
  | 0 => .bool true
  | 1 => .bool true
  | 2 => .int .i64 q
  | 3 => .slice ao n cv
  | 4 => .int .i64 (n : Int)
  | 5 => .int .i64 q
  | 6 => .bool true
  | 7 => .bool true
  | 8 => .bool true
  | 9 => .pointer (some ⟨p1, 0, none⟩)
  | 10 => .agg r.n1
  | 11 => .agg c1
  | 12 => .agg r.f1
  | 13 => .bool true
  | 14 => .bool true
  | 15 => .bool true
  | 16 => .pointer (some ⟨p2, 0, none⟩)
  | 17 => .agg r.n2
  | 18 => .agg c2
  | 19 => .agg r.f2
  | 20 => .bool true
  | 21 => .bool true
  | 22 => .bool true
  | _ => undef
theorem regZ (B Bw Bi Bv p1 p2 n cv : Nat) (ao : Option Addr) (q : Int) (c1 c2 : Array Value) (F1 G1 F2 G2 : Array Value → World → Prop) (t0 : Array Value) (wr : World) {Q : Exit → Act → World → Prop} (ht : t0.size = 121) (h20 : t0.getD 20 undef = .pointer (some ⟨Bw, 0, none⟩)) (h19 : t0.getD 19 undef = .pointer (some ⟨Bi, 0, none⟩)) (h11 : t0.getD 11 undef = .pointer (some ⟨Bv, 0, none⟩)) (h7 : t0.getD 7 undef = .pointer (some ⟨p1, 0, none⟩)) (h3 : t0.getD 3 undef = .pointer (some ⟨B, 0, none⟩)) (h9 : t0.getD 9 undef = .pointer (some ⟨p2, 0, none⟩)) (h4 : t0.getD 4 undef = .pointer (some ⟨B + 1, 0, none⟩))
    (hmin : min (n : Int) 4 = q) (cw : wr.cell? ⟨Bw, 0, none⟩ = some (.bool true)) (ci : wr.cell? ⟨Bi, 0, none⟩ = some (.int .i64 q)) (cvv : wr.cell? ⟨Bv, 0, none⟩ = some (.slice ao n cv)) (l1 : Lies wr B 0 c1) (l2 : Lies wr (B + 1) 0 c2) (s1 : c1.size = 41) (s2 : c2.size = 41)
    (hF1 : ∀ c w w', F1 c w → Below w.heap.size w w' → F1 c w') (hG1 : ∀ c w w', G1 c w → Below w.heap.size w w' → G1 c w') (hF2 : ∀ c w w', F2 c w → Below w.heap.size w w' → F2 c w') (hG2 : ∀ c w w', G2 c w → Below w.heap.size w w' → G2 c w')
    (hC1 : ∀ w, Below wr.heap.size wr w → Calls Try.prog 12 #[.pointer (some ⟨p1, 0, none⟩)] w fun e w' => ∃ c', e = .returned (.agg c') ∧ F1 c' w' ∧ Below w.heap.size w w') (hC2 : ∀ w, Below wr.heap.size wr w → Calls Try.prog 12 #[.pointer (some ⟨p2, 0, none⟩)] w fun e w' => ∃ c', e = .returned (.agg c') ∧ F2 c' w' ∧ Below w.heap.size w w')
    (hD1 : ∀ w, Below wr.heap.size wr w → Calls Try.prog 13 #[.agg c1] w fun e w' => ∃ c', e = .returned (.agg c') ∧ G1 c' w' ∧ Below w.heap.size w w') (hD2 : ∀ w, Below wr.heap.size wr w → Calls Try.prog 13 #[.agg c2] w fun e w' => ∃ c', e = .returned (.agg c') ∧ G2 c' w' ∧ Below w.heap.size w w')
    (hE1 : ∀ a b w, F1 a w → G1 b w → Calls Try.prog 11 #[.agg a, .agg b] w fun e w' => e = .returned (.bool true) ∧ Below w.heap.size w w') (hE2 : ∀ a b w, F2 a w → G2 b w → Calls Try.prog 11 #[.agg a, .agg b] w fun e w' => e = .returned (.bool true) ∧ Below w.heap.size w w')
    (hQ : ∀ r w, Below wr.heap.size wr w → Q .normal ⟨fold (opsAt Try.f3 21) (VZ B Bw Bi Bv p1 p2 n cv ao q c1 c2 r) t0 23, []⟩ w) : (Code.region 21 (opsAt Try.f3 21) true).wp Try.prog Q ⟨t0, []⟩ wr := by
  have hB : dstB (opsAt Try.f3 21) t0.size = true := by rw [ht]; exact dstZ
  refine inv_region (by kernel_rfl) (IE (opsAt Try.f3 21) (VZ B Bw Bi Bv p1 p2 n cv ao q c1 c2) t0 (MZ F1 G1 F2 G2 wr)) backZ ⟨⟨#[], #[], #[], #[]⟩, t0, rfl, ⟨rfl, fun _ _ => rfl, fun _ _ _ _ _ h => by cases h⟩, Below.drews (Below.refl _ wr) ⟨1, rfl⟩, (fun h => by cases h), (fun h => by cases h), (fun h => by cases h), (fun h => by cases h)⟩ ?_ ?_
  rotate_left 1
  · rintro done a w ⟨r, t, rfl, hS, hM⟩ hall
    rw [hS.end hB hall, sizeZ]
    exact hQ r w hM.1
  · rintro jz op done a w ho ⟨r, t, rfl, hS, hM⟩ hnd hdep hcl
    have e20 : t[20]?.getD undef = .pointer (some ⟨Bw, 0, none⟩) := (hS.old freeZ20).trans h20
    have e19 : t[19]?.getD undef = .pointer (some ⟨Bi, 0, none⟩) := (hS.old freeZ19).trans h19
    have e11 : t[11]?.getD undef = .pointer (some ⟨Bv, 0, none⟩) := (hS.old freeZ11).trans h11
    have e7 : t[7]?.getD undef = .pointer (some ⟨p1, 0, none⟩) := (hS.old freeZ7).trans h7
    have e3 : t[3]?.getD undef = .pointer (some ⟨B, 0, none⟩) := (hS.old freeZ3).trans h3
    have e9 : t[9]?.getD undef = .pointer (some ⟨p2, 0, none⟩) := (hS.old freeZ9).trans h9
    have e4 : t[4]?.getD undef = .pointer (some ⟨B + 1, 0, none⟩) := (hS.old freeZ4).trans h4
    have hlt : jz < 23 := by rw [← sizeZ]; exact (Array.getElem?_eq_some_iff.1 ho).1
    match jz, hlt, ho, hnd, hdep with
    | 0, _, ho, hnd, hdep =>
      obtain ⟨hd, hop, hgd⟩ := say_of sZ_0 ho
      have cz := (hM.1.cell (World.block_lt_of_cell? wr _ cw)).trans cw
      refine ie_val r hB ho (wanted_none hgd) hd hS (hM.step (by decide) (by decide) (by decide) (by decide)) ?_
      unfold execOp
      simp only [hop]
      simp [e20, VZ, cz, go_sem]
    | 1, _, ho, hnd, hdep =>
      obtain ⟨hd, hop, hgd⟩ := say_of sZ_1 ho
      have x99 : t[99]?.getD undef = _ := hS.at dZ_0 (waits (j := 0) (by kernel_rfl) ho hdep)
      simp only [VZ] at x99
      refine ie_val r hB ho (wanted_none hgd) hd hS (hM.step (by decide) (by decide) (by decide) (by decide)) ?_
      unfold execOp
      simp only [hop]
      simp [x99, VZ, go_sem]
    | 2, _, ho, hnd, hdep =>
      obtain ⟨hd, hop, hgd⟩ := say_of sZ_2 ho
      have gx : t[100]?.getD undef = _ := hS.at dZ_1 (waits (j := 1) (by kernel_rfl) ho hdep)
      simp only [VZ] at gx
      have cz := (hM.1.cell (World.block_lt_of_cell? wr _ ci)).trans ci
      refine ie_val r hB ho (wanted_yes hgd dZ_1 gx) hd hS (hM.step (by decide) (by decide) (by decide) (by decide)) ?_
      unfold execOp
      simp only [hop]
      simp [e19, VZ, cz, go_sem]
    | 3, _, ho, hnd, hdep =>
      obtain ⟨hd, hop, hgd⟩ := say_of sZ_3 ho
      have gx : t[100]?.getD undef = _ := hS.at dZ_1 (waits (j := 1) (by kernel_rfl) ho hdep)
      simp only [VZ] at gx
      have cz := (hM.1.cell (World.block_lt_of_cell? wr _ cvv)).trans cvv
      refine ie_val r hB ho (wanted_yes hgd dZ_1 gx) hd hS (hM.step (by decide) (by decide) (by decide) (by decide)) ?_
      unfold execOp
      simp only [hop]
      simp [e11, VZ, cz, go_sem]
    | 4, _, ho, hnd, hdep =>
      obtain ⟨hd, hop, hgd⟩ := say_of sZ_4 ho
      have gx : t[100]?.getD undef = _ := hS.at dZ_1 (waits (j := 1) (by kernel_rfl) ho hdep)
      simp only [VZ] at gx
      have x102 : t[102]?.getD undef = _ := hS.at dZ_3 (waits (j := 3) (by kernel_rfl) ho hdep)
      simp only [VZ] at x102
      refine ie_val r hB ho (wanted_yes hgd dZ_1 gx) hd hS (hM.step (by decide) (by decide) (by decide) (by decide)) ?_
      unfold execOp
      simp only [hop]
      simp [x102, VZ, go_sem]
    | 5, _, ho, hnd, hdep =>
      obtain ⟨hd, hop, hgd⟩ := say_of sZ_5 ho
      have gx : t[100]?.getD undef = _ := hS.at dZ_1 (waits (j := 1) (by kernel_rfl) ho hdep)
      simp only [VZ] at gx
      have x103 : t[103]?.getD undef = _ := hS.at dZ_4 (waits (j := 4) (by kernel_rfl) ho hdep)
      simp only [VZ] at x103
      refine ie_val r hB ho (wanted_yes hgd dZ_1 gx) hd hS (hM.step (by decide) (by decide) (by decide) (by decide)) ?_
      unfold execOp
      simp only [hop]
      simp [x103, VZ, hmin, go_sem]
    | 6, _, ho, hnd, hdep =>
      obtain ⟨hd, hop, hgd⟩ := say_of sZ_6 ho
      have gx : t[100]?.getD undef = _ := hS.at dZ_1 (waits (j := 1) (by kernel_rfl) ho hdep)
      simp only [VZ] at gx
      have x101 : t[101]?.getD undef = _ := hS.at dZ_2 (waits (j := 2) (by kernel_rfl) ho hdep)
      simp only [VZ] at x101
      have x104 : t[104]?.getD undef = _ := hS.at dZ_5 (waits (j := 5) (by kernel_rfl) ho hdep)
      simp only [VZ] at x104
      refine ie_val r hB ho (wanted_yes hgd dZ_1 gx) hd hS (hM.step (by decide) (by decide) (by decide) (by decide)) ?_
      unfold execOp
      simp only [hop]
      simp [x101, x104, VZ, go_sem]
    | 7, _, ho, hnd, hdep =>
      obtain ⟨hd, hop, hgd⟩ := say_of sZ_7 ho
      have x100 : t[100]?.getD undef = _ := hS.at dZ_1 (waits (j := 1) (by kernel_rfl) ho hdep)
      simp only [VZ] at x100
      have x105 : t[105]?.getD undef = _ := hS.at dZ_6 (waits (j := 6) (by kernel_rfl) ho hdep)
      simp only [VZ] at x105
      refine ie_val r hB ho (wanted_none hgd) hd hS (hM.step (by decide) (by decide) (by decide) (by decide)) ?_
      unfold execOp
      simp only [hop]
      simp [x100, x105, VZ, go_sem]
    | 8, _, ho, hnd, hdep =>
      obtain ⟨hd, hop, hgd⟩ := say_of sZ_8 ho
      have x106 : t[106]?.getD undef = _ := hS.at dZ_7 (waits (j := 7) (by kernel_rfl) ho hdep)
      simp only [VZ] at x106
      refine ie_val r hB ho (wanted_none hgd) hd hS (hM.step (by decide) (by decide) (by decide) (by decide)) ?_
      unfold execOp
      simp only [hop]
      simp [x106, VZ, go_sem]
    | 9, _, ho, hnd, hdep =>
      obtain ⟨hd, hop, hgd⟩ := say_of sZ_9 ho
      have gx : t[107]?.getD undef = _ := hS.at dZ_8 (waits (j := 8) (by kernel_rfl) ho hdep)
      simp only [VZ] at gx
      refine ie_val r hB ho (wanted_yes hgd dZ_8 gx) hd hS (hM.step (by decide) (by decide) (by decide) (by decide)) ?_
      unfold execOp
      simp only [hop]
      simp [e7, VZ, go_sem]
    | 10, _, ho, hnd, hdep =>
      obtain ⟨hd, hop, hgd⟩ := say_of sZ_10 ho
      have gx : t[107]?.getD undef = _ := hS.at dZ_8 (waits (j := 8) (by kernel_rfl) ho hdep)
      simp only [VZ] at gx
      have x108 : t[108]?.getD undef = _ := hS.at dZ_9 (waits (j := 9) (by kernel_rfl) ho hdep)
      simp only [VZ] at x108
      have ny12 : done 12 = false := not_yet (k := 10) (j := 12) (by kernel_rfl) hcl hnd
      have ny13 : done 13 = false := not_yet (k := 10) (j := 13) (by kernel_rfl) hcl hnd
      have ny15 : done 15 = false := not_yet (k := 13) (j := 15) (by kernel_rfl) hcl ny13
      have ny17 : done 17 = false := not_yet (k := 15) (j := 17) (by kernel_rfl) hcl ny15
      have ny19 : done 19 = false := not_yet (k := 15) (j := 19) (by kernel_rfl) hcl ny15
      refine ie_call r 12 #[.pointer (some ⟨p1, 0, none⟩)] hB ho (wanted_yes hgd dZ_8 gx) hd hS ?_ ?_
      · skip
        unfold execOp
        simp only [hop]
        simp [x108, go_sem]
      · skip
        refine (hC1 w hM.1).mono ?_
        rintro e w' ⟨c', rfl, hc', hg'⟩
        refine ⟨{ r with n1 := c' }, rfl, fun k hk => ?_, hM.1.trans (hg'.mono hM.1.size), fun _ => hc', fun h => absurd (show done 12 = true from h) (by rw [ny12]; simp), fun h => absurd (show done 17 = true from h) (by rw [ny17]; simp), fun h => absurd (show done 19 = true from h) (by rw [ny19]; simp)⟩
        · skip
          have h10 : k ≠ 10 := fun e => by rw [e, hnd] at hk; cases hk
          have h12 : k ≠ 12 := fun e => by rw [e, ny12] at hk; cases hk
          have h17 : k ≠ 17 := fun e => by rw [e, ny17] at hk; cases hk
          have h19 : k ≠ 19 := fun e => by rw [e, ny19] at hk; cases hk
          unfold VZ
          split <;> first | rfl | exact absurd rfl h10 | exact absurd rfl h12 | exact absurd rfl h17 | exact absurd rfl h19
    | 11, _, ho, hnd, hdep =>
      obtain ⟨hd, hop, hgd⟩ := say_of sZ_11 ho
      have gx : t[107]?.getD undef = _ := hS.at dZ_8 (waits (j := 8) (by kernel_rfl) ho hdep)
      simp only [VZ] at gx
      refine ie_val r hB ho (wanted_yes hgd dZ_8 gx) hd hS (hM.step (by decide) (by decide) (by decide) (by decide)) ?_
      exact exec_load30 (a := ⟨t, []⟩) _ hop B 0 (by show t.getD 3 undef = _; rw [Array.getD_eq_getD_getElem?]; exact e3) c1 s1 (l1.below hM.1)
    | 12, _, ho, hnd, hdep =>
      obtain ⟨hd, hop, hgd⟩ := say_of sZ_12 ho
      have gx : t[107]?.getD undef = _ := hS.at dZ_8 (waits (j := 8) (by kernel_rfl) ho hdep)
      simp only [VZ] at gx
      have x110 : t[110]?.getD undef = _ := hS.at dZ_11 (waits (j := 11) (by kernel_rfl) ho hdep)
      simp only [VZ] at x110
      have ny13 : done 13 = false := not_yet (k := 12) (j := 13) (by kernel_rfl) hcl hnd
      have ny15 : done 15 = false := not_yet (k := 13) (j := 15) (by kernel_rfl) hcl ny13
      have ny17 : done 17 = false := not_yet (k := 15) (j := 17) (by kernel_rfl) hcl ny15
      have ny19 : done 19 = false := not_yet (k := 15) (j := 19) (by kernel_rfl) hcl ny15
      refine ie_call r 13 #[.agg c1] hB ho (wanted_yes hgd dZ_8 gx) hd hS ?_ ?_
      · skip
        unfold execOp
        simp only [hop]
        simp [x110, go_sem]
      · skip
        refine (hD1 w hM.1).mono ?_
        rintro e w' ⟨c', rfl, hc', hg'⟩
        refine ⟨{ r with f1 := c' }, rfl, fun k hk => ?_, hM.1.trans (hg'.mono hM.1.size), fun h => hF1 _ _ _ (hM.2.1 h) hg', fun _ => hc', fun h => absurd (show done 17 = true from h) (by rw [ny17]; simp), fun h => absurd (show done 19 = true from h) (by rw [ny19]; simp)⟩
        · skip
          have h12 : k ≠ 12 := fun e => by rw [e, hnd] at hk; cases hk
          have h17 : k ≠ 17 := fun e => by rw [e, ny17] at hk; cases hk
          have h19 : k ≠ 19 := fun e => by rw [e, ny19] at hk; cases hk
          unfold VZ
          split <;> first | rfl | exact absurd rfl h12 | exact absurd rfl h17 | exact absurd rfl h19
    | 13, _, ho, hnd, hdep =>
      obtain ⟨hd, hop, hgd⟩ := say_of sZ_13 ho
      have gx : t[107]?.getD undef = _ := hS.at dZ_8 (waits (j := 8) (by kernel_rfl) ho hdep)
      simp only [VZ] at gx
      have x109 : t[109]?.getD undef = _ := hS.at dZ_10 (waits (j := 10) (by kernel_rfl) ho hdep)
      simp only [VZ] at x109
      have x111 : t[111]?.getD undef = _ := hS.at dZ_12 (waits (j := 12) (by kernel_rfl) ho hdep)
      simp only [VZ] at x111
      have a10 : done 10 = true := waits (j := 10) (by kernel_rfl) ho hdep
      have a12 : done 12 = true := waits (j := 12) (by kernel_rfl) ho hdep
      refine ie_call r 11 #[.agg r.n1, .agg r.f1] hB ho (wanted_yes hgd dZ_8 gx) hd hS ?_ ?_
      · skip
        unfold execOp
        simp only [hop]
        simp [x109, x111, go_sem]
      · skip
        refine (hE1 _ _ w (hM.2.1 a10) (hM.2.2.1 a12)).mono ?_
        rintro e w' ⟨rfl, hg'⟩
        exact ⟨r, rfl, fun _ _ => rfl, (hM.grow hF1 hG1 hF2 hG2 hg').step (by decide) (by decide) (by decide) (by decide)⟩
    | 14, _, ho, hnd, hdep =>
      obtain ⟨hd, hop, hgd⟩ := say_of sZ_14 ho
      have x107 : t[107]?.getD undef = _ := hS.at dZ_8 (waits (j := 8) (by kernel_rfl) ho hdep)
      simp only [VZ] at x107
      have x112 : t[112]?.getD undef = _ := hS.at dZ_13 (waits (j := 13) (by kernel_rfl) ho hdep)
      simp only [VZ] at x112
      refine ie_val r hB ho (wanted_none hgd) hd hS (hM.step (by decide) (by decide) (by decide) (by decide)) ?_
      unfold execOp
      simp only [hop]
      simp [x107, x112, VZ, go_sem]
    | 15, _, ho, hnd, hdep =>
      obtain ⟨hd, hop, hgd⟩ := say_of sZ_15 ho
      have x113 : t[113]?.getD undef = _ := hS.at dZ_14 (waits (j := 14) (by kernel_rfl) ho hdep)
      simp only [VZ] at x113
      refine ie_val r hB ho (wanted_none hgd) hd hS (hM.step (by decide) (by decide) (by decide) (by decide)) ?_
      unfold execOp
      simp only [hop]
      simp [x113, VZ, go_sem]
    | 16, _, ho, hnd, hdep =>
      obtain ⟨hd, hop, hgd⟩ := say_of sZ_16 ho
      have gx : t[114]?.getD undef = _ := hS.at dZ_15 (waits (j := 15) (by kernel_rfl) ho hdep)
      simp only [VZ] at gx
      refine ie_val r hB ho (wanted_yes hgd dZ_15 gx) hd hS (hM.step (by decide) (by decide) (by decide) (by decide)) ?_
      unfold execOp
      simp only [hop]
      simp [e9, VZ, go_sem]
    | 17, _, ho, hnd, hdep =>
      obtain ⟨hd, hop, hgd⟩ := say_of sZ_17 ho
      have gx : t[114]?.getD undef = _ := hS.at dZ_15 (waits (j := 15) (by kernel_rfl) ho hdep)
      simp only [VZ] at gx
      have x115 : t[115]?.getD undef = _ := hS.at dZ_16 (waits (j := 16) (by kernel_rfl) ho hdep)
      simp only [VZ] at x115
      have ny19 : done 19 = false := not_yet (k := 17) (j := 19) (by kernel_rfl) hcl hnd
      refine ie_call r 12 #[.pointer (some ⟨p2, 0, none⟩)] hB ho (wanted_yes hgd dZ_15 gx) hd hS ?_ ?_
      · skip
        unfold execOp
        simp only [hop]
        simp [x115, go_sem]
      · skip
        refine (hC2 w hM.1).mono ?_
        rintro e w' ⟨c', rfl, hc', hg'⟩
        refine ⟨{ r with n2 := c' }, rfl, fun k hk => ?_, hM.1.trans (hg'.mono hM.1.size), fun h => hF1 _ _ _ (hM.2.1 h) hg', fun h => hG1 _ _ _ (hM.2.2.1 h) hg', fun _ => hc', fun h => absurd (show done 19 = true from h) (by rw [ny19]; simp)⟩
        · skip
          have h17 : k ≠ 17 := fun e => by rw [e, hnd] at hk; cases hk
          have h19 : k ≠ 19 := fun e => by rw [e, ny19] at hk; cases hk
          unfold VZ
          split <;> first | rfl | exact absurd rfl h17 | exact absurd rfl h19
    | 18, _, ho, hnd, hdep =>
      obtain ⟨hd, hop, hgd⟩ := say_of sZ_18 ho
      have gx : t[114]?.getD undef = _ := hS.at dZ_15 (waits (j := 15) (by kernel_rfl) ho hdep)
      simp only [VZ] at gx
      refine ie_val r hB ho (wanted_yes hgd dZ_15 gx) hd hS (hM.step (by decide) (by decide) (by decide) (by decide)) ?_
      exact exec_load30 (a := ⟨t, []⟩) _ hop (B + 1) 0 (by show t.getD 4 undef = _; rw [Array.getD_eq_getD_getElem?]; exact e4) c2 s2 (l2.below hM.1)
    | 19, _, ho, hnd, hdep =>
      obtain ⟨hd, hop, hgd⟩ := say_of sZ_19 ho
      have gx : t[114]?.getD undef = _ := hS.at dZ_15 (waits (j := 15) (by kernel_rfl) ho hdep)
      simp only [VZ] at gx
      have x117 : t[117]?.getD undef = _ := hS.at dZ_18 (waits (j := 18) (by kernel_rfl) ho hdep)
      simp only [VZ] at x117
      refine ie_call r 13 #[.agg c2] hB ho (wanted_yes hgd dZ_15 gx) hd hS ?_ ?_
      · skip
        unfold execOp
        simp only [hop]
        simp [x117, go_sem]
      · skip
        refine (hD2 w hM.1).mono ?_
        rintro e w' ⟨c', rfl, hc', hg'⟩
        refine ⟨{ r with f2 := c' }, rfl, fun k hk => ?_, hM.1.trans (hg'.mono hM.1.size), fun h => hF1 _ _ _ (hM.2.1 h) hg', fun h => hG1 _ _ _ (hM.2.2.1 h) hg', fun h => hF2 _ _ _ (hM.2.2.2.1 h) hg', fun _ => hc'⟩
        · skip
          have h19 : k ≠ 19 := fun e => by rw [e, hnd] at hk; cases hk
          unfold VZ
          split <;> first | rfl | exact absurd rfl h19
    | 20, _, ho, hnd, hdep =>
      obtain ⟨hd, hop, hgd⟩ := say_of sZ_20 ho
      have gx : t[114]?.getD undef = _ := hS.at dZ_15 (waits (j := 15) (by kernel_rfl) ho hdep)
      simp only [VZ] at gx
      have x116 : t[116]?.getD undef = _ := hS.at dZ_17 (waits (j := 17) (by kernel_rfl) ho hdep)
      simp only [VZ] at x116
      have x118 : t[118]?.getD undef = _ := hS.at dZ_19 (waits (j := 19) (by kernel_rfl) ho hdep)
      simp only [VZ] at x118
      have a17 : done 17 = true := waits (j := 17) (by kernel_rfl) ho hdep
      have a19 : done 19 = true := waits (j := 19) (by kernel_rfl) ho hdep
      refine ie_call r 11 #[.agg r.n2, .agg r.f2] hB ho (wanted_yes hgd dZ_15 gx) hd hS ?_ ?_
      · skip
        unfold execOp
        simp only [hop]
        simp [x116, x118, go_sem]
      · skip
        refine (hE2 _ _ w (hM.2.2.2.1 a17) (hM.2.2.2.2 a19)).mono ?_
        rintro e w' ⟨rfl, hg'⟩
        exact ⟨r, rfl, fun _ _ => rfl, (hM.grow hF1 hG1 hF2 hG2 hg').step (by decide) (by decide) (by decide) (by decide)⟩
    | 21, _, ho, hnd, hdep =>
      obtain ⟨hd, hop, hgd⟩ := say_of sZ_21 ho
      have x114 : t[114]?.getD undef = _ := hS.at dZ_15 (waits (j := 15) (by kernel_rfl) ho hdep)
      simp only [VZ] at x114
      have x119 : t[119]?.getD undef = _ := hS.at dZ_20 (waits (j := 20) (by kernel_rfl) ho hdep)
      simp only [VZ] at x119
      refine ie_val r hB ho (wanted_none hgd) hd hS (hM.step (by decide) (by decide) (by decide) (by decide)) ?_
      unfold execOp
      simp only [hop]
      simp [x114, x119, VZ, go_sem]
    | 22, _, ho, hnd, hdep =>
      obtain ⟨hd, hop, hgd⟩ := say_of sZ_22 ho
      have x120 : t[120]?.getD undef = _ := hS.at dZ_21 (waits (j := 21) (by kernel_rfl) ho hdep)
      simp only [VZ] at x120
      refine ie_val r hB ho (wanted_none hgd) hd hS (hM.step (by decide) (by decide) (by decide) (by decide)) ?_
      unfold execOp
      simp only [hop]
      simp [x120, VZ, go_sem]
theorem foldZ (B Bw Bi Bv p1 p2 n cv : Nat) (ao : Option Addr) (q : Int) (c1 c2 : Array Value) (r : Lz) (t0 : Array Value) : fold (opsAt Try.f3 21) (VZ B Bw Bi Bv p1 p2 n cv ao q c1 c2 r) t0 23 = (((((((((((((((((((((((t0.setIfInBounds 99 (.bool true)).setIfInBounds 100 (.bool true)).setIfInBounds 101 (.int .i64 q)).setIfInBounds 102 (.slice ao n cv)).setIfInBounds 103 (.int .i64 (n : Int))).setIfInBounds 104 (.int .i64 q)).setIfInBounds 105 (.bool true)).setIfInBounds 106 (.bool true)).setIfInBounds 107 (.bool true)).setIfInBounds 108 (.pointer (some ⟨p1, 0, none⟩))).setIfInBounds 109 (.agg r.n1)).setIfInBounds 110 (.agg c1)).setIfInBounds 111 (.agg r.f1)).setIfInBounds 112 (.bool true)).setIfInBounds 113 (.bool true)).setIfInBounds 114 (.bool true)).setIfInBounds 115 (.pointer (some ⟨p2, 0, none⟩))).setIfInBounds 116 (.agg r.n2)).setIfInBounds 117 (.agg c2)).setIfInBounds 118 (.agg r.f2)).setIfInBounds 119 (.bool true)).setIfInBounds 120 (.bool true)).setIfInBounds 6 (.bool true)) := by kernel_rfl
end Go.Proofs.Ytlelgboklkmkdaa
