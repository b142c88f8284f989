/-
  THE REFERENCE: quoted texts.
-/
import Derived.Test.YtfigneaaeakbcaaDoorTb
import Derived.Test.YtfigneaaeakbcaaDoorCx
import Derived.OwnWalk
namespace Go.Proofs.YtfigneaaeakbcaaDoor
open Go.RowKit Hm
attribute [local go_sem] Oper.semAt_some

theorem backt17 : backB (opsAt Tryd.f27 17) = true := by kernel_rfl
theorem dstt17 : dstB (opsAt Tryd.f27 17) 118 = true := by kernel_rfl
theorem sizet17 : (opsAt Tryd.f27 17).size = 17 := by kernel_rfl
theorem freet170 : freeB (opsAt Tryd.f27 17) 0 = true := by kernel_rfl
theorem freet178 : freeB (opsAt Tryd.f27 17) 8 = true := by kernel_rfl
theorem st17_0 : say (opsAt Tryd.f27 17) 0 = some (some 100, .move (.tmp 7), none) := by kernel_rfl
theorem dt17_0 : slotB (opsAt Tryd.f27 17) 0 = some 100 := by kernel_rfl
theorem st17_1 : say (opsAt Tryd.f27 17) 1 = some (some 101, .move (.tmp 0), none) := by kernel_rfl
theorem dt17_1 : slotB (opsAt Tryd.f27 17) 1 = some 101 := by kernel_rfl
theorem st17_2 : say (opsAt Tryd.f27 17) 2 = some (some 102, .move (.tmp 8), none) := by kernel_rfl
theorem dt17_2 : slotB (opsAt Tryd.f27 17) 2 = some 102 := by kernel_rfl
theorem st17_3 : say (opsAt Tryd.f27 17) 3 = some (some 103, .binOp .add 3 (.tmp 102) (.const (.int .i64 2)) 3, none) := by kernel_rfl
theorem dt17_3 : slotB (opsAt Tryd.f27 17) 3 = some 103 := by kernel_rfl
theorem st17_4 : say (opsAt Tryd.f27 17) 4 = some (some 104, .index 9 (.tmp 101) (.tmp 103), none) := by kernel_rfl
theorem dt17_4 : slotB (opsAt Tryd.f27 17) 4 = some 104 := by kernel_rfl
theorem st17_5 : say (opsAt Tryd.f27 17) 5 = some (some 105, .call { callee := .value (.func 39), args := #[.tmp 104], argTypes := #[5] }, none) := by kernel_rfl
theorem dt17_5 : slotB (opsAt Tryd.f27 17) 5 = some 105 := by kernel_rfl
theorem st17_6 : say (opsAt Tryd.f27 17) 6 = some (some 106, .binOp .mul 3 (.const (.int .i64 16)) (.tmp 105) 3, none) := by kernel_rfl
theorem dt17_6 : slotB (opsAt Tryd.f27 17) 6 = some 106 := by kernel_rfl
theorem st17_7 : say (opsAt Tryd.f27 17) 7 = some (some 107, .move (.tmp 0), none) := by kernel_rfl
theorem dt17_7 : slotB (opsAt Tryd.f27 17) 7 = some 107 := by kernel_rfl
theorem st17_8 : say (opsAt Tryd.f27 17) 8 = some (some 108, .move (.tmp 8), none) := by kernel_rfl
theorem dt17_8 : slotB (opsAt Tryd.f27 17) 8 = some 108 := by kernel_rfl
theorem st17_9 : say (opsAt Tryd.f27 17) 9 = some (some 109, .binOp .add 3 (.tmp 108) (.const (.int .i64 3)) 3, none) := by kernel_rfl
theorem dt17_9 : slotB (opsAt Tryd.f27 17) 9 = some 109 := by kernel_rfl
theorem st17_10 : say (opsAt Tryd.f27 17) 10 = some (some 110, .index 9 (.tmp 107) (.tmp 109), none) := by kernel_rfl
theorem dt17_10 : slotB (opsAt Tryd.f27 17) 10 = some 110 := by kernel_rfl
theorem st17_11 : say (opsAt Tryd.f27 17) 11 = some (some 111, .call { callee := .value (.func 39), args := #[.tmp 110], argTypes := #[5] }, none) := by kernel_rfl
theorem dt17_11 : slotB (opsAt Tryd.f27 17) 11 = some 111 := by kernel_rfl
theorem st17_12 : say (opsAt Tryd.f27 17) 12 = some (some 112, .binOp .add 3 (.tmp 106) (.tmp 111) 3, none) := by kernel_rfl
theorem dt17_12 : slotB (opsAt Tryd.f27 17) 12 = some 112 := by kernel_rfl
theorem st17_13 : say (opsAt Tryd.f27 17) 13 = some (some 113, .convert 3 5 (.tmp 112), none) := by kernel_rfl
theorem dt17_13 : slotB (opsAt Tryd.f27 17) 13 = some 113 := by kernel_rfl
theorem st17_14 : say (opsAt Tryd.f27 17) 14 = some (some 114, .buildSlice 73 1 #[(0, .tmp 113)], none) := by kernel_rfl
theorem dt17_14 : slotB (opsAt Tryd.f27 17) 14 = some 114 := by kernel_rfl
theorem st17_15 : say (opsAt Tryd.f27 17) 15 = some (some 115, .call { callee := .builtin .append, args := #[.tmp 100, .tmp 114], argTypes := #[73, 73] }, none) := by kernel_rfl
theorem dt17_15 : slotB (opsAt Tryd.f27 17) 15 = some 115 := by kernel_rfl
theorem st17_16 : say (opsAt Tryd.f27 17) 16 = some (some 7, .assign (.tmp 115), none) := by kernel_rfl
theorem dt17_16 : slotB (opsAt Tryd.f27 17) 16 = some 7 := by kernel_rfl
def Vt17 (sn sc : Nat) (so : Option Addr) (s : ByteArray) (i j2 j3 x y dx dy m16 ms z : Int) (r : Nat → Value) : Nat → Value
  | 0 => .slice so sn sc
  | 1 => .string s
  | 2 => .int .i64 i
  | 3 => .int .i64 j2
  | 4 => .int .u8 x
  | 5 => .int .i64 dx
  | 6 => .int .i64 m16
  | 7 => .string s
  | 8 => .int .i64 i
  | 9 => .int .i64 j3
  | 10 => .int .u8 y
  | 11 => .int .i64 dy
  | 12 => .int .i64 ms
  | 13 => .int .u8 z
  | 14 => (r 1)
  | 15 => (r 2)
  | 16 => (r 2)
  | _ => undef
set_option maxHeartbeats 8000000 in
set_option maxRecDepth 100000 in
theorem regt17 (sn sc : Nat) (so : Option Addr) (s : ByteArray) (i j2 j3 x y dx dy m16 ms z : Int) (F0 F1 F2 F3 F4 : (Nat → Value) → World → Prop) (B : World → Prop)  (t0 : Array Value) (wr : World) {Q : Exit → Act → World → Prop} (ht : t0.size = 118) (h0 : t0.getD 0 undef = .string s) (h7 : t0.getD 7 undef = .slice so sn sc) (h8 : t0.getD 8 undef = .int .i64 i)
    (h2 : IntKind.i64.wrap (i + 2) = j2) (h3 : IntKind.i64.wrap (i + 3) = j3) (hx : ∀ w, (Instr.index 9 (.string s) (.int .i64 j2)).run Tryd.prog w = .ok (.int .u8 x) w) (hy : ∀ w, (Instr.index 9 (.string s) (.int .i64 j3)).run Tryd.prog w = .ok (.int .u8 y) w) (hm : IntKind.i64.wrap (16 * dx) = m16) (hs2 : IntKind.i64.wrap (m16 + dy) = ms) (hz : IntKind.u8.wrap ms = z)
    (hb0 : ∀ r w, F0 r w → B w)
    (hc1 : ∀ r w, F0 r w → Calls Tryd.prog 39 #[.int .u8 x] w fun e w' => e = .returned (.int .i64 dx) ∧ F1 r w')
    (hc2 : ∀ r w, F1 r w → Calls Tryd.prog 39 #[.int .u8 y] w fun e w' => e = .returned (.int .i64 dy) ∧ F2 r w')
    (hs3 : ∀ r w, F2 r w → (#[.int .u8 z] : Array Value).size = 1 ∧ F3 (ups r 1 (.slice (some ⟨w.heap.size, 0, none⟩) 1 1)) (w.alloc (.cells (#[.int .u8 z] : Array Value) 5)))
    (ha4 : ∀ r w, F3 r w → ∃ u w', (Builtin.append_ #[73, 73] 73 #[.slice so sn sc, r 1]).run Tryd.prog w = .ok u w' ∧ F4 (ups r 2 u) w')
    (hst0 : ∀ r, F0 r wr.drew)
    (hQ : ∀ r w, F4 r w → Q .normal ⟨fold (opsAt Tryd.f27 17) (Vt17 sn sc so s i j2 j3 x y dx dy m16 ms z r) t0 17, []⟩ w) : (Code.region 17 (opsAt Tryd.f27 17) true).wp Tryd.prog Q ⟨t0, []⟩ wr := by
  have hB : dstB (opsAt Tryd.f27 17) t0.size = true := by rw [ht]; exact dstt17
  have hBB : ∀ r done w, MC F0 [] r done w → B w := fun r done w h => MC.base hb0 (by intro x h; cases h) h
  refine inv_region (by kernel_rfl) (IE (opsAt Tryd.f27 17) (Vt17 sn sc so s i j2 j3 x y dx dy m16 ms z) t0 (MC F0 [(15, F4), (14, F3), (11, F2), (5, F1)] )) backt17 ⟨(fun _ => undef), t0, rfl, ⟨rfl, fun _ _ => rfl, fun _ _ _ _ _ h => by cases h⟩, MC.start (hst0 _)⟩ ?_ ?_
  rotate_left 1
  · rintro done a w ⟨r, t, rfl, hS, hM⟩ hall
    rw [hS.end hB hall, sizet17]
    exact hQ r w (MC.get (hall 15 (by rw [sizet17]; decide)) [] (by simp) hM)
  · rintro jz op done a w ho ⟨r, t, rfl, hS, hM⟩ hnd hdep hcl
    have e0 : t[0]?.getD undef = .string s := (hS.old freet170).trans h0
    have e8 : t[8]?.getD undef = .int .i64 i := (hS.old freet178).trans h8
    have hlt : jz < 17 := by rw [← sizet17]; exact (Array.getElem?_eq_some_iff.1 ho).1
    match jz, hlt, ho, hnd, hdep with
    | 0, _, ho, hnd, hdep =>
      obtain ⟨hd, hop, hgd⟩ := say_of st17_0 ho
      have yt16 : done 16 = false := not_yet (k := 0) (j := 16) (by kernel_rfl) hcl hnd
      have e7 : t[7]?.getD undef = _ := (hS.yet hB dt17_16 yt16).trans h7
      refine ie_val r hB ho (wanted_none hgd) hd hS (hM.step (by rfl)) ?_
      unfold execOp
      simp only [hop]
      simp [e7, Vt17, go_sem]
    | 1, _, ho, hnd, hdep =>
      obtain ⟨hd, hop, hgd⟩ := say_of st17_1 ho
      refine ie_val r hB ho (wanted_none hgd) hd hS (hM.step (by rfl)) ?_
      unfold execOp
      simp only [hop]
      simp [e0, Vt17, go_sem]
    | 2, _, ho, hnd, hdep =>
      obtain ⟨hd, hop, hgd⟩ := say_of st17_2 ho
      refine ie_val r hB ho (wanted_none hgd) hd hS (hM.step (by rfl)) ?_
      unfold execOp
      simp only [hop]
      simp [e8, Vt17, go_sem]
    | 3, _, ho, hnd, hdep =>
      obtain ⟨hd, hop, hgd⟩ := say_of st17_3 ho
      have x102 : t[102]?.getD undef = _ := hS.at dt17_2 (waits (j := 2) (by kernel_rfl) ho hdep)
      simp only [Vt17] at x102
      refine ie_val r hB ho (wanted_none hgd) hd hS (hM.step (by rfl)) ?_
      unfold execOp
      simp only [hop]
      simp [x102, Vt17, h2, go_sem]
    | 4, _, ho, hnd, hdep =>
      obtain ⟨hd, hop, hgd⟩ := say_of st17_4 ho
      have x101 : t[101]?.getD undef = _ := hS.at dt17_1 (waits (j := 1) (by kernel_rfl) ho hdep)
      simp only [Vt17] at x101
      have x103 : t[103]?.getD undef = _ := hS.at dt17_3 (waits (j := 3) (by kernel_rfl) ho hdep)
      simp only [Vt17] at x103
      refine ie_val r hB ho (wanted_none hgd) hd hS (hM.step (by rfl)) ?_
      unfold execOp
      simp only [hop]
      simp [x101, x103, Vt17, hx, go_sem]
    | 5, _, ho, hnd, hdep =>
      obtain ⟨hd, hop, hgd⟩ := say_of st17_5 ho
      have x104 : t[104]?.getD undef = _ := hS.at dt17_4 (waits (j := 4) (by kernel_rfl) ho hdep)
      simp only [Vt17] at x104
      have ny11 : done 11 = false := not_yet (k := 5) (j := 11) (by kernel_rfl) hcl hnd
      have ny6 : done 6 = false := not_yet (k := 5) (j := 6) (by kernel_rfl) hcl hnd
      have ny12 : done 12 = false := not_yet (k := 6) (j := 12) (by kernel_rfl) hcl ny6
      have ny13 : done 13 = false := not_yet (k := 12) (j := 13) (by kernel_rfl) hcl ny12
      have ny14 : done 14 = false := not_yet (k := 13) (j := 14) (by kernel_rfl) hcl ny13
      have ny15 : done 15 = false := not_yet (k := 11) (j := 15) (by kernel_rfl) hcl ny11
      have hF := MC.get0 [(15, F4), (14, F3), (11, F2), (5, F1)] (by simp [hnd, ny11, ny14, ny15]) hM
      refine ie_call r 39 #[.int .u8 x] hB ho (wanted_none hgd) hd hS ?_ ?_
      · skip
        unfold execOp
        simp only [hop]
        simp [x104, go_sem]
      · skip
        refine (hc1 r w hF).mono ?_
        rintro e w' ⟨rfl, hF'⟩
        exact ⟨r, rfl, fun _ _ => rfl, MC.put hF' [(15, F4), (14, F3), (11, F2)] (by simp [ny11, ny14, ny15])⟩
    | 6, _, ho, hnd, hdep =>
      obtain ⟨hd, hop, hgd⟩ := say_of st17_6 ho
      have x105 : t[105]?.getD undef = _ := hS.at dt17_5 (waits (j := 5) (by kernel_rfl) ho hdep)
      simp only [Vt17] at x105
      refine ie_val r hB ho (wanted_none hgd) hd hS (hM.step (by rfl)) ?_
      unfold execOp
      simp only [hop]
      simp [x105, Vt17, hm, go_sem]
    | 7, _, ho, hnd, hdep =>
      obtain ⟨hd, hop, hgd⟩ := say_of st17_7 ho
      refine ie_val r hB ho (wanted_none hgd) hd hS (hM.step (by rfl)) ?_
      unfold execOp
      simp only [hop]
      simp [e0, Vt17, go_sem]
    | 8, _, ho, hnd, hdep =>
      obtain ⟨hd, hop, hgd⟩ := say_of st17_8 ho
      refine ie_val r hB ho (wanted_none hgd) hd hS (hM.step (by rfl)) ?_
      unfold execOp
      simp only [hop]
      simp [e8, Vt17, go_sem]
    | 9, _, ho, hnd, hdep =>
      obtain ⟨hd, hop, hgd⟩ := say_of st17_9 ho
      have x108 : t[108]?.getD undef = _ := hS.at dt17_8 (waits (j := 8) (by kernel_rfl) ho hdep)
      simp only [Vt17] at x108
      refine ie_val r hB ho (wanted_none hgd) hd hS (hM.step (by rfl)) ?_
      unfold execOp
      simp only [hop]
      simp [x108, Vt17, h3, go_sem]
    | 10, _, ho, hnd, hdep =>
      obtain ⟨hd, hop, hgd⟩ := say_of st17_10 ho
      have x107 : t[107]?.getD undef = _ := hS.at dt17_7 (waits (j := 7) (by kernel_rfl) ho hdep)
      simp only [Vt17] at x107
      have x109 : t[109]?.getD undef = _ := hS.at dt17_9 (waits (j := 9) (by kernel_rfl) ho hdep)
      simp only [Vt17] at x109
      refine ie_val r hB ho (wanted_none hgd) hd hS (hM.step (by rfl)) ?_
      unfold execOp
      simp only [hop]
      simp [x107, x109, Vt17, hy, go_sem]
    | 11, _, ho, hnd, hdep =>
      obtain ⟨hd, hop, hgd⟩ := say_of st17_11 ho
      have x110 : t[110]?.getD undef = _ := hS.at dt17_10 (waits (j := 10) (by kernel_rfl) ho hdep)
      simp only [Vt17] at x110
      have ny12 : done 12 = false := not_yet (k := 11) (j := 12) (by kernel_rfl) hcl hnd
      have ny13 : done 13 = false := not_yet (k := 12) (j := 13) (by kernel_rfl) hcl ny12
      have ny14 : done 14 = false := not_yet (k := 13) (j := 14) (by kernel_rfl) hcl ny13
      have ny15 : done 15 = false := not_yet (k := 11) (j := 15) (by kernel_rfl) hcl hnd
      have a5 : done 5 = true := waits (j := 5) (by kernel_rfl) ho hdep
      have hF := MC.get a5 [(15, F4), (14, F3), (11, F2)] (by simp [hnd, ny14, ny15]) hM
      refine ie_call r 39 #[.int .u8 y] hB ho (wanted_none hgd) hd hS ?_ ?_
      · skip
        unfold execOp
        simp only [hop]
        simp [x110, go_sem]
      · skip
        refine (hc2 r w hF).mono ?_
        rintro e w' ⟨rfl, hF'⟩
        exact ⟨r, rfl, fun _ _ => rfl, MC.put hF' [(15, F4), (14, F3)] (by simp [ny14, ny15])⟩
    | 12, _, ho, hnd, hdep =>
      obtain ⟨hd, hop, hgd⟩ := say_of st17_12 ho
      have x106 : t[106]?.getD undef = _ := hS.at dt17_6 (waits (j := 6) (by kernel_rfl) ho hdep)
      simp only [Vt17] at x106
      have x111 : t[111]?.getD undef = _ := hS.at dt17_11 (waits (j := 11) (by kernel_rfl) ho hdep)
      simp only [Vt17] at x111
      refine ie_val r hB ho (wanted_none hgd) hd hS (hM.step (by rfl)) ?_
      unfold execOp
      simp only [hop]
      simp [x106, x111, Vt17, hs2, go_sem]
    | 13, _, ho, hnd, hdep =>
      obtain ⟨hd, hop, hgd⟩ := say_of st17_13 ho
      have x112 : t[112]?.getD undef = _ := hS.at dt17_12 (waits (j := 12) (by kernel_rfl) ho hdep)
      simp only [Vt17] at x112
      refine ie_val r hB ho (wanted_none hgd) hd hS (hM.step (by rfl)) ?_
      unfold execOp
      simp only [hop]
      simp [x112, Vt17, hz, go_sem]
    | 14, _, ho, hnd, hdep =>
      obtain ⟨hd, hop, hgd⟩ := say_of st17_14 ho
      have x113 : t[113]?.getD undef = _ := hS.at dt17_13 (waits (j := 13) (by kernel_rfl) ho hdep)
      simp only [Vt17] at x113
      have ny15 : done 15 = false := not_yet (k := 14) (j := 15) (by kernel_rfl) hcl hnd
      have a13 : done 13 = true := waits (j := 13) (by kernel_rfl) ho hdep
      have a12 : done 12 = true := was (k := 13) (j := 12) (by kernel_rfl) hcl a13
      have a11 : done 11 = true := was (k := 12) (j := 11) (by kernel_rfl) hcl a12
      have hF := MC.get a11 [(15, F4), (14, F3)] (by simp [hnd, ny15]) hM
      refine ie_valL r (ups r 1 (.slice (some ⟨w.heap.size, 0, none⟩) 1 1)) (w.alloc (.cells (#[.int .u8 z] : Array Value) 5)) hB ho (wanted_none hgd) hd hS (fun k hk => ?_) (MC.put (hs3 r w hF).2 [(15, F4)] (by simp [ny15])) ?_
      · skip
        have q14 : k ≠ 14 := fun e => by rw [e, hnd] at hk; cases hk
        unfold Vt17
        split <;> first | rfl | exact absurd rfl q14
      · show _ = Result.ok (Next.value (Vt17 sn sc so s i j2 j3 x y dx dy m16 ms z (ups r 1 (.slice (some ⟨w.heap.size, 0, none⟩) 1 1)) 14)) _
        simp only [Vt17, ups_same]
        exact exec_slice1 ek73 _ hop (.int .u8 z) (#[.int .u8 z] : Array Value) (by show t.getD 113 undef = _; rw [Array.getD_eq_getD_getElem?]; exact x113) rfl (hs3 r w hF).1 w _ rfl
    | 15, _, ho, hnd, hdep =>
      obtain ⟨hd, hop, hgd⟩ := say_of st17_15 ho
      have x100 : t[100]?.getD undef = _ := hS.at dt17_0 (waits (j := 0) (by kernel_rfl) ho hdep)
      simp only [Vt17] at x100
      have x114 : t[114]?.getD undef = _ := hS.at dt17_14 (waits (j := 14) (by kernel_rfl) ho hdep)
      simp only [Vt17] at x114
      have ny16 : done 16 = false := not_yet (k := 15) (j := 16) (by kernel_rfl) hcl hnd
      have a14 : done 14 = true := waits (j := 14) (by kernel_rfl) ho hdep
      have hF := MC.get a14 [(15, F4)] (by simp [hnd]) hM
      obtain ⟨u9, w9, hr9, hF9⟩ := ha4 r w hF
      have ht9 : op.type = 73 := by have := congrArg (·.map (·.type)) ho; simpa using this.symm.trans (show _ = some 73 from by kernel_rfl)
      refine ie_valL r (ups r 2 u9) w9 hB ho (wanted_none hgd) hd hS (fun k hk => ?_) (MC.put hF9 [] (by simp)) ?_
      · skip
        have q15 : k ≠ 15 := fun e => by rw [e, hnd] at hk; cases hk
        have q16 : k ≠ 16 := fun e => by rw [e, ny16] at hk; cases hk
        unfold Vt17
        split <;> first | rfl | exact absurd rfl q15 | exact absurd rfl q16
      · show _ = Result.ok (Next.value (Vt17 sn sc so s i j2 j3 x y dx dy m16 ms z (ups r 2 u9) 15)) _
        simp only [Vt17, ups_same]
        exact exec_app (a := ⟨t, []⟩) (v := .slice so sn sc) (src := r 1) (v' := u9) hop (by show t.getD 100 undef = _; rw [Array.getD_eq_getD_getElem?]; exact x100) (by show t.getD 114 undef = _; rw [Array.getD_eq_getD_getElem?]; exact x114) (by rw [ht9]; exact hr9)
    | 16, _, ho, hnd, hdep =>
      obtain ⟨hd, hop, hgd⟩ := say_of st17_16 ho
      have x115 : t[115]?.getD undef = _ := hS.at dt17_15 (waits (j := 15) (by kernel_rfl) ho hdep)
      simp only [Vt17] at x115
      refine ie_val r hB ho (wanted_none hgd) hd hS (hM.step (by rfl)) ?_
      unfold execOp
      simp only [hop]
      simp [x115, Vt17, go_sem]
theorem foldt17 (sn sc : Nat) (so : Option Addr) (s : ByteArray) (i j2 j3 x y dx dy m16 ms z : Int) (r : Nat → Value) (t0 : Array Value) : fold (opsAt Tryd.f27 17) (Vt17 sn sc so s i j2 j3 x y dx dy m16 ms z r) t0 17 = (((((((((((((((((t0.setIfInBounds 100 (.slice so sn sc)).setIfInBounds 101 (.string s)).setIfInBounds 102 (.int .i64 i)).setIfInBounds 103 (.int .i64 j2)).setIfInBounds 104 (.int .u8 x)).setIfInBounds 105 (.int .i64 dx)).setIfInBounds 106 (.int .i64 m16)).setIfInBounds 107 (.string s)).setIfInBounds 108 (.int .i64 i)).setIfInBounds 109 (.int .i64 j3)).setIfInBounds 110 (.int .u8 y)).setIfInBounds 111 (.int .i64 dy)).setIfInBounds 112 (.int .i64 ms)).setIfInBounds 113 (.int .u8 z)).setIfInBounds 114 ((r 1))).setIfInBounds 115 ((r 2))).setIfInBounds 7 ((r 2))) := by kernel_rfl

theorem index_text (s : ByteArray) (k : Nat) (c : UInt8) (h : (tl s)[k]? = some c) (W : World) : (Instr.index 9 (.string s) (.int .i64 (k : Int))).run Tryd.prog W = .ok (.int .u8 (c.toNat : Int)) W := by
  have hk : k < s.size := by rw [← tl_len]; exact (List.getElem?_eq_some_iff.1 h).1
  rw [tl_at s k hk] at h
  have h := Option.some.inj h
  have i1 : (k : Int) < s.size := by omega
  have i2 : ¬ (s.size : Int) ≤ k := by omega
  subst h
  have hg : s[k]? = some (s[k]'hk) := getElem?_pos s k hk
  simp [Instr.index, run_underlying Tryd.underlying9, hg, go_sem]
theorem exec_idx {o : Oper} {a : Act} (x y : Operand) (ho : o.op = .index 9 x y) (s : ByteArray) (k : Nat) (c : UInt8) (j : Int) (hx : a.eval x = .string s) (hy : a.eval y = .int .i64 j) (hj : j = (k : Int)) (hc : (tl s)[k]? = some c) (w : World) : (execOp a.eval o).run Tryd.prog w = .ok (.value (.int .u8 (c.toNat : Int))) w := by
  subst hj
  have := index_text s k c hc w
  unfold execOp
  simp only [ho, hx, hy]
  simp [this]
def QuP (s : ByteArray) (at_ : Nat) (w : World) (E : Ending) (w' : World) : Prop := G w w' ∧ match qR ((tl s).drop (at_ + 1)) (at_ + 1) [] with
  | some (t, n) => E = .returned (.tuple #[.string ⟨t.toArray⟩, .int .i64 (n : Int), .bool true]) ∧ n ≤ s.size
  | none => E = .returned (.tuple #[.string ⟨#[]⟩, .int .i64 0, .bool false])
theorem q_some {l : By} {i : Nat} {c : UInt8} (h : l[i]? = some c) (out : By) : qR (l.drop i) i out = if c.toNat = 34 then some (out, i + 1) else if c.toNat < 32 ∨ 126 < c.toNat then none else if c.toNat ≠ 92 then qR (l.drop (i + 1)) (i + 1) (out ++ [c]) else
    match l[i + 1]? with
    | none => none
    | some d => if d.toNat = 34 ∨ d.toNat = 92 then qR (l.drop (i + 2)) (i + 2) (out ++ [d]) else if d.toNat = 120 then
        match l[i + 2]?, l[i + 3]? with
        | some a, some b => match dig a.toNat, dig b.toNat with
          | some x, some y => qR (l.drop (i + 4)) (i + 4) (out ++ [UInt8.ofNat (16 * x + y)])
          | _, _ => none
        | _, _ => none
      else none := by
  have hl := (List.getElem?_eq_some_iff.1 h).1
  have e0 : l.drop i = c :: l.drop (i + 1) := by rw [List.drop_eq_getElem_cons hl]; congr 1; exact (List.getElem?_eq_some_iff.1 h).2
  rw [e0, qR.eq_def]
  dsimp only
  cases h1 : l[i + 1]? with
  | none =>
    have d1 : l.drop (i + 1) = [] := List.drop_of_length_le (by simpa using h1)
    rw [d1]
  | some d =>
    have hl1 := (List.getElem?_eq_some_iff.1 h1).1
    have e1 : l.drop (i + 1) = d :: l.drop (i + 2) := by rw [List.drop_eq_getElem_cons hl1]; congr 1; exact (List.getElem?_eq_some_iff.1 h1).2
    rw [e1]
    dsimp only
    cases h2 : l[i + 2]? with
    | none =>
      have d2 : l.drop (i + 2) = [] := List.drop_of_length_le (by simpa using h2)
      rw [d2]
    | some a =>
      have hl2 := (List.getElem?_eq_some_iff.1 h2).1
      have e2 : l.drop (i + 2) = a :: l.drop (i + 3) := by rw [List.drop_eq_getElem_cons hl2]; congr 1; exact (List.getElem?_eq_some_iff.1 h2).2
      rw [e2]
      cases h3 : l[i + 3]? with
      | none =>
        have d3 : l.drop (i + 3) = [] := List.drop_of_length_le (by simpa using h3)
        rw [d3]
      | some b =>
        have hl3 := (List.getElem?_eq_some_iff.1 h3).1
        have e3 : l.drop (i + 3) = b :: l.drop (i + 4) := by rw [List.drop_eq_getElem_cons hl3]; congr 1; exact (List.getElem?_eq_some_iff.1 h3).2
        rw [e3]
        rfl
set_option maxRecDepth 100000 in
set_option maxHeartbeats 16000000 in
theorem quoted_any (s : ByteArray) (at_ : Nat) (w : World) (hs : s.size ≤ 70000) (hat : at_ < s.size) : Calls Tryd.prog 27 #[.string s, .int .i64 (at_ : Int)] w (QuP s at_ w) := by
  have hlen := tl_len s
  have CD := hid (fun (c : UInt8) (W : World) => rdigit_any c W)
  obtain ⟨R, hR⟩ : ∃ R, qR ((tl s).drop (at_ + 1)) (at_ + 1) [] = R := ⟨_, rfl⟩
  have HR := hid hR
  have hw0 : IntKind.i64.wrap ((at_ : Int) + 1) = ((at_ + 1 : Nat) : Int) := by rw [IntKind.wrap_i64]; omega
  clear hR
  go_enter Tryd.func27, Tryd.ntmps27
  go_upto_region 3 with fail
  go_loopw [7, 8] (fun x7 x8 wr => ∃ (i : Nat) (out : By) (so : Option Addr) (sc : Nat), x7 = .slice so out.length sc ∧ x8 = .int .i64 (i : Int) ∧ out.length ≤ i ∧ i ≤ s.size ∧ Hid (OwL 5 1 wr w.heap.size (.slice so out.length sc) (out.map bc) ∧ G w wr ∧ R = qR ((tl s).drop i) i out)) (fun _ x8 _ => s.size - iOf x8)
  case atStart => exact ⟨at_ + 1, [], none, 0, rfl, by first | rfl | (congr 1; omega), by simp, by omega, OwL.nil _ _ _ _, Below.refl _ _, HR.out.symm⟩
  case round =>
    obtain ⟨i, out, so, sc, rfl, rfl, hol, his, HI⟩ := hrel
    by_cases hi : i < s.size
    · have hiI : (i : Int) < (s.size : Int) := by omega
      obtain ⟨c, hc⟩ : ∃ c, (tl s)[i]? = some c := ⟨(tl s)[i]'(by omega), by simp⟩
      have hq := q_some hc out
      have hcl := c.toNat_lt
      have hw1 : IntKind.i64.wrap ((i : Int) + 1) = ((i + 1 : Nat) : Int) := by rw [IntKind.wrap_i64]; omega
      have hcv := conv_own HI.out.1
      generalize hon : out.length = on at *
      by_cases c1 : c.toNat = 34
      · have b1 : ((c.toNat : Int) == 34) = true := by simp; omega
        rw [if_pos c1] at hq
        have HQ := hid hq
        clear hq
        go_wp2_with (first
          | ((with_reducible refine pl_val 20 (.int .u8 (c.toNat : Int)) wr ?_ ?_ ?_ ?_); rfl; kernel_rfl; exact exec_idx (.tmp 18) (.tmp 19) rfl s i c _ rfl rfl (by omega) hc wr))
        refine bodyPost_ret (results_tmp3 rfl _ _ _) rfl ?_
        refine ⟨HI.out.2.1, ?_⟩
        rw [HR.out, HI.out.2.2, HQ.out]
        exact ⟨by simp, by omega⟩
      · have b1 : ((c.toNat : Int) == 34) = false := by simp; omega
        rw [if_neg c1] at hq
        by_cases c2 : c.toNat < 32 ∨ 126 < c.toNat
        · rw [if_pos c2] at hq
          have HQ := hid hq
          clear hq
          by_cases c3 : c.toNat < 32
          · have b2 : (c.toNat : Int) < 32 := by omega
            go_wp2_with (first
              | ((with_reducible refine pl_val 20 (.int .u8 (c.toNat : Int)) wr ?_ ?_ ?_ ?_); rfl; kernel_rfl; exact exec_idx (.tmp 18) (.tmp 19) rfl s i c _ rfl rfl (by omega) hc wr))
            refine bodyPost_ret (results_tmp3 rfl _ _ _) rfl ?_
            refine ⟨HI.out.2.1, ?_⟩
            rw [HR.out, HI.out.2.2, HQ.out]
            simp
          · have b2 : ¬ (c.toNat : Int) < 32 := by omega
            have b3 : (126 : Int) < c.toNat := by omega
            go_wp2_with (first
              | ((with_reducible refine pl_val 20 (.int .u8 (c.toNat : Int)) wr ?_ ?_ ?_ ?_); rfl; kernel_rfl; exact exec_idx (.tmp 18) (.tmp 19) rfl s i c _ rfl rfl (by omega) hc wr))
            refine bodyPost_ret (results_tmp3 rfl _ _ _) rfl ?_
            refine ⟨HI.out.2.1, ?_⟩
            rw [HR.out, HI.out.2.2, HQ.out]
            simp
        · rw [if_neg c2] at hq
          have b2 : ¬ (c.toNat : Int) < 32 := by omega
          have b3 : ¬ (126 : Int) < c.toNat := by omega
          by_cases c4 : c.toNat = 92
          · have b4 : ((c.toNat : Int) != 92) = false := by simp; omega
            rw [if_neg (fun h => h c4)] at hq
            cases hd : (tl s)[i + 1]? with
            | none =>
              rw [hd] at hq
              have hn1 : s.size ≤ i + 1 := by have := (List.getElem?_eq_none_iff.1 hd); omega
              have j1 : ¬ ((i + 1 : Nat) : Int) < (s.size : Int) := by omega
              have j1' : ¬ (i : Int) + 1 < (s.size : Int) := by omega
              have j3 : ¬ (i : Int) + 3 < (s.size : Int) := by omega
              have hw3 : IntKind.i64.wrap ((i : Int) + 3) = (i : Int) + 3 := by rw [IntKind.wrap_i64]; omega
              have HQ := hid hq
              clear hq
              go_wp2_with (first
                | ((with_reducible refine pl_val 20 (.int .u8 (c.toNat : Int)) wr ?_ ?_ ?_ ?_); rfl; kernel_rfl; exact exec_idx (.tmp 18) (.tmp 19) rfl s i c _ rfl rfl (by omega) hc wr))
              refine bodyPost_ret (results_tmp3 rfl _ _ _) rfl ?_
              refine ⟨HI.out.2.1, ?_⟩
              rw [HR.out, HI.out.2.2, HQ.out]
              simp
            | some d =>
              rw [hd] at hq
              simp only at hq
              have hn1 : i + 1 < s.size := by have := (List.getElem?_eq_some_iff.1 hd).1; omega
              have j1 : ((i + 1 : Nat) : Int) < (s.size : Int) := by omega
              have j1' : (i : Int) + 1 < (s.size : Int) := by omega
              have hdl := d.toNat_lt
              by_cases d1 : d.toNat = 34 ∨ d.toNat = 92
              · rw [if_pos d1] at hq
                have hw2 : IntKind.i64.wrap (((i + 1 : Nat) : Int) + 1) = ((i + 2 : Nat) : Int) := by rw [IntKind.wrap_i64]; omega
                have hw2' : IntKind.i64.wrap ((i : Int) + 1 + 1) = (i : Int) + 2 := by rw [IntKind.wrap_i64]; omega
                obtain ⟨wg, hwg⟩ : ∃ wg, wg = wr.alloc (.cells (bc d) 5) := ⟨_, rfl⟩
                obtain ⟨v', w2, r1, r2, r3, _⟩ := app_one ek73 73 (bc d) rfl (by simp [bc, Value.oneCell']) HI.out.1 HI.out.2.1.size (by simp; omega) wr.heap.size rfl
                obtain ⟨pa, pc, hv'⟩ := r2.form
                subst hv'
                rw [← hwg] at r1
                have hlenA : (List.map bc out ++ [bc d]).length = on + 1 := by simp [hon]
                rw [hlenA] at r1 r2
                have hG2 : G w w2 := (HI.out.2.1.grown r3 HI.out.2.1.size (fun k hk => (HI.out.1.lt k hk).1))
                have r2' : OwL 5 1 w2 w.heap.size (.slice pa (out ++ [d]).length pc) ((out ++ [d]).map bc) := by
                  have e1 : (out ++ [d]).length = on + 1 := by simp [hon]
                  rw [e1, List.map_append]; exact r2
                have HA := hid (⟨hwg, r1, r2', hG2, hon⟩ : _ ∧ _ ∧ _ ∧ _ ∧ _)
                have HQ := hid hq
                clear hwg r1 r2 r2' r3 hG2 hlenA hq
                by_cases d2 : d.toNat = 34
                · have b5 : ((d.toNat : Int) == 34) = true := by simp; omega
                  go_wp2_with (first
                    | ((with_reducible refine pl_val 20 (.int .u8 (c.toNat : Int)) wr ?_ ?_ ?_ ?_); rfl; kernel_rfl; exact exec_idx (.tmp 18) (.tmp 19) rfl s i c _ rfl rfl (by omega) hc wr)
                    | ((with_reducible refine pl_val 52 (.int .u8 (d.toNat : Int)) wr ?_ ?_ ?_ ?_); rfl; kernel_rfl; exact exec_idx (.tmp 49) (.tmp 51) rfl s (i + 1) d _ rfl rfl (by omega) hd wr)
                    | ((with_reducible refine pl_val 58 (.int .u8 (d.toNat : Int)) wr ?_ ?_ ?_ ?_); rfl; kernel_rfl; exact exec_idx (.tmp 55) (.tmp 57) rfl s (i + 1) d _ rfl rfl (by omega) hd wr)
                    | ((with_reducible refine pl_val 66 (.int .u8 (d.toNat : Int)) wr ?_ ?_ ?_ ?_); rfl; kernel_rfl; exact exec_idx (.tmp 63) (.tmp 65) rfl s (i + 1) d _ rfl rfl (by omega) hd wr)
                    | ((with_reducible refine pl_val 67 (.slice (some ⟨wr.heap.size, 0, none⟩) 1 1) wg ?_ ?_ ?_ ?_); rfl; kernel_rfl; (rw [HA.out.1]; exact exec_slice1 ek73 (.tmp 66) rfl (.int .u8 (d.toNat : Int)) (bc d) rfl rfl rfl wr _ rfl))
                    | ((with_reducible refine pl_val 68 (.slice pa (on + 1) pc) w2 ?_ ?_ ?_ ?_); rfl; kernel_rfl; exact exec_app (sT := 73) (s := .tmp 62) (x := .tmp 67) rfl (v := .slice so on sc) (src := .slice (some ⟨wr.heap.size, 0, none⟩) 1 1) rfl rfl HA.out.2.1))
                  go_roundw
                  case rel => exact ⟨i + 2, out ++ [d], pa, pc, by simp [hon], by first | rfl | (congr 1; omega), by simp; omega, by omega, HA.out.2.2.1, HA.out.2.2.2.1, by rw [HI.out.2.2, HQ.out]⟩
                  case measure => simp; omega
                · have b5 : ((d.toNat : Int) == 34) = false := by simp; omega
                  have b6 : ((d.toNat : Int) == 92) = true := by simp; omega
                  go_wp2_with (first
                    | ((with_reducible refine pl_val 20 (.int .u8 (c.toNat : Int)) wr ?_ ?_ ?_ ?_); rfl; kernel_rfl; exact exec_idx (.tmp 18) (.tmp 19) rfl s i c _ rfl rfl (by omega) hc wr)
                    | ((with_reducible refine pl_val 52 (.int .u8 (d.toNat : Int)) wr ?_ ?_ ?_ ?_); rfl; kernel_rfl; exact exec_idx (.tmp 49) (.tmp 51) rfl s (i + 1) d _ rfl rfl (by omega) hd wr)
                    | ((with_reducible refine pl_val 58 (.int .u8 (d.toNat : Int)) wr ?_ ?_ ?_ ?_); rfl; kernel_rfl; exact exec_idx (.tmp 55) (.tmp 57) rfl s (i + 1) d _ rfl rfl (by omega) hd wr)
                    | ((with_reducible refine pl_val 66 (.int .u8 (d.toNat : Int)) wr ?_ ?_ ?_ ?_); rfl; kernel_rfl; exact exec_idx (.tmp 63) (.tmp 65) rfl s (i + 1) d _ rfl rfl (by omega) hd wr)
                    | ((with_reducible refine pl_val 67 (.slice (some ⟨wr.heap.size, 0, none⟩) 1 1) wg ?_ ?_ ?_ ?_); rfl; kernel_rfl; (rw [HA.out.1]; exact exec_slice1 ek73 (.tmp 66) rfl (.int .u8 (d.toNat : Int)) (bc d) rfl rfl rfl wr _ rfl))
                    | ((with_reducible refine pl_val 68 (.slice pa (on + 1) pc) w2 ?_ ?_ ?_ ?_); rfl; kernel_rfl; exact exec_app (sT := 73) (s := .tmp 62) (x := .tmp 67) rfl (v := .slice so on sc) (src := .slice (some ⟨wr.heap.size, 0, none⟩) 1 1) rfl rfl HA.out.2.1))
                  go_roundw
                  case rel => exact ⟨i + 2, out ++ [d], pa, pc, by simp [hon], by first | rfl | (congr 1; omega), by simp; omega, by omega, HA.out.2.2.1, HA.out.2.2.2.1, by rw [HI.out.2.2, HQ.out]⟩
                  case measure => simp; omega
              · rw [if_neg d1] at hq
                have b5 : ((d.toNat : Int) == 34) = false := by simp; omega
                have b6 : ((d.toNat : Int) == 92) = false := by simp; omega
                have hw3 : IntKind.i64.wrap ((i : Int) + 3) = (i : Int) + 3 := by rw [IntKind.wrap_i64]; omega
                by_cases hn3 : i + 3 < s.size
                · have j3 : (i : Int) + 3 < (s.size : Int) := by omega
                  have hw2 : IntKind.i64.wrap ((i : Int) + 2) = (i : Int) + 2 := by rw [IntKind.wrap_i64]; omega
                  obtain ⟨a, ha⟩ : ∃ a, (tl s)[i + 2]? = some a := ⟨(tl s)[i + 2]'(by omega), by simp⟩
                  obtain ⟨b, hb⟩ : ∃ b, (tl s)[i + 3]? = some b := ⟨(tl s)[i + 3]'(by omega), by simp⟩
                  rw [ha, hb] at hq
                  simp only at hq
                  by_cases d3 : d.toNat = 120
                  · have b7 : ((d.toNat : Int) == 120) = true := by simp; omega
                    rw [if_pos d3] at hq
                    cases hxa : dig a.toNat with
                    | none =>
                      rw [hxa] at hq
                      simp only at hq
                      have HQ := hid hq
                      have CA : Hid (Calls Tryd.prog 39 #[.int .u8 (a.toNat : Int)] wr fun e w' => e = .returned (.int .i64 (-1)) ∧ w' = wr) := by have := CD.out a wr; rw [hxa] at this; exact this
                      clear hq
                      go_wp2_with (first
                        | ((with_reducible refine pl_val 20 (.int .u8 (c.toNat : Int)) wr ?_ ?_ ?_ ?_); rfl; kernel_rfl; exact exec_idx (.tmp 18) (.tmp 19) rfl s i c _ rfl rfl (by omega) hc wr)
                        | ((with_reducible refine pl_val 52 (.int .u8 (d.toNat : Int)) wr ?_ ?_ ?_ ?_); rfl; kernel_rfl; exact exec_idx (.tmp 49) (.tmp 51) rfl s (i + 1) d _ rfl rfl (by omega) hd wr)
                        | ((with_reducible refine pl_val 58 (.int .u8 (d.toNat : Int)) wr ?_ ?_ ?_ ?_); rfl; kernel_rfl; exact exec_idx (.tmp 55) (.tmp 57) rfl s (i + 1) d _ rfl rfl (by omega) hd wr)
                        | ((with_reducible refine pl_val 81 (.int .u8 (d.toNat : Int)) wr ?_ ?_ ?_ ?_); rfl; kernel_rfl; exact exec_idx (.tmp 78) (.tmp 80) rfl s (i + 1) d _ rfl rfl (by omega) hd wr)
                        | ((with_reducible refine pl_val 88 (.int .u8 (a.toNat : Int)) wr ?_ ?_ ?_ ?_); rfl; kernel_rfl; exact exec_idx (.tmp 85) (.tmp 87) rfl s (i + 2) a _ rfl rfl (by omega) ha wr)
                        | ((with_reducible refine pl_call 89 39 #[.int .u8 (a.toNat : Int)] (fun v w' => v = .int .i64 (-1) ∧ w' = wr) ?_ ?_ ?_ ?_ ?_); rfl; kernel_rfl; (unfold execOp; simp [go_sem]); exact CA.out.mono (fun e w' q => ⟨_, q.1, rfl, q.2⟩); rintro v w' ⟨rfl, hw'⟩; rw [hw']; clear hw' w'))
                      refine bodyPost_ret (results_tmp3 rfl _ _ _) rfl ?_
                      refine ⟨HI.out.2.1, ?_⟩
                      rw [HR.out, HI.out.2.2, HQ.out]
                      simp
                    | some x =>
                      cases hxb : dig b.toNat with
                      | none =>
                        rw [hxa, hxb] at hq
                        simp only at hq
                        have HQ := hid hq
                        have CA : Hid (Calls Tryd.prog 39 #[.int .u8 (a.toNat : Int)] wr fun e w' => e = .returned (.int .i64 (x : Int)) ∧ w' = wr) := by have := CD.out a wr; rw [hxa] at this; exact this
                        have CB : Hid (Calls Tryd.prog 39 #[.int .u8 (b.toNat : Int)] wr fun e w' => e = .returned (.int .i64 (-1)) ∧ w' = wr) := by have := CD.out b wr; rw [hxb] at this; exact this
                        have hx0 : (0 : Int) ≤ (x : Int) := by omega
                        clear hq
                        go_wp2_with (first
                          | ((with_reducible refine pl_val 20 (.int .u8 (c.toNat : Int)) wr ?_ ?_ ?_ ?_); rfl; kernel_rfl; exact exec_idx (.tmp 18) (.tmp 19) rfl s i c _ rfl rfl (by omega) hc wr)
                          | ((with_reducible refine pl_val 52 (.int .u8 (d.toNat : Int)) wr ?_ ?_ ?_ ?_); rfl; kernel_rfl; exact exec_idx (.tmp 49) (.tmp 51) rfl s (i + 1) d _ rfl rfl (by omega) hd wr)
                          | ((with_reducible refine pl_val 58 (.int .u8 (d.toNat : Int)) wr ?_ ?_ ?_ ?_); rfl; kernel_rfl; exact exec_idx (.tmp 55) (.tmp 57) rfl s (i + 1) d _ rfl rfl (by omega) hd wr)
                          | ((with_reducible refine pl_val 81 (.int .u8 (d.toNat : Int)) wr ?_ ?_ ?_ ?_); rfl; kernel_rfl; exact exec_idx (.tmp 78) (.tmp 80) rfl s (i + 1) d _ rfl rfl (by omega) hd wr)
                          | ((with_reducible refine pl_val 88 (.int .u8 (a.toNat : Int)) wr ?_ ?_ ?_ ?_); rfl; kernel_rfl; exact exec_idx (.tmp 85) (.tmp 87) rfl s (i + 2) a _ rfl rfl (by omega) ha wr)
                          | ((with_reducible refine pl_call 89 39 #[.int .u8 (a.toNat : Int)] (fun v w' => v = .int .i64 (x : Int) ∧ w' = wr) ?_ ?_ ?_ ?_ ?_); rfl; kernel_rfl; (unfold execOp; simp [go_sem]); exact CA.out.mono (fun e w' q => ⟨_, q.1, rfl, q.2⟩); rintro v w' ⟨rfl, hw'⟩; rw [hw']; clear hw' w')
                          | ((with_reducible refine pl_val 96 (.int .u8 (b.toNat : Int)) wr ?_ ?_ ?_ ?_); rfl; kernel_rfl; exact exec_idx (.tmp 93) (.tmp 95) rfl s (i + 3) b _ rfl rfl (by omega) hb wr)
                          | ((with_reducible refine pl_call 97 39 #[.int .u8 (b.toNat : Int)] (fun v w' => v = .int .i64 (-1) ∧ w' = wr) ?_ ?_ ?_ ?_ ?_); rfl; kernel_rfl; (unfold execOp; simp [go_sem]); exact CB.out.mono (fun e w' q => ⟨_, q.1, rfl, q.2⟩); rintro v w' ⟨rfl, hw'⟩; rw [hw']; clear hw' w'))
                        refine bodyPost_ret (results_tmp3 rfl _ _ _) rfl ?_
                        refine ⟨HI.out.2.1, ?_⟩
                        rw [HR.out, HI.out.2.2, HQ.out]
                        simp
                      | some y =>
                        rw [hxa, hxb] at hq
                        simp only at hq
                        have hx16 := dig_lt hxa
                        have hy16 := dig_lt hxb
                        have CA : Hid (∀ W, Calls Tryd.prog 39 #[.int .u8 (a.toNat : Int)] W fun e w' => e = .returned (.int .i64 (x : Int)) ∧ w' = W) := fun W => by have := CD.out a W; rw [hxa] at this; exact this
                        have CB : Hid (∀ W, Calls Tryd.prog 39 #[.int .u8 (b.toNat : Int)] W fun e w' => e = .returned (.int .i64 (y : Int)) ∧ w' = W) := fun W => by have := CD.out b W; rw [hxb] at this; exact this
                        have hx0 : (0 : Int) ≤ (x : Int) := by omega
                        have hy0 : (0 : Int) ≤ (y : Int) := by omega
                        have HQ := hid hq
                        have HO := hid hon
                        clear hq hxa hxb hon
                        go_upto_region 17 with (first
                          | ((with_reducible refine pl_val 20 (.int .u8 (c.toNat : Int)) wr ?_ ?_ ?_ ?_); rfl; kernel_rfl; exact exec_idx (.tmp 18) (.tmp 19) rfl s i c _ rfl rfl (by omega) hc wr)
                          | ((with_reducible refine pl_val 52 (.int .u8 (d.toNat : Int)) wr ?_ ?_ ?_ ?_); rfl; kernel_rfl; exact exec_idx (.tmp 49) (.tmp 51) rfl s (i + 1) d _ rfl rfl (by omega) hd wr)
                          | ((with_reducible refine pl_val 58 (.int .u8 (d.toNat : Int)) wr ?_ ?_ ?_ ?_); rfl; kernel_rfl; exact exec_idx (.tmp 55) (.tmp 57) rfl s (i + 1) d _ rfl rfl (by omega) hd wr)
                          | ((with_reducible refine pl_val 81 (.int .u8 (d.toNat : Int)) wr ?_ ?_ ?_ ?_); rfl; kernel_rfl; exact exec_idx (.tmp 78) (.tmp 80) rfl s (i + 1) d _ rfl rfl (by omega) hd wr)
                          | ((with_reducible refine pl_val 88 (.int .u8 (a.toNat : Int)) wr ?_ ?_ ?_ ?_); rfl; kernel_rfl; exact exec_idx (.tmp 85) (.tmp 87) rfl s (i + 2) a _ rfl rfl (by omega) ha wr)
                          | ((with_reducible refine pl_call 89 39 #[.int .u8 (a.toNat : Int)] (fun v w' => v = .int .i64 (x : Int) ∧ w' = wr) ?_ ?_ ?_ ?_ ?_); rfl; kernel_rfl; (unfold execOp; simp [go_sem]); exact (CA.out wr).mono (fun e w' q => ⟨_, q.1, rfl, q.2⟩); rintro v w' ⟨rfl, hw'⟩; rw [hw']; clear hw' w')
                          | ((with_reducible refine pl_val 96 (.int .u8 (b.toNat : Int)) wr ?_ ?_ ?_ ?_); rfl; kernel_rfl; exact exec_idx (.tmp 93) (.tmp 95) rfl s (i + 3) b _ rfl rfl (by omega) hb wr)
                          | ((with_reducible refine pl_call 97 39 #[.int .u8 (b.toNat : Int)] (fun v w' => v = .int .i64 (y : Int) ∧ w' = wr) ?_ ?_ ?_ ?_ ?_); rfl; kernel_rfl; (unfold execOp; simp [go_sem]); exact (CB.out wr).mono (fun e w' q => ⟨_, q.1, rfl, q.2⟩); rintro v w' ⟨rfl, hw'⟩; rw [hw']; clear hw' w'))
                        generalize hzz : UInt8.ofNat (16 * x + y) = zz at *
                        have hzn : (zz.toNat : Int) = ((16 * x + y : Nat) : Int) := by rw [← hzz, ofNat_lt _ (by omega)]
                        refine regt17 on sc so s (i : Int) ((i + 2 : Nat) : Int) ((i + 3 : Nat) : Int) (a.toNat : Int) (b.toNat : Int) (x : Int) (y : Int) (16 * (x : Int)) (16 * (x : Int) + y) (zz.toNat : Int)
                          (fun _ W => G wr W) (fun _ W => G wr W) (fun _ W => G wr W)
                          (fun r W => ∃ W0, G wr W0 ∧ W = W0.alloc (.cells #[.int .u8 (zz.toNat : Int)] 5) ∧ r 1 = .slice (some ⟨W0.heap.size, 0, none⟩) 1 1)
                          (fun r W => ∃ pa pc, r 2 = .slice pa (on + 1) pc ∧ OwL 5 1 W w.heap.size (.slice pa (on + 1) pc) ((out ++ [zz]).map bc) ∧ G w W)
                          (fun _ => True) _ wr rfl rfl rfl rfl (by rw [IntKind.wrap_i64]; omega) (by rw [IntKind.wrap_i64]; omega) (fun W => index_text s (i + 2) a ha W) (fun W => index_text s (i + 3) b hb W) (by rw [IntKind.wrap_i64]; omega) (by rw [IntKind.wrap_i64]; omega) (by rw [hzn]; simp [IntKind.wrap, IntKind.signed, IntKind.bits]; omega) (fun _ _ _ => trivial) ?c1 ?c2 ?c3 ?c4 (fun _ => G.drew wr) ?fin
                        case c1 =>
                          intro r W q
                          refine (CA.out W).mono ?_
                          rintro e w' ⟨rfl, rfl⟩
                          exact ⟨rfl, q⟩
                        case c2 =>
                          intro r W q
                          refine (CB.out W).mono ?_
                          rintro e w' ⟨rfl, rfl⟩
                          exact ⟨rfl, q⟩
                        case c3 => exact fun r W q => ⟨rfl, W, q, rfl, ups_same _ _ _⟩
                        case c4 =>
                          rintro r W ⟨W0, q, rfl, hr⟩
                          have h0 := HI.out.1.up q
                          have gw := Below.trans (B := w.heap.size) HI.out.2.1 (Below.mono q HI.out.2.1.size)
                          obtain ⟨v', w', r1, r2, r3, _⟩ := app_one ek73 73 (bc zz) rfl (by simp [bc, Value.oneCell']) h0 gw.size (by have := HO.out; simp; omega) W0.heap.size rfl
                          obtain ⟨pa, pc, hv'⟩ := r2.form
                          have hlenA : (List.map bc out ++ [bc zz]).length = on + 1 := by have := HO.out; simp; omega
                          rw [hlenA] at hv'
                          rw [hr]
                          refine ⟨v', w', r1, pa, pc, by rw [ups_same]; exact hv', ?_, gw.grown r3 gw.size (fun k hk => (h0.lt k hk).1)⟩
                          rw [← hv', List.map_append]; exact r2
                        case fin =>
                          rintro r W ⟨pa, pc, hr, o2, g2⟩
                          rw [foldt17, hr]
                          generalize r 1 = u1
                          have HO2 := hid (⟨o2, g2⟩ : _ ∧ _)
                          clear o2 g2 hr
                          have hw9 : IntKind.i64.wrap ((i : Int) + 3 + 1) = (i : Int) + 4 := by rw [IntKind.wrap_i64]; omega
                          go_simp
                          go_wp2
                          go_roundw
                          case rel => exact ⟨i + 4, out ++ [zz], pa, pc, by have := HO.out; simp; omega, by first | rfl | (congr 1; omega), by have := HO.out; simp; omega, by omega, by rw [show (out ++ [zz]).length = on + 1 by have := HO.out; simp; omega]; exact HO2.out.1, HO2.out.2, by rw [HI.out.2.2, HQ.out]⟩
                          case measure => simp; omega
                  · have b7 : ((d.toNat : Int) == 120) = false := by simp; omega
                    rw [if_neg d3] at hq
                    have HQ := hid hq
                    clear hq
                    go_wp2_with (first
                      | ((with_reducible refine pl_val 20 (.int .u8 (c.toNat : Int)) wr ?_ ?_ ?_ ?_); rfl; kernel_rfl; exact exec_idx (.tmp 18) (.tmp 19) rfl s i c _ rfl rfl (by omega) hc wr)
                      | ((with_reducible refine pl_val 52 (.int .u8 (d.toNat : Int)) wr ?_ ?_ ?_ ?_); rfl; kernel_rfl; exact exec_idx (.tmp 49) (.tmp 51) rfl s (i + 1) d _ rfl rfl (by omega) hd wr)
                      | ((with_reducible refine pl_val 58 (.int .u8 (d.toNat : Int)) wr ?_ ?_ ?_ ?_); rfl; kernel_rfl; exact exec_idx (.tmp 55) (.tmp 57) rfl s (i + 1) d _ rfl rfl (by omega) hd wr)
                      | ((with_reducible refine pl_val 81 (.int .u8 (d.toNat : Int)) wr ?_ ?_ ?_ ?_); rfl; kernel_rfl; exact exec_idx (.tmp 78) (.tmp 80) rfl s (i + 1) d _ rfl rfl (by omega) hd wr)
                      | ((with_reducible refine pl_val 88 (.int .u8 (a.toNat : Int)) wr ?_ ?_ ?_ ?_); rfl; kernel_rfl; exact exec_idx (.tmp 85) (.tmp 87) rfl s (i + 2) a _ rfl rfl (by omega) ha wr)
                      | ((with_reducible refine pl_call 89 39 #[.int .u8 (a.toNat : Int)] (fun v w' => v = .int .i64 (-1) ∧ w' = wr) ?_ ?_ ?_ ?_ ?_); rfl; kernel_rfl; (unfold execOp; simp [go_sem]); exact CA.out.mono (fun e w' q => ⟨_, q.1, rfl, q.2⟩); rintro v w' ⟨rfl, hw'⟩; rw [hw']; clear hw' w'))
                    refine bodyPost_ret (results_tmp3 rfl _ _ _) rfl ?_
                    refine ⟨HI.out.2.1, ?_⟩
                    rw [HR.out, HI.out.2.2, HQ.out]
                    simp
                · have j3 : ¬ (i : Int) + 3 < (s.size : Int) := by omega
                  have hq : qR ((tl s).drop i) i out = none := by
                    rw [hq]
                    have : (tl s)[i + 3]? = none := List.getElem?_eq_none_iff.2 (by omega)
                    rw [this]
                    split
                    · cases (tl s)[i + 2]? <;> rfl
                    · rfl
                  have HQ := hid hq
                  clear hq
                  go_wp2_with (first
                    | ((with_reducible refine pl_val 20 (.int .u8 (c.toNat : Int)) wr ?_ ?_ ?_ ?_); rfl; kernel_rfl; exact exec_idx (.tmp 18) (.tmp 19) rfl s i c _ rfl rfl (by omega) hc wr)
                    | ((with_reducible refine pl_val 52 (.int .u8 (d.toNat : Int)) wr ?_ ?_ ?_ ?_); rfl; kernel_rfl; exact exec_idx (.tmp 49) (.tmp 51) rfl s (i + 1) d _ rfl rfl (by omega) hd wr)
                    | ((with_reducible refine pl_val 58 (.int .u8 (d.toNat : Int)) wr ?_ ?_ ?_ ?_); rfl; kernel_rfl; exact exec_idx (.tmp 55) (.tmp 57) rfl s (i + 1) d _ rfl rfl (by omega) hd wr)
                    | ((with_reducible refine pl_val 81 (.int .u8 (d.toNat : Int)) wr ?_ ?_ ?_ ?_); rfl; kernel_rfl; exact exec_idx (.tmp 78) (.tmp 80) rfl s (i + 1) d _ rfl rfl (by omega) hd wr)
                    | ((with_reducible refine pl_val 88 (.int .u8 (a.toNat : Int)) wr ?_ ?_ ?_ ?_); rfl; kernel_rfl; exact exec_idx (.tmp 85) (.tmp 87) rfl s (i + 2) a _ rfl rfl (by omega) ha wr)
                    | ((with_reducible refine pl_call 89 39 #[.int .u8 (a.toNat : Int)] (fun v w' => v = .int .i64 (-1) ∧ w' = wr) ?_ ?_ ?_ ?_ ?_); rfl; kernel_rfl; (unfold execOp; simp [go_sem]); exact CA.out.mono (fun e w' q => ⟨_, q.1, rfl, q.2⟩); rintro v w' ⟨rfl, hw'⟩; rw [hw']; clear hw' w'))
                  refine bodyPost_ret (results_tmp3 rfl _ _ _) rfl ?_
                  refine ⟨HI.out.2.1, ?_⟩
                  rw [HR.out, HI.out.2.2, HQ.out]
                  simp
          · have b4 : ((c.toNat : Int) != 92) = true := by simp; omega
            rw [if_pos c4] at hq
            obtain ⟨wg, hwg⟩ : ∃ wg, wg = wr.alloc (.cells (bc c) 5) := ⟨_, rfl⟩
            obtain ⟨v', w2, r1, r2, r3, _⟩ := app_one ek73 73 (bc c) rfl (by simp [bc, Value.oneCell']) HI.out.1 HI.out.2.1.size (by simp; omega) wr.heap.size rfl
            obtain ⟨pa, pc, hv'⟩ := r2.form
            subst hv'
            rw [← hwg] at r1
            have hlenA : (List.map bc out ++ [bc c]).length = on + 1 := by simp [hon]
            rw [hlenA] at r1 r2
            have hG2 : G w w2 := (HI.out.2.1.grown r3 HI.out.2.1.size (fun k hk => (HI.out.1.lt k hk).1))
            have r2' : OwL 5 1 w2 w.heap.size (.slice pa (out ++ [c]).length pc) ((out ++ [c]).map bc) := by
              have e1 : (out ++ [c]).length = on + 1 := by simp [hon]
              rw [e1, List.map_append]; exact r2
            have HA := hid (⟨hwg, r1, r2', hG2, hon⟩ : _ ∧ _ ∧ _ ∧ _ ∧ _)
            have HQ := hid hq
            clear hwg r1 r2 r2' r3 hG2 hlenA hq
            go_wp2_with (first
              | ((with_reducible refine pl_val 20 (.int .u8 (c.toNat : Int)) wr ?_ ?_ ?_ ?_); rfl; kernel_rfl; exact exec_idx (.tmp 18) (.tmp 19) rfl s i c _ rfl rfl (by omega) hc wr)
              | ((with_reducible refine pl_val 40 (.slice (some ⟨wr.heap.size, 0, none⟩) 1 1) wg ?_ ?_ ?_ ?_); rfl; kernel_rfl; (rw [HA.out.1]; exact exec_slice1 ek73 (.tmp 39) rfl (.int .u8 (c.toNat : Int)) (bc c) rfl rfl rfl wr _ rfl))
              | ((with_reducible refine pl_val 41 (.slice pa (on + 1) pc) w2 ?_ ?_ ?_ ?_); rfl; kernel_rfl; exact exec_app (sT := 73) (s := .tmp 38) (x := .tmp 40) rfl (v := .slice so on sc) (src := .slice (some ⟨wr.heap.size, 0, none⟩) 1 1) rfl rfl HA.out.2.1))
            go_roundw
            case rel => exact ⟨i + 1, out ++ [c], pa, pc, by simp [hon], by first | rfl | (congr 1; omega), by simp; omega, by omega, HA.out.2.2.1, HA.out.2.2.2.1, by rw [HI.out.2.2, HQ.out]⟩
            case measure => simp; omega
    · have hiI : ¬ (i : Int) < (s.size : Int) := by omega
      have HN : Hid (R = none) := by
        show R = none
        rw [HI.out.2.2, List.drop_of_length_le (by omega)]; rfl
      have HG := hid HI.out.2.1
      clear HI
      go_wp2
      refine bodyPost_ret (results_tmp3 rfl _ _ _) rfl ?_
      refine ⟨HG.out, ?_⟩
      rw [HR.out, HN.out]
      simp
end Go.Proofs.YtfigneaaeakbcaaDoor
