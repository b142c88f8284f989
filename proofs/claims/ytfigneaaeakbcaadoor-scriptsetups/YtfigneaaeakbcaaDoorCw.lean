/-
  A CUTTER'S STEPS: leave, and what each sign does.
-/
import Derived.Test.YtfigneaaeakbcaaDoorCv
namespace Go.Proofs.YtfigneaaeakbcaaDoor
open Go.RowKit Hm
attribute [local go_sem] Oper.semAt_some

theorem slice_text (line : ByteArray) (f i : Nat) (h1 : f ≤ i) (h2 : i ≤ line.size) (W : World) : (Instr.slice 9 (.string line) (some (.int .i64 (f : Int))) (some (.int .i64 (i : Int))) none).run Tryd.prog W = .ok (.string (line.extract f i)) W := by
  have i1 : (f : Int) ≤ i := by omega
  have i2 : (i : Int) ≤ line.size := by omega
  simp [Instr.slice, run_underlying Tryd.underlying9, Instr.sliceBounds, run_sliceBound, h1, h2]
theorem backy1 : backB (opsAt Tryd.f33 1) = true := by kernel_rfl
theorem dsty1 : dstB (opsAt Tryd.f33 1) 28 = true := by kernel_rfl
theorem sizey1 : (opsAt Tryd.f33 1).size = 13 := by kernel_rfl
theorem freey10 : freeB (opsAt Tryd.f33 1) 0 = true := by kernel_rfl
theorem freey11 : freeB (opsAt Tryd.f33 1) 1 = true := by kernel_rfl
theorem freey12 : freeB (opsAt Tryd.f33 1) 2 = true := by kernel_rfl
theorem sy1_0 : say (opsAt Tryd.f33 1) 0 = some (some 11, .move (.tmp 0), none) := by kernel_rfl
theorem dy1_0 : slotB (opsAt Tryd.f33 1) 0 = some 11 := by kernel_rfl
theorem sy1_1 : say (opsAt Tryd.f33 1) 1 = some (some 12, .move (.tmp 0), none) := by kernel_rfl
theorem dy1_1 : slotB (opsAt Tryd.f33 1) 1 = some 12 := by kernel_rfl
theorem sy1_2 : say (opsAt Tryd.f33 1) 2 = some (some 13, .nilCheck (.tmp 12), none) := by kernel_rfl
theorem dy1_2 : slotB (opsAt Tryd.f33 1) 2 = some 13 := by kernel_rfl
theorem sy1_3 : say (opsAt Tryd.f33 1) 3 = some (some 14, .fieldAddr 75 (.tmp 13) 0, none) := by kernel_rfl
theorem dy1_3 : slotB (opsAt Tryd.f33 1) 3 = some 14 := by kernel_rfl
theorem sy1_4 : say (opsAt Tryd.f33 1) 4 = some (some 15, .load 9 (.tmp 14), none) := by kernel_rfl
theorem dy1_4 : slotB (opsAt Tryd.f33 1) 4 = some 15 := by kernel_rfl
theorem sy1_5 : say (opsAt Tryd.f33 1) 5 = some (some 16, .move (.tmp 0), none) := by kernel_rfl
theorem dy1_5 : slotB (opsAt Tryd.f33 1) 5 = some 16 := by kernel_rfl
theorem sy1_6 : say (opsAt Tryd.f33 1) 6 = some (some 17, .nilCheck (.tmp 16), none) := by kernel_rfl
theorem dy1_6 : slotB (opsAt Tryd.f33 1) 6 = some 17 := by kernel_rfl
theorem sy1_7 : say (opsAt Tryd.f33 1) 7 = some (some 18, .fieldAddr 75 (.tmp 17) 4, none) := by kernel_rfl
theorem dy1_7 : slotB (opsAt Tryd.f33 1) 7 = some 18 := by kernel_rfl
theorem sy1_8 : say (opsAt Tryd.f33 1) 8 = some (some 19, .load 3 (.tmp 18), none) := by kernel_rfl
theorem dy1_8 : slotB (opsAt Tryd.f33 1) 8 = some 19 := by kernel_rfl
theorem sy1_9 : say (opsAt Tryd.f33 1) 9 = some (some 20, .move (.tmp 1), none) := by kernel_rfl
theorem dy1_9 : slotB (opsAt Tryd.f33 1) 9 = some 20 := by kernel_rfl
theorem sy1_10 : say (opsAt Tryd.f33 1) 10 = some (some 21, .slice 9 (.tmp 15) (some (.tmp 19)) (some (.tmp 20)) none, none) := by kernel_rfl
theorem dy1_10 : slotB (opsAt Tryd.f33 1) 10 = some 21 := by kernel_rfl
theorem sy1_11 : say (opsAt Tryd.f33 1) 11 = some (some 22, .move (.tmp 2), none) := by kernel_rfl
theorem dy1_11 : slotB (opsAt Tryd.f33 1) 11 = some 22 := by kernel_rfl
theorem sy1_12 : say (opsAt Tryd.f33 1) 12 = some (some 23, .call { callee := .value (.func 43), args := #[.tmp 11, .const (.int .i64 0), .tmp 21, .tmp 22], argTypes := #[87, 3, 9, 3] }, none) := by kernel_rfl
theorem dy1_12 : slotB (opsAt Tryd.f33 1) 12 = some 23 := by kernel_rfl
def Vy1 (b : Nat) (f i st : Int) (line tx : ByteArray) (r : Nat → Value) : Nat → Value
  | 0 => .pointer (some ⟨b, 0, none⟩)
  | 1 => .pointer (some ⟨b, 0, none⟩)
  | 2 => .pointer (some ⟨b, 0, none⟩)
  | 3 => .pointer (some ⟨b, 0, none⟩)
  | 4 => .string line
  | 5 => .pointer (some ⟨b, 0, none⟩)
  | 6 => .pointer (some ⟨b, 0, none⟩)
  | 7 => .pointer (some ⟨b, 4, none⟩)
  | 8 => .int .i64 f
  | 9 => .int .i64 i
  | 10 => .string tx
  | 11 => .int .i64 st
  | 12 => (r 1)
  | _ => undef
set_option maxHeartbeats 8000000 in
set_option maxRecDepth 100000 in
theorem regy1 (b : Nat) (f i st : Int) (line tx : ByteArray) (F0 F1 : (Nat → Value) → World → Prop) (B : World → Prop)  (t0 : Array Value) (wr : World) {Q : Exit → Act → World → Prop} (ht : t0.size = 28) (h0 : t0.getD 0 undef = .pointer (some ⟨b, 0, none⟩)) (h1 : t0.getD 1 undef = .int .i64 i) (h2 : t0.getD 2 undef = .int .i64 st)
    (hsl : ∀ W, (Instr.slice 9 (.string line) (some (.int .i64 f)) (some (.int .i64 i)) none).run Tryd.prog W = .ok (.string tx) W)
    (hb0 : ∀ r w, F0 r w → B w)
    (hc1 : ∀ r w, F0 r w → Calls Tryd.prog 43 #[.pointer (some ⟨b, 0, none⟩), .int .i64 0, .string tx, .int .i64 st] w fun e w' => ∃ u, e = .returned u ∧ F1 (ups r 1 u) w')
    (hl4 : ∀ w, B w → w.cell? ⟨b, 0, none⟩ = some (.string line))
    (hl8 : ∀ w, B w → w.cell? ⟨b, 4, none⟩ = some (.int .i64 f))
    (hst0 : ∀ r, F0 r wr.drew)
    (hQ : ∀ r w, F1 r w → Q .normal ⟨fold (opsAt Tryd.f33 1) (Vy1 b f i st line tx r) t0 13, []⟩ w) : (Code.region 1 (opsAt Tryd.f33 1) true).wp Tryd.prog Q ⟨t0, []⟩ wr := by
  have hB : dstB (opsAt Tryd.f33 1) t0.size = true := by rw [ht]; exact dsty1
  have hBB : ∀ r done w, MC F0 [] r done w → B w := fun r done w h => MC.base hb0 (by intro x h; cases h) h
  refine inv_region (by kernel_rfl) (IE (opsAt Tryd.f33 1) (Vy1 b f i st line tx) t0 (MC F0 [(12, F1)] )) backy1 ⟨(fun _ => undef), t0, rfl, ⟨rfl, fun _ _ => rfl, fun _ _ _ _ _ h => by cases h⟩, MC.start (hst0 _)⟩ ?_ ?_
  rotate_left 1
  · rintro done a w ⟨r, t, rfl, hS, hM⟩ hall
    rw [hS.end hB hall, sizey1]
    exact hQ r w (MC.get (hall 12 (by rw [sizey1]; decide)) [] (by simp) hM)
  · rintro jz op done a w ho ⟨r, t, rfl, hS, hM⟩ hnd hdep hcl
    have e0 : t[0]?.getD undef = .pointer (some ⟨b, 0, none⟩) := (hS.old freey10).trans h0
    have e1 : t[1]?.getD undef = .int .i64 i := (hS.old freey11).trans h1
    have e2 : t[2]?.getD undef = .int .i64 st := (hS.old freey12).trans h2
    have hlt : jz < 13 := by rw [← sizey1]; exact (Array.getElem?_eq_some_iff.1 ho).1
    match jz, hlt, ho, hnd, hdep with
    | 0, _, ho, hnd, hdep =>
      obtain ⟨hd, hop, hgd⟩ := say_of sy1_0 ho
      refine ie_val r hB ho (wanted_none hgd) hd hS (hM.step (by rfl)) ?_
      unfold execOp
      simp only [hop]
      simp [e0, Vy1, go_sem]
    | 1, _, ho, hnd, hdep =>
      obtain ⟨hd, hop, hgd⟩ := say_of sy1_1 ho
      refine ie_val r hB ho (wanted_none hgd) hd hS (hM.step (by rfl)) ?_
      unfold execOp
      simp only [hop]
      simp [e0, Vy1, go_sem]
    | 2, _, ho, hnd, hdep =>
      obtain ⟨hd, hop, hgd⟩ := say_of sy1_2 ho
      have x12 : t[12]?.getD undef = _ := hS.at dy1_1 (waits (j := 1) (by kernel_rfl) ho hdep)
      simp only [Vy1] at x12
      refine ie_val r hB ho (wanted_none hgd) hd hS (hM.step (by rfl)) ?_
      unfold execOp
      simp only [hop]
      simp [x12, Vy1, go_sem]
    | 3, _, ho, hnd, hdep =>
      obtain ⟨hd, hop, hgd⟩ := say_of sy1_3 ho
      have x13 : t[13]?.getD undef = _ := hS.at dy1_2 (waits (j := 2) (by kernel_rfl) ho hdep)
      simp only [Vy1] at x13
      refine ie_val r hB ho (wanted_none hgd) hd hS (hM.step (by rfl)) ?_
      unfold execOp
      simp only [hop]
      simp [x13, Vy1, go_sem]
    | 4, _, ho, hnd, hdep =>
      obtain ⟨hd, hop, hgd⟩ := say_of sy1_4 ho
      have x14 : t[14]?.getD undef = _ := hS.at dy1_3 (waits (j := 3) (by kernel_rfl) ho hdep)
      simp only [Vy1] at x14
      have ny10 : done 10 = false := not_yet (k := 4) (j := 10) (by kernel_rfl) hcl hnd
      have ny12 : done 12 = false := not_yet (k := 10) (j := 12) (by kernel_rfl) hcl ny10
      have cz := hl4 w (hBB _ _ _ (MC.cut [(12, F1)] (by simp [ny12]) hM))
      refine ie_val r hB ho (wanted_none hgd) hd hS (hM.step (by rfl)) ?_
      unfold execOp
      simp only [hop]
      simp [x14, Vy1, cz, go_sem]
    | 5, _, ho, hnd, hdep =>
      obtain ⟨hd, hop, hgd⟩ := say_of sy1_5 ho
      refine ie_val r hB ho (wanted_none hgd) hd hS (hM.step (by rfl)) ?_
      unfold execOp
      simp only [hop]
      simp [e0, Vy1, go_sem]
    | 6, _, ho, hnd, hdep =>
      obtain ⟨hd, hop, hgd⟩ := say_of sy1_6 ho
      have x16 : t[16]?.getD undef = _ := hS.at dy1_5 (waits (j := 5) (by kernel_rfl) ho hdep)
      simp only [Vy1] at x16
      refine ie_val r hB ho (wanted_none hgd) hd hS (hM.step (by rfl)) ?_
      unfold execOp
      simp only [hop]
      simp [x16, Vy1, go_sem]
    | 7, _, ho, hnd, hdep =>
      obtain ⟨hd, hop, hgd⟩ := say_of sy1_7 ho
      have x17 : t[17]?.getD undef = _ := hS.at dy1_6 (waits (j := 6) (by kernel_rfl) ho hdep)
      simp only [Vy1] at x17
      refine ie_val r hB ho (wanted_none hgd) hd hS (hM.step (by rfl)) ?_
      unfold execOp
      simp only [hop]
      simp [x17, Vy1, go_sem]
    | 8, _, ho, hnd, hdep =>
      obtain ⟨hd, hop, hgd⟩ := say_of sy1_8 ho
      have x18 : t[18]?.getD undef = _ := hS.at dy1_7 (waits (j := 7) (by kernel_rfl) ho hdep)
      simp only [Vy1] at x18
      have ny10 : done 10 = false := not_yet (k := 8) (j := 10) (by kernel_rfl) hcl hnd
      have ny12 : done 12 = false := not_yet (k := 10) (j := 12) (by kernel_rfl) hcl ny10
      have cz := hl8 w (hBB _ _ _ (MC.cut [(12, F1)] (by simp [ny12]) hM))
      refine ie_val r hB ho (wanted_none hgd) hd hS (hM.step (by rfl)) ?_
      unfold execOp
      simp only [hop]
      simp [x18, Vy1, cz, go_sem]
    | 9, _, ho, hnd, hdep =>
      obtain ⟨hd, hop, hgd⟩ := say_of sy1_9 ho
      refine ie_val r hB ho (wanted_none hgd) hd hS (hM.step (by rfl)) ?_
      unfold execOp
      simp only [hop]
      simp [e1, Vy1, go_sem]
    | 10, _, ho, hnd, hdep =>
      obtain ⟨hd, hop, hgd⟩ := say_of sy1_10 ho
      have x15 : t[15]?.getD undef = _ := hS.at dy1_4 (waits (j := 4) (by kernel_rfl) ho hdep)
      simp only [Vy1] at x15
      have x19 : t[19]?.getD undef = _ := hS.at dy1_8 (waits (j := 8) (by kernel_rfl) ho hdep)
      simp only [Vy1] at x19
      have x20 : t[20]?.getD undef = _ := hS.at dy1_9 (waits (j := 9) (by kernel_rfl) ho hdep)
      simp only [Vy1] at x20
      refine ie_val r hB ho (wanted_none hgd) hd hS (hM.step (by rfl)) ?_
      unfold execOp
      simp only [hop]
      simp [x15, x19, x20, Vy1, hsl, go_sem]
    | 11, _, ho, hnd, hdep =>
      obtain ⟨hd, hop, hgd⟩ := say_of sy1_11 ho
      refine ie_val r hB ho (wanted_none hgd) hd hS (hM.step (by rfl)) ?_
      unfold execOp
      simp only [hop]
      simp [e2, Vy1, go_sem]
    | 12, _, ho, hnd, hdep =>
      obtain ⟨hd, hop, hgd⟩ := say_of sy1_12 ho
      have x11 : t[11]?.getD undef = _ := hS.at dy1_0 (waits (j := 0) (by kernel_rfl) ho hdep)
      simp only [Vy1] at x11
      have x21 : t[21]?.getD undef = _ := hS.at dy1_10 (waits (j := 10) (by kernel_rfl) ho hdep)
      simp only [Vy1] at x21
      have x22 : t[22]?.getD undef = _ := hS.at dy1_11 (waits (j := 11) (by kernel_rfl) ho hdep)
      simp only [Vy1] at x22
      have hF := MC.get0 [(12, F1)] (by simp [hnd]) hM
      refine ie_call r 43 #[.pointer (some ⟨b, 0, none⟩), .int .i64 0, .string tx, .int .i64 st] hB ho (wanted_none hgd) hd hS ?_ ?_
      · skip
        unfold execOp
        simp only [hop]
        simp [x11, x21, x22, go_sem]
      · skip
        refine (hc1 r w hF).mono ?_
        rintro e w' ⟨u, rfl, hF'⟩
        refine ⟨ups r 1 u, ?_, fun k hk => ?_, MC.put hF' [] (by simp)⟩
        · simp only [Vy1, ups_same]
        · skip
          have q12 : k ≠ 12 := fun e => by rw [e, hnd] at hk; cases hk
          unfold Vy1
          split <;> first | rfl | exact absurd rfl q12
theorem foldy1 (b : Nat) (f i st : Int) (line tx : ByteArray) (r : Nat → Value) (t0 : Array Value) : fold (opsAt Tryd.f33 1) (Vy1 b f i st line tx r) t0 13 = (((((((((((((t0.setIfInBounds 11 (.pointer (some ⟨b, 0, none⟩))).setIfInBounds 12 (.pointer (some ⟨b, 0, none⟩))).setIfInBounds 13 (.pointer (some ⟨b, 0, none⟩))).setIfInBounds 14 (.pointer (some ⟨b, 0, none⟩))).setIfInBounds 15 (.string line)).setIfInBounds 16 (.pointer (some ⟨b, 0, none⟩))).setIfInBounds 17 (.pointer (some ⟨b, 0, none⟩))).setIfInBounds 18 (.pointer (some ⟨b, 4, none⟩))).setIfInBounds 19 (.int .i64 f)).setIfInBounds 20 (.int .i64 i)).setIfInBounds 21 (.string tx)).setIfInBounds 22 (.int .i64 st)).setIfInBounds 23 ((r 1))) := by kernel_rfl

set_option maxRecDepth 100000 in
set_option maxHeartbeats 4000000 in
theorem leave_any {b : Nat} {line : ByteArray} {a : Nat} {x : Cs} {w : World} (h : Ct b line a x w) (i st : Nat) (hf : x.f ≤ i) (hi : i ≤ line.size) (ha : a + x.f < 1000000000) (hn : x.ws.length < 1000000) :
    Calls Tryd.prog 33 #[.pointer (some ⟨b, 0, none⟩), .int .i64 (i : Int), .int .i64 (st : Int)] w fun e w' => e = .returned (.tuple #[]) ∧ Ct b line a (leaveC (tl line) a i st x) w' ∧ Fr b w w' := by
  obtain ⟨wv, sv, h0⟩ := h
  have hz3 : w.cell? ⟨b, 3, none⟩ = some (.int .i64 (x.k : Int)) := by rw [cell_heap h0.blk]; rfl
  have hz0 : w.cell? ⟨b, 0, none⟩ = some (.string line) := by rw [cell_heap h0.blk]; rfl
  have hz4 : w.cell? ⟨b, 4, none⟩ = some (.int .i64 (x.f : Int)) := by rw [cell_heap h0.blk]; rfl
  have H := hid h0
  clear h0
  unfold leaveC
  by_cases hk : x.k = 1
  · rw [if_pos hk]
    have hkI : ((x.k : Int) == 1) = true := by simp [hk]
    go_enter Tryd.func33, Tryd.ntmps33
    go_upto_region 1 with fail
    refine regy1 b (x.f : Int) (i : Int) (st : Int) line (line.extract x.f i)
      (fun _ W => G w W) (fun r W => r 1 = .tuple #[] ∧ Ct b line a (layC x a 0 (((tl line).drop x.f).take (i - x.f)) st) W ∧ Fr b w W)
      (fun W => W.cell? ⟨b, 0, none⟩ = some (.string line) ∧ W.cell? ⟨b, 4, none⟩ = some (.int .i64 (x.f : Int))) _ w rfl rfl rfl rfl (fun W => slice_text line _ _ hf hi W) ?b0 ?c1 (fun _ q => q.1) (fun _ q => q.2) ?st ?fin
    case b0 =>
      intro _ W q
      exact ⟨q.cell (p := ⟨b, 0, none⟩) H.out.lt ▸ hz0, q.cell (p := ⟨b, 4, none⟩) H.out.lt ▸ hz4⟩
    case c1 =>
      intro r W q
      refine (lay_any ⟨wv, sv, H.out.up q⟩ 0 st (line.extract x.f i) ha hn).mono ?_
      rintro e w' ⟨rfl, h1, h2⟩
      rw [tl_extract] at h1
      exact ⟨_, rfl, ups_same _ _ _, h1, (Fr.of_g q (by have := H.out.lt; omega)).trans h2⟩
    case st => exact fun _ => G.drew w
    case fin =>
      rintro r W ⟨hr, ⟨wv1, sv1, h1⟩, h2⟩
      rw [foldy1, hr]
      have hc3 : W.cell? ⟨b, 3, none⟩ = some (.int .i64 ((layC x a 0 (((tl line).drop x.f).take (i - x.f)) st).k : Int)) := by rw [cell_heap h1.blk]; rfl
      have hf3 : W.frozen? ⟨b, 3, none⟩ = false := by simp [World.frozen?, h1.blk]
      have HF := hid (⟨h1, h2⟩ : _ ∧ _)
      clear h1 h2 hz3 hz0 hz4 hr
      go_simp
      go_wp2
      go_end0
      obtain ⟨h1, h2⟩ := HF.out
      have hk := Kp.set W b 3 (.int .i64 (st : Int))
      exact ⟨rfl, ⟨_, _, h1.set hk rfl rfl (by rw [heap_setCell_at _ h1.blk]; rfl)⟩, h2.trans (h1.frb hk)⟩
  · rw [if_neg hk]
    have hkI : ((x.k : Int) == 1) = false := by simp; omega
    have hf3 : w.frozen? ⟨b, 3, none⟩ = false := by simp [World.frozen?, H.out.blk]
    go_enter Tryd.func33, Tryd.ntmps33
    go_wp2
    go_end0
    have h1 := H.out
    have hk := Kp.set w b 3 (.int .i64 (st : Int))
    exact ⟨rfl, ⟨_, _, h1.set (y := { x with k := st }) hk rfl rfl (by rw [heap_setCell_at _ h1.blk]; rfl)⟩, h1.frb hk⟩
end Go.Proofs.YtfigneaaeakbcaaDoor
