/-
  A CUTTER'S STEPS: a digit of an escape.
-/
import Derived.Test.YtfigneaaeakbcaaDoorCx
namespace Go.Proofs.YtfigneaaeakbcaaDoor
open Go.RowKit Hm
attribute [local go_sem] Oper.semAt_some


theorem fl_bc : ∀ s : By, fl (s.map bc) = s.map fun c => Value.int .u8 (c.toNat : Int)
  | [] => rfl
  | c :: s => by rw [List.map_cons, fl_cons, fl_bc s]; rfl
theorem sh4 (l : UInt8) : IntKind.u8.wrap ((l.toNat : Int) * 16) = ((l <<< 4).toNat : Int) := by
  have h : ∀ l : UInt8, IntKind.u8.wrap ((l.toNat : Int) * 16) = ((l <<< 4).toNat : Int) := by
    intro l
    rw [UInt8.toNat_shiftLeft]
    simp [IntKind.wrap, IntKind.signed, IntKind.bits, Nat.shiftLeft_eq]
  exact h l
theorem or8 (x y : UInt8) : bits BinOp.or IntKind.u8 (x.toNat : Int) (y.toNat : Int) = ((x ||| y).toNat : Int) := by
  have hx := x.toNat_lt
  have hy := y.toNat_lt
  have hz := (x ||| y).toNat_lt
  rw [UInt8.toNat_or] at hz ⊢
  exact u8_or_nat _ _ (by omega) (by omega)
theorem backy4 : backB (opsAt Tryd.f31 4) = true := by kernel_rfl
theorem dsty4 : dstB (opsAt Tryd.f31 4) 49 = true := by kernel_rfl
theorem sizey4 : (opsAt Tryd.f31 4).size = 17 := by kernel_rfl
theorem freey40 : freeB (opsAt Tryd.f31 4) 0 = true := by kernel_rfl
theorem freey44 : freeB (opsAt Tryd.f31 4) 4 = true := by kernel_rfl
theorem freey46 : freeB (opsAt Tryd.f31 4) 6 = true := by kernel_rfl
theorem sy4_0 : say (opsAt Tryd.f31 4) 0 = some (some 22, .move (.tmp 0), none) := by kernel_rfl
theorem dy4_0 : slotB (opsAt Tryd.f31 4) 0 = some 22 := by kernel_rfl
theorem sy4_1 : say (opsAt Tryd.f31 4) 1 = some (some 23, .nilCheck (.tmp 22), none) := by kernel_rfl
theorem dy4_1 : slotB (opsAt Tryd.f31 4) 1 = some 23 := by kernel_rfl
theorem sy4_2 : say (opsAt Tryd.f31 4) 2 = some (some 24, .fieldAddr 75 (.tmp 23) 5, none) := by kernel_rfl
theorem dy4_2 : slotB (opsAt Tryd.f31 4) 2 = some 24 := by kernel_rfl
theorem sy4_3 : say (opsAt Tryd.f31 4) 3 = some (some 25, .load 73 (.tmp 24), none) := by kernel_rfl
theorem dy4_3 : slotB (opsAt Tryd.f31 4) 3 = some 25 := by kernel_rfl
theorem sy4_4 : say (opsAt Tryd.f31 4) 4 = some (some 26, .move (.tmp 6), none) := by kernel_rfl
theorem dy4_4 : slotB (opsAt Tryd.f31 4) 4 = some 26 := by kernel_rfl
theorem sy4_5 : say (opsAt Tryd.f31 4) 5 = some (some 27, .move (.tmp 0), none) := by kernel_rfl
theorem dy4_5 : slotB (opsAt Tryd.f31 4) 5 = some 27 := by kernel_rfl
theorem sy4_6 : say (opsAt Tryd.f31 4) 6 = some (some 28, .nilCheck (.tmp 27), none) := by kernel_rfl
theorem dy4_6 : slotB (opsAt Tryd.f31 4) 6 = some 28 := by kernel_rfl
theorem sy4_7 : say (opsAt Tryd.f31 4) 7 = some (some 29, .fieldAddr 75 (.tmp 28) 5, none) := by kernel_rfl
theorem dy4_7 : slotB (opsAt Tryd.f31 4) 7 = some 29 := by kernel_rfl
theorem sy4_8 : say (opsAt Tryd.f31 4) 8 = some (some 30, .load 73 (.tmp 29), none) := by kernel_rfl
theorem dy4_8 : slotB (opsAt Tryd.f31 4) 8 = some 30 := by kernel_rfl
theorem sy4_9 : say (opsAt Tryd.f31 4) 9 = some (some 31, .move (.tmp 6), none) := by kernel_rfl
theorem dy4_9 : slotB (opsAt Tryd.f31 4) 9 = some 31 := by kernel_rfl
theorem sy4_10 : say (opsAt Tryd.f31 4) 10 = some (some 32, .indexAddr 73 (.tmp 30) (.tmp 31), none) := by kernel_rfl
theorem dy4_10 : slotB (opsAt Tryd.f31 4) 10 = some 32 := by kernel_rfl
theorem sy4_11 : say (opsAt Tryd.f31 4) 11 = some (some 33, .load 5 (.tmp 32), none) := by kernel_rfl
theorem dy4_11 : slotB (opsAt Tryd.f31 4) 11 = some 33 := by kernel_rfl
theorem sy4_12 : say (opsAt Tryd.f31 4) 12 = some (some 34, .binOp .shl 5 (.tmp 33) (.const (.int .u64 4)) 101, none) := by kernel_rfl
theorem dy4_12 : slotB (opsAt Tryd.f31 4) 12 = some 34 := by kernel_rfl
theorem sy4_13 : say (opsAt Tryd.f31 4) 13 = some (some 35, .move (.tmp 4), none) := by kernel_rfl
theorem dy4_13 : slotB (opsAt Tryd.f31 4) 13 = some 35 := by kernel_rfl
theorem sy4_14 : say (opsAt Tryd.f31 4) 14 = some (some 36, .binOp .or 5 (.tmp 34) (.tmp 35) 5, none) := by kernel_rfl
theorem dy4_14 : slotB (opsAt Tryd.f31 4) 14 = some 36 := by kernel_rfl
theorem sy4_15 : say (opsAt Tryd.f31 4) 15 = some (some 37, .indexAddr 73 (.tmp 25) (.tmp 26), none) := by kernel_rfl
theorem dy4_15 : slotB (opsAt Tryd.f31 4) 15 = some 37 := by kernel_rfl
theorem sy4_16 : say (opsAt Tryd.f31 4) 16 = some (none, .store 5 (.tmp 37) (.tmp 36), none) := by kernel_rfl
def Vy4 (b g m cap : Nat) (l d s1 s2 : Int) (_r : Nat → Value) : Nat → Value
  | 0 => .pointer (some ⟨b, 0, none⟩)
  | 1 => .pointer (some ⟨b, 0, none⟩)
  | 2 => .pointer (some ⟨b, 5, none⟩)
  | 3 => .slice (some ⟨g, 0, none⟩) (m + 1) cap
  | 4 => .int .i64 (m : Int)
  | 5 => .pointer (some ⟨b, 0, none⟩)
  | 6 => .pointer (some ⟨b, 0, none⟩)
  | 7 => .pointer (some ⟨b, 5, none⟩)
  | 8 => .slice (some ⟨g, 0, none⟩) (m + 1) cap
  | 9 => .int .i64 (m : Int)
  | 10 => .pointer (some ⟨g, m, none⟩)
  | 11 => .int .u8 l
  | 12 => .int .u8 s1
  | 13 => .int .u8 d
  | 14 => .int .u8 s2
  | 15 => .pointer (some ⟨g, m, none⟩)
  | 16 => undef
  | _ => undef
set_option maxHeartbeats 8000000 in
set_option maxRecDepth 100000 in
theorem regy4 (b g m cap : Nat) (l d s1 s2 : Int) (F0 F1 : (Nat → Value) → World → Prop) (B : World → Prop)  (t0 : Array Value) (wr : World) {Q : Exit → Act → World → Prop} (ht : t0.size = 49) (h0 : t0.getD 0 undef = .pointer (some ⟨b, 0, none⟩)) (h4 : t0.getD 4 undef = .int .u8 d) (h6 : t0.getD 6 undef = .int .i64 (m : Int))
    (hix : ¬ (m : Int) + 1 ≤ m) (hsh : IntKind.u8.wrap (l * 16) = s1) (hor : bits BinOp.or IntKind.u8 s1 d = s2)
    (hb0 : ∀ r w, F0 r w → B w)
    (hw1 : ∀ r w, F0 r w → (∃ o, w.cell? ⟨g, m, none⟩ = some o) ∧ w.frozen? ⟨g, m, none⟩ = false ∧ F1 r (w.setCell ⟨g, m, none⟩ (.int .u8 s2)))
    (hl3 : ∀ w, B w → w.cell? ⟨b, 5, none⟩ = some (.slice (some ⟨g, 0, none⟩) (m + 1) cap))
    (hl8 : ∀ w, B w → w.cell? ⟨b, 5, none⟩ = some (.slice (some ⟨g, 0, none⟩) (m + 1) cap))
    (hl11 : ∀ w, B w → w.cell? ⟨g, m, none⟩ = some (.int .u8 l))
    (hst0 : ∀ r, F0 r wr.drew)
    (hQ : ∀ r w, F1 r w → Q .normal ⟨fold (opsAt Tryd.f31 4) (Vy4 b g m cap l d s1 s2 r) t0 17, []⟩ w) : (Code.region 4 (opsAt Tryd.f31 4) true).wp Tryd.prog Q ⟨t0, []⟩ wr := by
  have hB : dstB (opsAt Tryd.f31 4) t0.size = true := by rw [ht]; exact dsty4
  have hBB : ∀ r done w, MC F0 [] r done w → B w := fun r done w h => MC.base hb0 (by intro x h; cases h) h
  refine inv_region (by kernel_rfl) (IE (opsAt Tryd.f31 4) (Vy4 b g m cap l d s1 s2) t0 (MC F0 [(16, F1)] )) backy4 ⟨(fun _ => undef), t0, rfl, ⟨rfl, fun _ _ => rfl, fun _ _ _ _ _ h => by cases h⟩, MC.start (hst0 _)⟩ ?_ ?_
  rotate_left 1
  · rintro done a w ⟨r, t, rfl, hS, hM⟩ hall
    rw [hS.end hB hall, sizey4]
    exact hQ r w (MC.get (hall 16 (by rw [sizey4]; decide)) [] (by simp) hM)
  · rintro jz op done a w ho ⟨r, t, rfl, hS, hM⟩ hnd hdep hcl
    have e0 : t[0]?.getD undef = .pointer (some ⟨b, 0, none⟩) := (hS.old freey40).trans h0
    have e4 : t[4]?.getD undef = .int .u8 d := (hS.old freey44).trans h4
    have e6 : t[6]?.getD undef = .int .i64 (m : Int) := (hS.old freey46).trans h6
    have hlt : jz < 17 := by rw [← sizey4]; exact (Array.getElem?_eq_some_iff.1 ho).1
    match jz, hlt, ho, hnd, hdep with
    | 0, _, ho, hnd, hdep =>
      obtain ⟨hd, hop, hgd⟩ := say_of sy4_0 ho
      refine ie_val r hB ho (wanted_none hgd) hd hS (hM.step (by rfl)) ?_
      unfold execOp
      simp only [hop]
      simp [e0, Vy4, go_sem]
    | 1, _, ho, hnd, hdep =>
      obtain ⟨hd, hop, hgd⟩ := say_of sy4_1 ho
      have x22 : t[22]?.getD undef = _ := hS.at dy4_0 (waits (j := 0) (by kernel_rfl) ho hdep)
      simp only [Vy4] at x22
      refine ie_val r hB ho (wanted_none hgd) hd hS (hM.step (by rfl)) ?_
      unfold execOp
      simp only [hop]
      simp [x22, Vy4, go_sem]
    | 2, _, ho, hnd, hdep =>
      obtain ⟨hd, hop, hgd⟩ := say_of sy4_2 ho
      have x23 : t[23]?.getD undef = _ := hS.at dy4_1 (waits (j := 1) (by kernel_rfl) ho hdep)
      simp only [Vy4] at x23
      refine ie_val r hB ho (wanted_none hgd) hd hS (hM.step (by rfl)) ?_
      unfold execOp
      simp only [hop]
      simp [x23, Vy4, go_sem]
    | 3, _, ho, hnd, hdep =>
      obtain ⟨hd, hop, hgd⟩ := say_of sy4_3 ho
      have x24 : t[24]?.getD undef = _ := hS.at dy4_2 (waits (j := 2) (by kernel_rfl) ho hdep)
      simp only [Vy4] at x24
      have ny16 : done 16 = false := not_yet (k := 3) (j := 16) (by kernel_rfl) hcl hnd
      have cz := hl3 w (hBB _ _ _ (MC.cut [(16, F1)] (by simp [ny16]) hM))
      refine ie_val r hB ho (wanted_none hgd) hd hS (hM.step (by rfl)) ?_
      unfold execOp
      simp only [hop]
      simp [x24, Vy4, cz, go_sem]
    | 4, _, ho, hnd, hdep =>
      obtain ⟨hd, hop, hgd⟩ := say_of sy4_4 ho
      refine ie_val r hB ho (wanted_none hgd) hd hS (hM.step (by rfl)) ?_
      unfold execOp
      simp only [hop]
      simp [e6, Vy4, go_sem]
    | 5, _, ho, hnd, hdep =>
      obtain ⟨hd, hop, hgd⟩ := say_of sy4_5 ho
      refine ie_val r hB ho (wanted_none hgd) hd hS (hM.step (by rfl)) ?_
      unfold execOp
      simp only [hop]
      simp [e0, Vy4, go_sem]
    | 6, _, ho, hnd, hdep =>
      obtain ⟨hd, hop, hgd⟩ := say_of sy4_6 ho
      have x27 : t[27]?.getD undef = _ := hS.at dy4_5 (waits (j := 5) (by kernel_rfl) ho hdep)
      simp only [Vy4] at x27
      refine ie_val r hB ho (wanted_none hgd) hd hS (hM.step (by rfl)) ?_
      unfold execOp
      simp only [hop]
      simp [x27, Vy4, go_sem]
    | 7, _, ho, hnd, hdep =>
      obtain ⟨hd, hop, hgd⟩ := say_of sy4_7 ho
      have x28 : t[28]?.getD undef = _ := hS.at dy4_6 (waits (j := 6) (by kernel_rfl) ho hdep)
      simp only [Vy4] at x28
      refine ie_val r hB ho (wanted_none hgd) hd hS (hM.step (by rfl)) ?_
      unfold execOp
      simp only [hop]
      simp [x28, Vy4, go_sem]
    | 8, _, ho, hnd, hdep =>
      obtain ⟨hd, hop, hgd⟩ := say_of sy4_8 ho
      have x29 : t[29]?.getD undef = _ := hS.at dy4_7 (waits (j := 7) (by kernel_rfl) ho hdep)
      simp only [Vy4] at x29
      have ny16 : done 16 = false := not_yet (k := 8) (j := 16) (by kernel_rfl) hcl hnd
      have cz := hl8 w (hBB _ _ _ (MC.cut [(16, F1)] (by simp [ny16]) hM))
      refine ie_val r hB ho (wanted_none hgd) hd hS (hM.step (by rfl)) ?_
      unfold execOp
      simp only [hop]
      simp [x29, Vy4, cz, go_sem]
    | 9, _, ho, hnd, hdep =>
      obtain ⟨hd, hop, hgd⟩ := say_of sy4_9 ho
      refine ie_val r hB ho (wanted_none hgd) hd hS (hM.step (by rfl)) ?_
      unfold execOp
      simp only [hop]
      simp [e6, Vy4, go_sem]
    | 10, _, ho, hnd, hdep =>
      obtain ⟨hd, hop, hgd⟩ := say_of sy4_10 ho
      have x30 : t[30]?.getD undef = _ := hS.at dy4_8 (waits (j := 8) (by kernel_rfl) ho hdep)
      simp only [Vy4] at x30
      have x31 : t[31]?.getD undef = _ := hS.at dy4_9 (waits (j := 9) (by kernel_rfl) ho hdep)
      simp only [Vy4] at x31
      refine ie_val r hB ho (wanted_none hgd) hd hS (hM.step (by rfl)) ?_
      unfold execOp
      simp only [hop]
      simp [x30, x31, Vy4, hix, go_sem]
    | 11, _, ho, hnd, hdep =>
      obtain ⟨hd, hop, hgd⟩ := say_of sy4_11 ho
      have x32 : t[32]?.getD undef = _ := hS.at dy4_10 (waits (j := 10) (by kernel_rfl) ho hdep)
      simp only [Vy4] at x32
      have ny16 : done 16 = false := not_yet (k := 11) (j := 16) (by kernel_rfl) hcl hnd
      have cz := hl11 w (hBB _ _ _ (MC.cut [(16, F1)] (by simp [ny16]) hM))
      refine ie_val r hB ho (wanted_none hgd) hd hS (hM.step (by rfl)) ?_
      unfold execOp
      simp only [hop]
      simp [x32, Vy4, cz, go_sem]
    | 12, _, ho, hnd, hdep =>
      obtain ⟨hd, hop, hgd⟩ := say_of sy4_12 ho
      have x33 : t[33]?.getD undef = _ := hS.at dy4_11 (waits (j := 11) (by kernel_rfl) ho hdep)
      simp only [Vy4] at x33
      refine ie_val r hB ho (wanted_none hgd) hd hS (hM.step (by rfl)) ?_
      unfold execOp
      simp only [hop]
      simp [x33, Vy4, hsh, go_sem]
    | 13, _, ho, hnd, hdep =>
      obtain ⟨hd, hop, hgd⟩ := say_of sy4_13 ho
      refine ie_val r hB ho (wanted_none hgd) hd hS (hM.step (by rfl)) ?_
      unfold execOp
      simp only [hop]
      simp [e4, Vy4, go_sem]
    | 14, _, ho, hnd, hdep =>
      obtain ⟨hd, hop, hgd⟩ := say_of sy4_14 ho
      have x34 : t[34]?.getD undef = _ := hS.at dy4_12 (waits (j := 12) (by kernel_rfl) ho hdep)
      simp only [Vy4] at x34
      have x35 : t[35]?.getD undef = _ := hS.at dy4_13 (waits (j := 13) (by kernel_rfl) ho hdep)
      simp only [Vy4] at x35
      refine ie_val r hB ho (wanted_none hgd) hd hS (hM.step (by rfl)) ?_
      unfold execOp
      simp only [hop]
      simp [x34, x35, Vy4, hor, go_sem]
    | 15, _, ho, hnd, hdep =>
      obtain ⟨hd, hop, hgd⟩ := say_of sy4_15 ho
      have x25 : t[25]?.getD undef = _ := hS.at dy4_3 (waits (j := 3) (by kernel_rfl) ho hdep)
      simp only [Vy4] at x25
      have x26 : t[26]?.getD undef = _ := hS.at dy4_4 (waits (j := 4) (by kernel_rfl) ho hdep)
      simp only [Vy4] at x26
      refine ie_val r hB ho (wanted_none hgd) hd hS (hM.step (by rfl)) ?_
      unfold execOp
      simp only [hop]
      simp [x25, x26, Vy4, hix, go_sem]
    | 16, _, ho, hnd, hdep =>
      obtain ⟨hd, hop, hgd⟩ := say_of sy4_16 ho
      have x37 : t[37]?.getD undef = _ := hS.at dy4_15 (waits (j := 15) (by kernel_rfl) ho hdep)
      simp only [Vy4] at x37
      have x36 : t[36]?.getD undef = _ := hS.at dy4_14 (waits (j := 14) (by kernel_rfl) ho hdep)
      simp only [Vy4] at x36
      have hF := MC.get0 [(16, F1)] (by simp [hnd]) hM
      obtain ⟨⟨o9, ho9⟩, hf9, hF9⟩ := hw1 r w hF
      refine ie_store (w' := w.setCell ⟨g, m, none⟩ (.int .u8 s2)) r ho (wanted_none hgd) hd hS (MC.put hF9 [] (by simp)) ?_
      unfold execOp
      simp only [hop]
      simp [x37, x36, ho9, hf9, go_sem]
theorem foldy4 (b g m cap : Nat) (l d s1 s2 : Int) (r : Nat → Value) (t0 : Array Value) : fold (opsAt Tryd.f31 4) (Vy4 b g m cap l d s1 s2 r) t0 17 = ((((((((((((((((t0.setIfInBounds 22 (.pointer (some ⟨b, 0, none⟩))).setIfInBounds 23 (.pointer (some ⟨b, 0, none⟩))).setIfInBounds 24 (.pointer (some ⟨b, 5, none⟩))).setIfInBounds 25 (.slice (some ⟨g, 0, none⟩) (m + 1) cap)).setIfInBounds 26 (.int .i64 (m : Int))).setIfInBounds 27 (.pointer (some ⟨b, 0, none⟩))).setIfInBounds 28 (.pointer (some ⟨b, 0, none⟩))).setIfInBounds 29 (.pointer (some ⟨b, 5, none⟩))).setIfInBounds 30 (.slice (some ⟨g, 0, none⟩) (m + 1) cap)).setIfInBounds 31 (.int .i64 (m : Int))).setIfInBounds 32 (.pointer (some ⟨g, m, none⟩))).setIfInBounds 33 (.int .u8 l)).setIfInBounds 34 (.int .u8 s1)).setIfInBounds 35 (.int .u8 d)).setIfInBounds 36 (.int .u8 s2)).setIfInBounds 37 (.pointer (some ⟨g, m, none⟩))) := by kernel_rfl

set_option maxRecDepth 100000 in
set_option maxHeartbeats 4000000 in
theorem dig_any {b : Nat} {line : ByteArray} {a : Nat} {x : Cs} {w : World} (h : Ct b line a x w) (c : Nat) (hc : c < 2147483648) (hne : x.s ≠ []) (ha : a + x.f < 1000000000) (hn : x.ws.length < 1000000) (hs : x.s.length < 1000000) :
    Calls Tryd.prog 31 #[.pointer (some ⟨b, 0, none⟩), .int .i32 (c : Int)] w fun e w' => e = .returned (.tuple #[]) ∧ Ct b line a (digC a c x) w' ∧ Fr b w w' := by
  have H := hid h
  have C1 := digit_any c hc w
  unfold digC
  cases hd : dig c with
  | none =>
    rw [hd] at C1
    have C1 := hid C1
    have C2 := hid (spoil_any h ha hn)
    clear h hd
    go_enter Tryd.func31, Tryd.ntmps31
    go_wp2_with (first
      | (go_at_call 45; refine C1.out.mono ?_; rintro e w1 ⟨rfl, rfl⟩)
      | (go_at_call 34; refine C2.out.mono ?_; rintro e w1 ⟨rfl, h1, h2⟩; have H1 := hid (⟨h1, h2⟩ : _ ∧ _); clear h1 h2))
    refine bodyPost_ret (results_none rfl _ _ _) rfl ?_
    exact ⟨rfl, H1.out⟩
  | some d =>
    rw [hd] at C1
    have C1 := hid C1
    obtain ⟨s0, l, hsl⟩ : ∃ m b, x.s = m ++ [b] := ⟨x.s.dropLast, x.s.getLast hne, (List.dropLast_concat_getLast hne).symm⟩
    have hd16 := dig_lt hd
    obtain ⟨v5, hz5, _, ho5⟩ := h.c5
    obtain ⟨hz3, hf3⟩ := h.c3
    rw [hsl] at ho5
    obtain ⟨g, cap, cur, rfl, hg, hh, hnc, hmc, hcs, htk⟩ : ∃ g cap cur, v5 = .slice (some ⟨g, 0, none⟩) (s0.length + 1) cap ∧ b + 1 ≤ g ∧ w.heap[g]? = some (.cells cur 5 (0, 0)) ∧ s0.length + 1 ≤ cap ∧ cap ≤ maxLen ∧ cur.size = cap * 1 ∧ cur.toList.take ((s0.length + 1) * 1) = fl ((s0 ++ [l]).map bc) := by
      obtain ⟨_, ⟨_, h0⟩ | ⟨g, cap, cur, e, hr⟩⟩ := ho5.own
      · simp at h0
      · simp only [List.length_map, List.length_append, List.length_singleton] at e hr
        exact ⟨g, cap, cur, e, hr⟩
    have hlc : w.cell? ⟨g, s0.length, none⟩ = some (.int .u8 (l.toNat : Int)) := by
      have := ho5.own.cells (g := g) rfl s0.length (.int .u8 (l.toNat : Int)) (by
        have := fl_at (s := 1) (L := (s0 ++ [l]).map bc) (by intro y hy; obtain ⟨c, _, rfl⟩ := List.mem_map.1 hy; rfl) (i := s0.length) (x := bc l) (j := 0) (by simp) (by omega)
        rw [Nat.mul_one, Nat.add_zero] at this
        rw [this]; rfl)
      rw [Addr.add_mid, Nat.zero_add] at this
      exact this
    have hml : s0.length < 1000000 := by rw [hsl] at hs; simp at hs; omega
    generalize hm : s0.length = m at *
    have hw6 : wrap64 (m : Int) = (m : Int) := by unfold wrap64; omega
    have hfz : w.frozen? ⟨g, m, none⟩ = false := by simp [World.frozen?, hh]
    have i3 : ¬ (m + 1 ≤ m) := by omega
    have H5 := hid (⟨ho5, hh, hg, hsl, hd16, hm⟩ : _ ∧ _ ∧ _ ∧ _ ∧ _ ∧ _)
    clear ho5 hh hg hsl hd16 h hd hcs htk hm hne hnc hmc
    go_enter Tryd.func31, Tryd.ntmps31
    have e1 := sh4 l
    have hd8 : ((UInt8.ofNat d).toNat : Int) = (d : Int) := by rw [ofNat_lt _ (by have := H5.out.2.2.2.2.1; omega)]
    have e2 := or8 (l <<< 4) (UInt8.ofNat d)
    rw [hd8] at e2
    have hix : ¬ (m : Int) + 1 ≤ m := by omega
    generalize hq : (l <<< 4 ||| UInt8.ofNat d) = q at *
    go_upto_region 4 with (go_at_call 45; refine C1.out.mono ?_; rintro e w1 ⟨rfl, rfl⟩)
    have H5 : Hid _ := H5
    refine regy4 b g m cap (l.toNat : Int) (d : Int) _ (q.toNat : Int)
      (fun _ W => G w1 W) (fun _ W => Ct b line a { x with s := s0 ++ [q] } W ∧ Fr b w1 W)
      (fun W => W.cell? ⟨b, 5, none⟩ = some (.slice (some ⟨g, 0, none⟩) (m + 1) cap) ∧ W.cell? ⟨g, m, none⟩ = some (.int .u8 (l.toNat : Int))) _ w1 rfl rfl rfl rfl (by omega) e1 e2 ?b0 ?c1 (fun _ q => q.1) (fun _ q => q.1) (fun _ q => q.2) ?st ?fin
    case b0 =>
      intro _ W k
      exact ⟨k.cell (p := ⟨b, 5, none⟩) H.out.lt ▸ hz5, k.cell (p := ⟨g, m, none⟩) (World.block_lt_of_cell? _ _ hlc) ▸ hlc⟩
    case c1 =>
      intro r W k
      obtain ⟨wv, sv, h⟩ := H.out.up k
      have hsv : sv = .slice (some ⟨g, 0, none⟩) (m + 1) cap := by
        have t1 : W.cell? ⟨b, 5, none⟩ = some sv := by rw [cell_heap h.blk]; rfl
        have t2 : W.cell? ⟨b, 5, none⟩ = some (.slice (some ⟨g, 0, none⟩) (m + 1) cap) := k.cell (p := ⟨b, 5, none⟩) H.out.lt ▸ hz5
        rw [t1] at t2
        exact Option.some.inj t2
      subst hsv
      obtain ⟨_, hh, hg, hsl, _, hm⟩ := H5.out
      have hhW := (k.block g (Array.getElem?_eq_some_iff.1 hh).1).trans hh
      have hsy := h.sy.own
      rw [hsl] at hsy
      simp only [List.length_map, List.length_append, List.length_singleton, hm] at hsy
      obtain ⟨o1, o2⟩ := hsy.stored m (.int .u8 (q.toNat : Int))
      have hset := Kp.set W g m (.int .u8 (q.toNat : Int))
      refine ⟨⟨_, k.cell (p := ⟨g, m, none⟩) (World.block_lt_of_cell? _ _ hlc) ▸ hlc⟩, by simp [World.frozen?, hhW], ⟨wv, .slice (some ⟨g, 0, none⟩) (m + 1) cap, ?_, ?_, ?_⟩, ?_⟩
      · rw [hset.block b h.lt (by omega)]; exact h.blk
      · exact h.ws.block fun g' e => hset.block g' (h.ws.lt g' e).2 (fun e2 => own_apart h.ws h.sy (by decide) e (by rw [e2]; rfl))
      · refine ⟨?_, fun y hy => ?_⟩
        · have hl : ((s0 ++ [q]).map bc).length = m + 1 := by simp [hm]
          rw [hl, fl_bc]
          rw [fl_bc] at o1
          have he : ((s0 ++ [l]).map fun c => Value.int .u8 (c.toNat : Int)).set m (.int .u8 (q.toNat : Int)) = (s0 ++ [q]).map fun c => Value.int .u8 (c.toNat : Int) := by
            rw [← hm]; simp
          rw [he] at o1
          exact o1
        · obtain ⟨c, _, rfl⟩ := List.mem_map.1 hy
          rfl
      · exact (Fr.of_g k (by have := H.out.lt; omega)).trans (Kp.fr hset (by have := h.lt; omega) fun g' e => by
          have e : g' = g := e
          subst e
          exact ⟨by omega, fun _ => ⟨_, _, _, hhW⟩⟩)
    case st => exact fun _ => G.drew w1
    case fin =>
      rintro r W ⟨h1, h2⟩
      rw [foldy4]
      obtain ⟨c3, f3⟩ := h1.c3
      have H1 := hid (⟨h1, h2⟩ : _ ∧ _)
      have HQ := hid hq
      clear h1 h2 hz5 hlc hfz hz3 hf3 hq e1 e2
      simp only at c3
      by_cases hk : x.k = 4
      · have hkI : ((x.k : Int) == 4) = true := by simp [hk]
        go_simp
        go_wp2
        go_end0
        have := H1.out.1.set3 5
        rw [H5.out.2.2.2.1, show lastU (s0 ++ [l]) d = s0 ++ [q] from by rw [← HQ.out]; unfold lastU; rw [List.dropLast_concat, List.getLastD_concat]]
        exact ⟨rfl, this.1, H1.out.2.trans this.2⟩
      · have hkI : ((x.k : Int) == 4) = false := by simp; omega
        go_simp
        go_wp2
        go_end0
        have := H1.out.1.set3 2
        rw [H5.out.2.2.2.1, show lastU (s0 ++ [l]) d = s0 ++ [q] from by rw [← HQ.out]; unfold lastU; rw [List.dropLast_concat, List.getLastD_concat]]
        exact ⟨rfl, this.1, H1.out.2.trans this.2⟩
end Go.Proofs.YtfigneaaeakbcaaDoor
