/-
  THE REFERENCE's SETUP: a line's words are put behind those that have come.
-/
import Derived.Test.YtfigneaaeakbcaaDoorUg
namespace Go.Proofs.YtfigneaaeakbcaaDoor
open Go.RowKit Hm
attribute [local go_sem] Oper.semAt_some

theorem backh8 : backB (opsAt Tryd.f4 8) = true := by kernel_rfl
theorem dsth8 : dstB (opsAt Tryd.f4 8) 88 = true := by kernel_rfl
theorem sizeh8 : (opsAt Tryd.f4 8).size = 14 := by kernel_rfl
theorem freeh84 : freeB (opsAt Tryd.f4 8) 4 = true := by kernel_rfl
theorem freeh85 : freeB (opsAt Tryd.f4 8) 5 = true := by kernel_rfl
theorem freeh86 : freeB (opsAt Tryd.f4 8) 6 = true := by kernel_rfl
theorem sh8_0 : say (opsAt Tryd.f4 8) 0 = some (some 27, .move (.tmp 4), none) := by kernel_rfl
theorem dh8_0 : slotB (opsAt Tryd.f4 8) 0 = some 27 := by kernel_rfl
theorem sh8_1 : say (opsAt Tryd.f4 8) 1 = some (some 28, .move (.tmp 4), none) := by kernel_rfl
theorem dh8_1 : slotB (opsAt Tryd.f4 8) 1 = some 28 := by kernel_rfl
theorem sh8_2 : say (opsAt Tryd.f4 8) 2 = some (some 29, .nilCheck (.tmp 28), none) := by kernel_rfl
theorem dh8_2 : slotB (opsAt Tryd.f4 8) 2 = some 29 := by kernel_rfl
theorem sh8_3 : say (opsAt Tryd.f4 8) 3 = some (some 30, .fieldAddr 41 (.tmp 29) 0, none) := by kernel_rfl
theorem dh8_3 : slotB (opsAt Tryd.f4 8) 3 = some 30 := by kernel_rfl
theorem sh8_4 : say (opsAt Tryd.f4 8) 4 = some (some 31, .load 39 (.tmp 30), none) := by kernel_rfl
theorem dh8_4 : slotB (opsAt Tryd.f4 8) 4 = some 31 := by kernel_rfl
theorem sh8_5 : say (opsAt Tryd.f4 8) 5 = some (some 32, .move (.tmp 5), none) := by kernel_rfl
theorem dh8_5 : slotB (opsAt Tryd.f4 8) 5 = some 32 := by kernel_rfl
theorem sh8_6 : say (opsAt Tryd.f4 8) 6 = some (some 33, .move (.tmp 6), none) := by kernel_rfl
theorem dh8_6 : slotB (opsAt Tryd.f4 8) 6 = some 33 := by kernel_rfl
theorem sh8_7 : say (opsAt Tryd.f4 8) 7 = some (some 34, .indexAddr 42 (.tmp 32) (.tmp 33), none) := by kernel_rfl
theorem dh8_7 : slotB (opsAt Tryd.f4 8) 7 = some 34 := by kernel_rfl
theorem sh8_8 : say (opsAt Tryd.f4 8) 8 = some (some 35, .fieldAddr 45 (.tmp 34) 0, none) := by kernel_rfl
theorem dh8_8 : slotB (opsAt Tryd.f4 8) 8 = some 35 := by kernel_rfl
theorem sh8_9 : say (opsAt Tryd.f4 8) 9 = some (some 36, .load 39 (.tmp 35), none) := by kernel_rfl
theorem dh8_9 : slotB (opsAt Tryd.f4 8) 9 = some 36 := by kernel_rfl
theorem sh8_10 : say (opsAt Tryd.f4 8) 10 = some (some 37, .call { callee := .builtin .append, args := #[.tmp 31, .tmp 36], argTypes := #[39, 39] }, none) := by kernel_rfl
theorem dh8_10 : slotB (opsAt Tryd.f4 8) 10 = some 37 := by kernel_rfl
theorem sh8_11 : say (opsAt Tryd.f4 8) 11 = some (some 38, .nilCheck (.tmp 27), none) := by kernel_rfl
theorem dh8_11 : slotB (opsAt Tryd.f4 8) 11 = some 38 := by kernel_rfl
theorem sh8_12 : say (opsAt Tryd.f4 8) 12 = some (some 39, .fieldAddr 41 (.tmp 38) 0, none) := by kernel_rfl
theorem dh8_12 : slotB (opsAt Tryd.f4 8) 12 = some 39 := by kernel_rfl
theorem sh8_13 : say (opsAt Tryd.f4 8) 13 = some (none, .store 39 (.tmp 39) (.tmp 37), none) := by kernel_rfl
def Vh8 (c wn wk g o ln lk i vn vc : Nat) (wa va : Option Addr) (r : Nat → Value) : Nat → Value
  | 0 => .pointer (some ⟨c, 0, none⟩)
  | 1 => .pointer (some ⟨c, 0, none⟩)
  | 2 => .pointer (some ⟨c, 0, none⟩)
  | 3 => .pointer (some ⟨c, 0, none⟩)
  | 4 => .slice wa wn wk
  | 5 => .slice (some ⟨g, o, none⟩) ln lk
  | 6 => .int .i64 (i : Int)
  | 7 => .pointer (some ⟨g, o + i * 2, none⟩)
  | 8 => .pointer (some ⟨g, o + i * 2, none⟩)
  | 9 => .slice va vn vc
  | 10 => (r 1)
  | 11 => .pointer (some ⟨c, 0, none⟩)
  | 12 => .pointer (some ⟨c, 0, none⟩)
  | 13 => undef
  | _ => undef
set_option maxHeartbeats 8000000 in
set_option maxRecDepth 100000 in
theorem regh8 (c wn wk g o ln lk i vn vc : Nat) (wa va : Option Addr) (F0 F1 F2 : (Nat → Value) → World → Prop) (B : World → Prop)  (t0 : Array Value) (wr : World) {Q : Exit → Act → World → Prop} (ht : t0.size = 88) (h4 : t0.getD 4 undef = .pointer (some ⟨c, 0, none⟩)) (h5 : t0.getD 5 undef = .slice (some ⟨g, o, none⟩) ln lk) (h6 : t0.getD 6 undef = .int .i64 (i : Int))
    (hix : ¬ ln ≤ i)
    (hb0 : ∀ r w, F0 r w → B w)
    (ha1 : ∀ r w, F0 r w → ∃ u w', (Builtin.append_ #[39, 39] 39 #[.slice wa wn wk, .slice va vn vc]).run Tryd.prog w = .ok u w' ∧ F1 (ups r 1 u) w')
    (hw2 : ∀ r w, F1 r w → (∃ o, w.cell? ⟨c, 0, none⟩ = some o) ∧ w.frozen? ⟨c, 0, none⟩ = false ∧ (∃ a n k, (r 1) = .slice a n k) ∧ F2 r (w.setCell ⟨c, 0, none⟩ (r 1)))
    (hl4 : ∀ w, B w → w.cell? ⟨c, 0, none⟩ = some (.slice wa wn wk))
    (hl9 : ∀ w, B w → w.cell? ⟨g, o + i * 2, none⟩ = some (.slice va vn vc))
    (hst0 : ∀ r, F0 r wr.drew)
    (hQ : ∀ r w, F2 r w → Q .normal ⟨fold (opsAt Tryd.f4 8) (Vh8 c wn wk g o ln lk i vn vc wa va r) t0 14, []⟩ w) : (Code.region 8 (opsAt Tryd.f4 8) true).wp Tryd.prog Q ⟨t0, []⟩ wr := by
  have hB : dstB (opsAt Tryd.f4 8) t0.size = true := by rw [ht]; exact dsth8
  have hBB : ∀ r done w, MC F0 [] r done w → B w := fun r done w h => MC.base hb0 (by intro x h; cases h) h
  refine inv_region (by kernel_rfl) (IE (opsAt Tryd.f4 8) (Vh8 c wn wk g o ln lk i vn vc wa va) t0 (MC F0 [(13, F2), (10, F1)] )) backh8 ⟨(fun _ => undef), t0, rfl, ⟨rfl, fun _ _ => rfl, fun _ _ _ _ _ h => by cases h⟩, MC.start (hst0 _)⟩ ?_ ?_
  rotate_left 1
  · rintro done a w ⟨r, t, rfl, hS, hM⟩ hall
    rw [hS.end hB hall, sizeh8]
    exact hQ r w (MC.get (hall 13 (by rw [sizeh8]; decide)) [] (by simp) hM)
  · rintro jz op done a w ho ⟨r, t, rfl, hS, hM⟩ hnd hdep hcl
    have e4 : t[4]?.getD undef = .pointer (some ⟨c, 0, none⟩) := (hS.old freeh84).trans h4
    have e5 : t[5]?.getD undef = .slice (some ⟨g, o, none⟩) ln lk := (hS.old freeh85).trans h5
    have e6 : t[6]?.getD undef = .int .i64 (i : Int) := (hS.old freeh86).trans h6
    have hlt : jz < 14 := by rw [← sizeh8]; exact (Array.getElem?_eq_some_iff.1 ho).1
    match jz, hlt, ho, hnd, hdep with
    | 0, _, ho, hnd, hdep =>
      obtain ⟨hd, hop, hgd⟩ := say_of sh8_0 ho
      refine ie_val r hB ho (wanted_none hgd) hd hS (hM.step (by rfl)) ?_
      unfold execOp
      simp only [hop]
      simp [e4, Vh8, go_sem]
    | 1, _, ho, hnd, hdep =>
      obtain ⟨hd, hop, hgd⟩ := say_of sh8_1 ho
      refine ie_val r hB ho (wanted_none hgd) hd hS (hM.step (by rfl)) ?_
      unfold execOp
      simp only [hop]
      simp [e4, Vh8, go_sem]
    | 2, _, ho, hnd, hdep =>
      obtain ⟨hd, hop, hgd⟩ := say_of sh8_2 ho
      have x28 : t[28]?.getD undef = _ := hS.at dh8_1 (waits (j := 1) (by kernel_rfl) ho hdep)
      simp only [Vh8] at x28
      refine ie_val r hB ho (wanted_none hgd) hd hS (hM.step (by rfl)) ?_
      unfold execOp
      simp only [hop]
      simp [x28, Vh8, go_sem]
    | 3, _, ho, hnd, hdep =>
      obtain ⟨hd, hop, hgd⟩ := say_of sh8_3 ho
      have x29 : t[29]?.getD undef = _ := hS.at dh8_2 (waits (j := 2) (by kernel_rfl) ho hdep)
      simp only [Vh8] at x29
      refine ie_val r hB ho (wanted_none hgd) hd hS (hM.step (by rfl)) ?_
      unfold execOp
      simp only [hop]
      simp [x29, Vh8, go_sem]
    | 4, _, ho, hnd, hdep =>
      obtain ⟨hd, hop, hgd⟩ := say_of sh8_4 ho
      have x30 : t[30]?.getD undef = _ := hS.at dh8_3 (waits (j := 3) (by kernel_rfl) ho hdep)
      simp only [Vh8] at x30
      have ny10 : done 10 = false := not_yet (k := 4) (j := 10) (by kernel_rfl) hcl hnd
      have ny13 : done 13 = false := not_yet (k := 4) (j := 13) (by kernel_rfl) hcl hnd
      have cz := hl4 w (hBB _ _ _ (MC.cut [(13, F2), (10, F1)] (by simp [ny10, ny13]) hM))
      refine ie_val r hB ho (wanted_none hgd) hd hS (hM.step (by rfl)) ?_
      unfold execOp
      simp only [hop]
      simp [x30, Vh8, cz, go_sem]
    | 5, _, ho, hnd, hdep =>
      obtain ⟨hd, hop, hgd⟩ := say_of sh8_5 ho
      refine ie_val r hB ho (wanted_none hgd) hd hS (hM.step (by rfl)) ?_
      unfold execOp
      simp only [hop]
      simp [e5, Vh8, go_sem]
    | 6, _, ho, hnd, hdep =>
      obtain ⟨hd, hop, hgd⟩ := say_of sh8_6 ho
      refine ie_val r hB ho (wanted_none hgd) hd hS (hM.step (by rfl)) ?_
      unfold execOp
      simp only [hop]
      simp [e6, Vh8, go_sem]
    | 7, _, ho, hnd, hdep =>
      obtain ⟨hd, hop, hgd⟩ := say_of sh8_7 ho
      have x32 : t[32]?.getD undef = _ := hS.at dh8_5 (waits (j := 5) (by kernel_rfl) ho hdep)
      simp only [Vh8] at x32
      have x33 : t[33]?.getD undef = _ := hS.at dh8_6 (waits (j := 6) (by kernel_rfl) ho hdep)
      simp only [Vh8] at x33
      refine ie_val r hB ho (wanted_none hgd) hd hS (hM.step (by rfl)) ?_
      unfold execOp
      simp only [hop]
      simp [x32, x33, Vh8, hix, go_sem]
    | 8, _, ho, hnd, hdep =>
      obtain ⟨hd, hop, hgd⟩ := say_of sh8_8 ho
      have x34 : t[34]?.getD undef = _ := hS.at dh8_7 (waits (j := 7) (by kernel_rfl) ho hdep)
      simp only [Vh8] at x34
      refine ie_val r hB ho (wanted_none hgd) hd hS (hM.step (by rfl)) ?_
      unfold execOp
      simp only [hop]
      simp [x34, Vh8, go_sem]
    | 9, _, ho, hnd, hdep =>
      obtain ⟨hd, hop, hgd⟩ := say_of sh8_9 ho
      have x35 : t[35]?.getD undef = _ := hS.at dh8_8 (waits (j := 8) (by kernel_rfl) ho hdep)
      simp only [Vh8] at x35
      have ny10 : done 10 = false := not_yet (k := 9) (j := 10) (by kernel_rfl) hcl hnd
      have ny13 : done 13 = false := not_yet (k := 9) (j := 13) (by kernel_rfl) hcl hnd
      have cz := hl9 w (hBB _ _ _ (MC.cut [(13, F2), (10, F1)] (by simp [ny10, ny13]) hM))
      refine ie_val r hB ho (wanted_none hgd) hd hS (hM.step (by rfl)) ?_
      unfold execOp
      simp only [hop]
      simp [x35, Vh8, cz, go_sem]
    | 10, _, ho, hnd, hdep =>
      obtain ⟨hd, hop, hgd⟩ := say_of sh8_10 ho
      have x31 : t[31]?.getD undef = _ := hS.at dh8_4 (waits (j := 4) (by kernel_rfl) ho hdep)
      simp only [Vh8] at x31
      have x36 : t[36]?.getD undef = _ := hS.at dh8_9 (waits (j := 9) (by kernel_rfl) ho hdep)
      simp only [Vh8] at x36
      have ny13 : done 13 = false := not_yet (k := 10) (j := 13) (by kernel_rfl) hcl hnd
      have hF := MC.get0 [(13, F2), (10, F1)] (by simp [hnd, ny13]) hM
      obtain ⟨u9, w9, hr9, hF9⟩ := ha1 r w hF
      have ht9 : op.type = 39 := by have := congrArg (·.map (·.type)) ho; simpa using this.symm.trans (show _ = some 39 from by kernel_rfl)
      refine ie_valL r (ups r 1 u9) w9 hB ho (wanted_none hgd) hd hS (fun k hk => ?_) (MC.put hF9 [(13, F2)] (by simp [ny13])) ?_
      · skip
        have q10 : k ≠ 10 := fun e => by rw [e, hnd] at hk; cases hk
        unfold Vh8
        split <;> first | rfl | exact absurd rfl q10
      · show _ = Result.ok (Next.value (Vh8 c wn wk g o ln lk i vn vc wa va (ups r 1 u9) 10)) _
        simp only [Vh8, ups_same]
        exact exec_app (a := ⟨t, []⟩) (v := .slice wa wn wk) (src := .slice va vn vc) (v' := u9) hop (by show t.getD 31 undef = _; rw [Array.getD_eq_getD_getElem?]; exact x31) (by show t.getD 36 undef = _; rw [Array.getD_eq_getD_getElem?]; exact x36) (by rw [ht9]; exact hr9)
    | 11, _, ho, hnd, hdep =>
      obtain ⟨hd, hop, hgd⟩ := say_of sh8_11 ho
      have x27 : t[27]?.getD undef = _ := hS.at dh8_0 (waits (j := 0) (by kernel_rfl) ho hdep)
      simp only [Vh8] at x27
      refine ie_val r hB ho (wanted_none hgd) hd hS (hM.step (by rfl)) ?_
      unfold execOp
      simp only [hop]
      simp [x27, Vh8, go_sem]
    | 12, _, ho, hnd, hdep =>
      obtain ⟨hd, hop, hgd⟩ := say_of sh8_12 ho
      have x38 : t[38]?.getD undef = _ := hS.at dh8_11 (waits (j := 11) (by kernel_rfl) ho hdep)
      simp only [Vh8] at x38
      refine ie_val r hB ho (wanted_none hgd) hd hS (hM.step (by rfl)) ?_
      unfold execOp
      simp only [hop]
      simp [x38, Vh8, go_sem]
    | 13, _, ho, hnd, hdep =>
      obtain ⟨hd, hop, hgd⟩ := say_of sh8_13 ho
      have x39 : t[39]?.getD undef = _ := hS.at dh8_12 (waits (j := 12) (by kernel_rfl) ho hdep)
      simp only [Vh8] at x39
      have x37 : t[37]?.getD undef = _ := hS.at dh8_10 (waits (j := 10) (by kernel_rfl) ho hdep)
      simp only [Vh8] at x37
      have a10 : done 10 = true := waits (j := 10) (by kernel_rfl) ho hdep
      have hF := MC.get a10 [(13, F2)] (by simp [hnd]) hM
      obtain ⟨⟨o9, ho9⟩, hf9, ⟨a9, n9, k9, e9⟩, hF9⟩ := hw2 r w hF
      refine ie_store (w' := w.setCell ⟨c, 0, none⟩ (r 1)) r ho (wanted_none hgd) hd hS (MC.put hF9 [] (by simp)) ?_
      unfold execOp
      simp only [hop]
      simp [x39, x37, ho9, hf9, e9, go_sem]
theorem foldh8 (c wn wk g o ln lk i vn vc : Nat) (wa va : Option Addr) (r : Nat → Value) (t0 : Array Value) : fold (opsAt Tryd.f4 8) (Vh8 c wn wk g o ln lk i vn vc wa va r) t0 14 = (((((((((((((t0.setIfInBounds 27 (.pointer (some ⟨c, 0, none⟩))).setIfInBounds 28 (.pointer (some ⟨c, 0, none⟩))).setIfInBounds 29 (.pointer (some ⟨c, 0, none⟩))).setIfInBounds 30 (.pointer (some ⟨c, 0, none⟩))).setIfInBounds 31 (.slice wa wn wk)).setIfInBounds 32 (.slice (some ⟨g, o, none⟩) ln lk)).setIfInBounds 33 (.int .i64 (i : Int))).setIfInBounds 34 (.pointer (some ⟨g, o + i * 2, none⟩))).setIfInBounds 35 (.pointer (some ⟨g, o + i * 2, none⟩))).setIfInBounds 36 (.slice va vn vc)).setIfInBounds 37 ((r 1))).setIfInBounds 38 (.pointer (some ⟨c, 0, none⟩))).setIfInBounds 39 (.pointer (some ⟨c, 0, none⟩))) := by kernel_rfl
end Go.Proofs.YtfigneaaeakbcaaDoor
