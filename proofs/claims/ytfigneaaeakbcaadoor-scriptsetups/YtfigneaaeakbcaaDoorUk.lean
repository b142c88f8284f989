/-
  THE REFERENCE's SETUP: a fault is handed on; what an error tells.
-/
import Derived.Test.YtfigneaaeakbcaaDoorUh
namespace Go.Proofs.YtfigneaaeakbcaaDoor
open Go.RowKit Hm
attribute [local go_sem] Oper.semAt_some


theorem backh24 : backB (opsAt Tryd.f4 24) = true := by kernel_rfl
theorem dsth24 : dstB (opsAt Tryd.f4 24) 88 = true := by kernel_rfl
theorem sizeh24 : (opsAt Tryd.f4 24).size = 7 := by kernel_rfl
theorem freeh244 : freeB (opsAt Tryd.f4 24) 4 = true := by kernel_rfl
theorem freeh242 : freeB (opsAt Tryd.f4 24) 2 = true := by kernel_rfl
theorem freeh243 : freeB (opsAt Tryd.f4 24) 3 = true := by kernel_rfl
theorem sh24_0 : say (opsAt Tryd.f4 24) 0 = some (some 81, .build 26 #[], none) := by kernel_rfl
theorem dh24_0 : slotB (opsAt Tryd.f4 24) 0 = some 81 := by kernel_rfl
theorem sh24_1 : say (opsAt Tryd.f4 24) 1 = some (some 82, .move (.tmp 4), none) := by kernel_rfl
theorem dh24_1 : slotB (opsAt Tryd.f4 24) 1 = some 82 := by kernel_rfl
theorem sh24_2 : say (opsAt Tryd.f4 24) 2 = some (some 83, .nilCheck (.tmp 82), none) := by kernel_rfl
theorem dh24_2 : slotB (opsAt Tryd.f4 24) 2 = some 83 := by kernel_rfl
theorem sh24_3 : say (opsAt Tryd.f4 24) 3 = some (some 84, .fieldAddr 41 (.tmp 83) 2, none) := by kernel_rfl
theorem dh24_3 : slotB (opsAt Tryd.f4 24) 3 = some 84 := by kernel_rfl
theorem sh24_4 : say (opsAt Tryd.f4 24) 4 = some (some 85, .load 28 (.tmp 84), none) := by kernel_rfl
theorem dh24_4 : slotB (opsAt Tryd.f4 24) 4 = some 85 := by kernel_rfl
theorem sh24_5 : say (opsAt Tryd.f4 24) 5 = some (none, .store 26 (.tmp 2) (.tmp 81), none) := by kernel_rfl
theorem sh24_6 : say (opsAt Tryd.f4 24) 6 = some (none, .store 28 (.tmp 3) (.tmp 85), none) := by kernel_rfl
def Vh24 (c _S _T : Nat) (Y : Array Value) (_r : Nat → Value) : Nat → Value
  | 0 => .agg #[.int .i64 0, .int .i64 0, .int .i64 0, .int .i64 0, .int .i64 0, .int .i64 0, .int .i64 0]
  | 1 => .pointer (some ⟨c, 0, none⟩)
  | 2 => .pointer (some ⟨c, 0, none⟩)
  | 3 => .pointer (some ⟨c, 2, none⟩)
  | 4 => .agg Y
  | 5 => undef
  | 6 => undef
  | _ => undef
set_option maxHeartbeats 8000000 in
set_option maxRecDepth 100000 in
theorem regh24 (c S T : Nat) (Y : Array Value) (F0 F1 F2 : (Nat → Value) → World → Prop) (B : World → Prop)  (t0 : Array Value) (wr : World) {Q : Exit → Act → World → Prop} (ht : t0.size = 88) (h4 : t0.getD 4 undef = .pointer (some ⟨c, 0, none⟩)) (h2 : t0.getD 2 undef = .pointer (some ⟨S, 0, none⟩)) (h3 : t0.getD 3 undef = .pointer (some ⟨T, 0, none⟩))
    (hY : Y.size = 2) (hY1 : Y.all (·.oneCell') = true) (hZ : (#[.int .i64 0, .int .i64 0, .int .i64 0, .int .i64 0, .int .i64 0, .int .i64 0, .int .i64 0] : Array Value).size = 7)
    (hb0 : ∀ r w, F0 r w → B w) (hb1 : ∀ r w, F1 r w → B w)
    (hw1 : ∀ r w, F0 r w → ∃ old, w.heap[S]? = some (.cells old 26 (0, 0)) ∧ old.size = 7 ∧ F1 r (w.setRow S #[.int .i64 0, .int .i64 0, .int .i64 0, .int .i64 0, .int .i64 0, .int .i64 0, .int .i64 0]))
    (hw2 : ∀ r w, F1 r w → ∃ old, w.heap[T]? = some (.cells old 28 (0, 0)) ∧ old.size = 2 ∧ F2 r (w.setRow T Y))
    (hl4 : ∀ w, B w → Lies w c 2 Y)
    (hst0 : ∀ r, F0 r wr.drew)
    (hQ : ∀ r w, F2 r w → Q .normal ⟨fold (opsAt Tryd.f4 24) (Vh24 c S T Y r) t0 7, []⟩ w) : (Code.region 24 (opsAt Tryd.f4 24) true).wp Tryd.prog Q ⟨t0, []⟩ wr := by
  have hB : dstB (opsAt Tryd.f4 24) t0.size = true := by rw [ht]; exact dsth24
  have hBB : ∀ r done w, MC F0 [(5, F1)] r done w → B w := fun r done w h => MC.base hb0 (by simp only [List.mem_cons, List.not_mem_nil, or_false]; rintro x rfl; assumption) h
  refine inv_region (by kernel_rfl) (IE (opsAt Tryd.f4 24) (Vh24 c S T Y) t0 (MC F0 [(6, F2), (5, F1)] )) backh24 ⟨(fun _ => undef), t0, rfl, ⟨rfl, fun _ _ => rfl, fun _ _ _ _ _ h => by cases h⟩, MC.start (hst0 _)⟩ ?_ ?_
  rotate_left 1
  · rintro done a w ⟨r, t, rfl, hS, hM⟩ hall
    rw [hS.end hB hall, sizeh24]
    exact hQ r w (MC.get (hall 6 (by rw [sizeh24]; decide)) [] (by simp) hM)
  · rintro jz op done a w ho ⟨r, t, rfl, hS, hM⟩ hnd hdep hcl
    have e4 : t[4]?.getD undef = .pointer (some ⟨c, 0, none⟩) := (hS.old freeh244).trans h4
    have e2 : t[2]?.getD undef = .pointer (some ⟨S, 0, none⟩) := (hS.old freeh242).trans h2
    have e3 : t[3]?.getD undef = .pointer (some ⟨T, 0, none⟩) := (hS.old freeh243).trans h3
    have hlt : jz < 7 := by rw [← sizeh24]; exact (Array.getElem?_eq_some_iff.1 ho).1
    match jz, hlt, ho, hnd, hdep with
    | 0, _, ho, hnd, hdep =>
      obtain ⟨hd, hop, hgd⟩ := say_of sh24_0 ho
      refine ie_val r hB ho (wanted_none hgd) hd hS (hM.step (by rfl)) ?_
      unfold execOp
      simp only [hop]
      simp [Vh24, go_sem]
    | 1, _, ho, hnd, hdep =>
      obtain ⟨hd, hop, hgd⟩ := say_of sh24_1 ho
      refine ie_val r hB ho (wanted_none hgd) hd hS (hM.step (by rfl)) ?_
      unfold execOp
      simp only [hop]
      simp [e4, Vh24, go_sem]
    | 2, _, ho, hnd, hdep =>
      obtain ⟨hd, hop, hgd⟩ := say_of sh24_2 ho
      have x82 : t[82]?.getD undef = _ := hS.at dh24_1 (waits (j := 1) (by kernel_rfl) ho hdep)
      simp only [Vh24] at x82
      refine ie_val r hB ho (wanted_none hgd) hd hS (hM.step (by rfl)) ?_
      unfold execOp
      simp only [hop]
      simp [x82, Vh24, go_sem]
    | 3, _, ho, hnd, hdep =>
      obtain ⟨hd, hop, hgd⟩ := say_of sh24_3 ho
      have x83 : t[83]?.getD undef = _ := hS.at dh24_2 (waits (j := 2) (by kernel_rfl) ho hdep)
      simp only [Vh24] at x83
      refine ie_val r hB ho (wanted_none hgd) hd hS (hM.step (by rfl)) ?_
      unfold execOp
      simp only [hop]
      simp [x83, Vh24, go_sem]
    | 4, _, ho, hnd, hdep =>
      obtain ⟨hd, hop, hgd⟩ := say_of sh24_4 ho
      have x84 : t[84]?.getD undef = _ := hS.at dh24_3 (waits (j := 3) (by kernel_rfl) ho hdep)
      simp only [Vh24] at x84
      have ny6 : done 6 = false := not_yet (k := 4) (j := 6) (by kernel_rfl) hcl hnd
      refine ie_val r hB ho (wanted_none hgd) hd hS (hM.step (by rfl)) ?_
      exact exec_load 28 _ hop c 2 (by show t.getD 84 undef = _; rw [Array.getD_eq_getD_getElem?]; exact x84) Y _ (hl4 w (hBB _ _ _ (MC.cut [(6, F2)] (by simp [ny6]) hM))) Tryd.underlying28 rfl (by rw [siz28, hY])
    | 5, _, ho, hnd, hdep =>
      obtain ⟨hd, hop, hgd⟩ := say_of sh24_5 ho
      have x81 : t[81]?.getD undef = _ := hS.at dh24_0 (waits (j := 0) (by kernel_rfl) ho hdep)
      simp only [Vh24] at x81
      have ny6 : done 6 = false := not_yet (k := 5) (j := 6) (by kernel_rfl) hcl hnd
      have hF := MC.get0 [(6, F2), (5, F1)] (by simp [hnd, ny6]) hM
      obtain ⟨old9, ho9, hs9, hF9⟩ := hw1 r w hF
      refine ie_store (w' := w.setRow S #[.int .i64 0, .int .i64 0, .int .i64 0, .int .i64 0, .int .i64 0, .int .i64 0, .int .i64 0]) r ho (wanted_none hgd) hd hS (MC.put hF9 [(6, F2)] (by simp [ny6])) ?_
      exact exec_storeT 26 _ _ hop S #[.int .i64 0, .int .i64 0, .int .i64 0, .int .i64 0, .int .i64 0, .int .i64 0, .int .i64 0] old9 (by show t.getD 2 undef = _; rw [Array.getD_eq_getD_getElem?]; exact e2) (by show t.getD 81 undef = _; rw [Array.getD_eq_getD_getElem?]; exact x81) w ho9 (by rw [siz26, hZ]) (by rw [hs9, hZ]) (by simp [Value.oneCell'])
    | 6, _, ho, hnd, hdep =>
      obtain ⟨hd, hop, hgd⟩ := say_of sh24_6 ho
      have x85 : t[85]?.getD undef = _ := hS.at dh24_4 (waits (j := 4) (by kernel_rfl) ho hdep)
      simp only [Vh24] at x85
      have a5 : done 5 = true := waits (j := 5) (by kernel_rfl) ho hdep
      have hF := MC.get a5 [(6, F2)] (by simp [hnd]) hM
      obtain ⟨old9, ho9, hs9, hF9⟩ := hw2 r w hF
      refine ie_store (w' := w.setRow T Y) r ho (wanted_none hgd) hd hS (MC.put hF9 [] (by simp)) ?_
      exact exec_storeT 28 _ _ hop T Y old9 (by show t.getD 3 undef = _; rw [Array.getD_eq_getD_getElem?]; exact e3) (by show t.getD 85 undef = _; rw [Array.getD_eq_getD_getElem?]; exact x85) w ho9 (by rw [siz28, hY]) (by rw [hs9, hY]) hY1
theorem foldh24 (c S T : Nat) (Y : Array Value) (r : Nat → Value) (t0 : Array Value) : fold (opsAt Tryd.f4 24) (Vh24 c S T Y r) t0 7 = (((((t0.setIfInBounds 81 (.agg #[.int .i64 0, .int .i64 0, .int .i64 0, .int .i64 0, .int .i64 0, .int .i64 0, .int .i64 0])).setIfInBounds 82 (.pointer (some ⟨c, 0, none⟩))).setIfInBounds 83 (.pointer (some ⟨c, 0, none⟩))).setIfInBounds 84 (.pointer (some ⟨c, 2, none⟩))).setIfInBounds 85 (.agg Y)) := by kernel_rfl
theorem backh6 : backB (opsAt Tryd.f6 6) = true := by kernel_rfl
theorem dsth6 : dstB (opsAt Tryd.f6 6) 51 = true := by kernel_rfl
theorem sizeh6 : (opsAt Tryd.f6 6).size = 11 := by kernel_rfl
theorem freeh64 : freeB (opsAt Tryd.f6 6) 4 = true := by kernel_rfl
theorem freeh62 : freeB (opsAt Tryd.f6 6) 2 = true := by kernel_rfl
theorem sh6_0 : say (opsAt Tryd.f6 6) 0 = some (some 42, .move (.tmp 4), none) := by kernel_rfl
theorem dh6_0 : slotB (opsAt Tryd.f6 6) 0 = some 42 := by kernel_rfl
theorem sh6_1 : say (opsAt Tryd.f6 6) 1 = some (some 43, .nilCheck (.tmp 42), none) := by kernel_rfl
theorem dh6_1 : slotB (opsAt Tryd.f6 6) 1 = some 43 := by kernel_rfl
theorem sh6_2 : say (opsAt Tryd.f6 6) 2 = some (some 44, .fieldAddr 61 (.tmp 43) 0, none) := by kernel_rfl
theorem dh6_2 : slotB (opsAt Tryd.f6 6) 2 = some 44 := by kernel_rfl
theorem sh6_3 : say (opsAt Tryd.f6 6) 3 = some (some 45, .load 3 (.tmp 44), none) := by kernel_rfl
theorem dh6_3 : slotB (opsAt Tryd.f6 6) 3 = some 45 := by kernel_rfl
theorem sh6_4 : say (opsAt Tryd.f6 6) 4 = some (some 46, .move (.tmp 4), none) := by kernel_rfl
theorem dh6_4 : slotB (opsAt Tryd.f6 6) 4 = some 46 := by kernel_rfl
theorem sh6_5 : say (opsAt Tryd.f6 6) 5 = some (some 47, .nilCheck (.tmp 46), none) := by kernel_rfl
theorem dh6_5 : slotB (opsAt Tryd.f6 6) 5 = some 47 := by kernel_rfl
theorem sh6_6 : say (opsAt Tryd.f6 6) 6 = some (some 48, .fieldAddr 61 (.tmp 47) 2, none) := by kernel_rfl
theorem dh6_6 : slotB (opsAt Tryd.f6 6) 6 = some 48 := by kernel_rfl
theorem sh6_7 : say (opsAt Tryd.f6 6) 7 = some (some 49, .load 49 (.tmp 48), none) := by kernel_rfl
theorem dh6_7 : slotB (opsAt Tryd.f6 6) 7 = some 49 := by kernel_rfl
theorem sh6_8 : say (opsAt Tryd.f6 6) 8 = some (some 50, .build 28 #[(0, .tmp 45), (1, .tmp 49)], none) := by kernel_rfl
theorem dh6_8 : slotB (opsAt Tryd.f6 6) 8 = some 50 := by kernel_rfl
theorem sh6_9 : say (opsAt Tryd.f6 6) 9 = some (none, .store 28 (.tmp 2) (.tmp 50), none) := by kernel_rfl
theorem sh6_10 : say (opsAt Tryd.f6 6) 10 = some (some 3, .assign (.const (.bool true)), none) := by kernel_rfl
theorem dh6_10 : slotB (opsAt Tryd.f6 6) 10 = some 3 := by kernel_rfl
def Vh6 (N _S : Nat) (a b : Int) (_r : Nat → Value) : Nat → Value
  | 0 => .pointer (some ⟨N, 0, none⟩)
  | 1 => .pointer (some ⟨N, 0, none⟩)
  | 2 => .pointer (some ⟨N, 0, none⟩)
  | 3 => .int .i64 a
  | 4 => .pointer (some ⟨N, 0, none⟩)
  | 5 => .pointer (some ⟨N, 0, none⟩)
  | 6 => .pointer (some ⟨N, 2, none⟩)
  | 7 => .int .i64 b
  | 8 => .agg #[.int .i64 a, .int .i64 b]
  | 9 => undef
  | 10 => .bool true
  | _ => undef
set_option maxHeartbeats 8000000 in
set_option maxRecDepth 100000 in
theorem regh6 (N S : Nat) (a b : Int) (F0 F1 : (Nat → Value) → World → Prop) (B : World → Prop)  (t0 : Array Value) (wr : World) {Q : Exit → Act → World → Prop} (ht : t0.size = 51) (h4 : t0.getD 4 undef = .pointer (some ⟨N, 0, none⟩)) (h2 : t0.getD 2 undef = .pointer (some ⟨S, 0, none⟩))
    (hZ : (#[.int .i64 a, .int .i64 b] : Array Value).size = 2)
    (hb0 : ∀ r w, F0 r w → B w)
    (hw1 : ∀ r w, F0 r w → ∃ old, w.heap[S]? = some (.cells old 28 (0, 0)) ∧ old.size = 2 ∧ F1 r (w.setRow S #[.int .i64 a, .int .i64 b]))
    (hl3 : ∀ w, B w → w.cell? ⟨N, 0, none⟩ = some (.int .i64 a))
    (hl7 : ∀ w, B w → w.cell? ⟨N, 2, none⟩ = some (.int .i64 b))
    (hst0 : ∀ r, F0 r wr.drew)
    (hQ : ∀ r w, F1 r w → Q .normal ⟨fold (opsAt Tryd.f6 6) (Vh6 N S a b r) t0 11, []⟩ w) : (Code.region 6 (opsAt Tryd.f6 6) true).wp Tryd.prog Q ⟨t0, []⟩ wr := by
  have hB : dstB (opsAt Tryd.f6 6) t0.size = true := by rw [ht]; exact dsth6
  have hBB : ∀ r done w, MC F0 [] r done w → B w := fun r done w h => MC.base hb0 (by intro x h; cases h) h
  refine inv_region (by kernel_rfl) (IE (opsAt Tryd.f6 6) (Vh6 N S a b) t0 (MC F0 [(9, F1)] )) backh6 ⟨(fun _ => undef), t0, rfl, ⟨rfl, fun _ _ => rfl, fun _ _ _ _ _ h => by cases h⟩, MC.start (hst0 _)⟩ ?_ ?_
  rotate_left 1
  · rintro done a w ⟨r, t, rfl, hS, hM⟩ hall
    rw [hS.end hB hall, sizeh6]
    exact hQ r w (MC.get (hall 9 (by rw [sizeh6]; decide)) [] (by simp) hM)
  · rintro jz op done a w ho ⟨r, t, rfl, hS, hM⟩ hnd hdep hcl
    have e4 : t[4]?.getD undef = .pointer (some ⟨N, 0, none⟩) := (hS.old freeh64).trans h4
    have e2 : t[2]?.getD undef = .pointer (some ⟨S, 0, none⟩) := (hS.old freeh62).trans h2
    have hlt : jz < 11 := by rw [← sizeh6]; exact (Array.getElem?_eq_some_iff.1 ho).1
    match jz, hlt, ho, hnd, hdep with
    | 0, _, ho, hnd, hdep =>
      obtain ⟨hd, hop, hgd⟩ := say_of sh6_0 ho
      refine ie_val r hB ho (wanted_none hgd) hd hS (hM.step (by rfl)) ?_
      unfold execOp
      simp only [hop]
      simp [e4, Vh6, go_sem]
    | 1, _, ho, hnd, hdep =>
      obtain ⟨hd, hop, hgd⟩ := say_of sh6_1 ho
      have x42 : t[42]?.getD undef = _ := hS.at dh6_0 (waits (j := 0) (by kernel_rfl) ho hdep)
      simp only [Vh6] at x42
      refine ie_val r hB ho (wanted_none hgd) hd hS (hM.step (by rfl)) ?_
      unfold execOp
      simp only [hop]
      simp [x42, Vh6, go_sem]
    | 2, _, ho, hnd, hdep =>
      obtain ⟨hd, hop, hgd⟩ := say_of sh6_2 ho
      have x43 : t[43]?.getD undef = _ := hS.at dh6_1 (waits (j := 1) (by kernel_rfl) ho hdep)
      simp only [Vh6] at x43
      refine ie_val r hB ho (wanted_none hgd) hd hS (hM.step (by rfl)) ?_
      unfold execOp
      simp only [hop]
      simp [x43, Vh6, go_sem]
    | 3, _, ho, hnd, hdep =>
      obtain ⟨hd, hop, hgd⟩ := say_of sh6_3 ho
      have x44 : t[44]?.getD undef = _ := hS.at dh6_2 (waits (j := 2) (by kernel_rfl) ho hdep)
      simp only [Vh6] at x44
      have ny9 : done 9 = false := not_yet (k := 3) (j := 9) (by kernel_rfl) hcl hnd
      have cz := hl3 w (hBB _ _ _ (MC.cut [(9, F1)] (by simp [ny9]) hM))
      refine ie_val r hB ho (wanted_none hgd) hd hS (hM.step (by rfl)) ?_
      unfold execOp
      simp only [hop]
      simp [x44, Vh6, cz, go_sem]
    | 4, _, ho, hnd, hdep =>
      obtain ⟨hd, hop, hgd⟩ := say_of sh6_4 ho
      refine ie_val r hB ho (wanted_none hgd) hd hS (hM.step (by rfl)) ?_
      unfold execOp
      simp only [hop]
      simp [e4, Vh6, go_sem]
    | 5, _, ho, hnd, hdep =>
      obtain ⟨hd, hop, hgd⟩ := say_of sh6_5 ho
      have x46 : t[46]?.getD undef = _ := hS.at dh6_4 (waits (j := 4) (by kernel_rfl) ho hdep)
      simp only [Vh6] at x46
      refine ie_val r hB ho (wanted_none hgd) hd hS (hM.step (by rfl)) ?_
      unfold execOp
      simp only [hop]
      simp [x46, Vh6, go_sem]
    | 6, _, ho, hnd, hdep =>
      obtain ⟨hd, hop, hgd⟩ := say_of sh6_6 ho
      have x47 : t[47]?.getD undef = _ := hS.at dh6_5 (waits (j := 5) (by kernel_rfl) ho hdep)
      simp only [Vh6] at x47
      refine ie_val r hB ho (wanted_none hgd) hd hS (hM.step (by rfl)) ?_
      unfold execOp
      simp only [hop]
      simp [x47, Vh6, go_sem]
    | 7, _, ho, hnd, hdep =>
      obtain ⟨hd, hop, hgd⟩ := say_of sh6_7 ho
      have x48 : t[48]?.getD undef = _ := hS.at dh6_6 (waits (j := 6) (by kernel_rfl) ho hdep)
      simp only [Vh6] at x48
      have ny9 : done 9 = false := not_yet (k := 7) (j := 9) (by kernel_rfl) hcl hnd
      have cz := hl7 w (hBB _ _ _ (MC.cut [(9, F1)] (by simp [ny9]) hM))
      refine ie_val r hB ho (wanted_none hgd) hd hS (hM.step (by rfl)) ?_
      unfold execOp
      simp only [hop]
      simp [x48, Vh6, cz, go_sem]
    | 8, _, ho, hnd, hdep =>
      obtain ⟨hd, hop, hgd⟩ := say_of sh6_8 ho
      have x45 : t[45]?.getD undef = _ := hS.at dh6_3 (waits (j := 3) (by kernel_rfl) ho hdep)
      simp only [Vh6] at x45
      have x49 : t[49]?.getD undef = _ := hS.at dh6_7 (waits (j := 7) (by kernel_rfl) ho hdep)
      simp only [Vh6] at x49
      refine ie_val r hB ho (wanted_none hgd) hd hS (hM.step (by rfl)) ?_
      unfold execOp
      simp only [hop]
      simp [x45, x49, Vh6, go_sem]
    | 9, _, ho, hnd, hdep =>
      obtain ⟨hd, hop, hgd⟩ := say_of sh6_9 ho
      have x50 : t[50]?.getD undef = _ := hS.at dh6_8 (waits (j := 8) (by kernel_rfl) ho hdep)
      simp only [Vh6] at x50
      have hF := MC.get0 [(9, F1)] (by simp [hnd]) hM
      obtain ⟨old9, ho9, hs9, hF9⟩ := hw1 r w hF
      refine ie_store (w' := w.setRow S #[.int .i64 a, .int .i64 b]) r ho (wanted_none hgd) hd hS (MC.put hF9 [] (by simp)) ?_
      exact exec_storeT 28 _ _ hop S #[.int .i64 a, .int .i64 b] old9 (by show t.getD 2 undef = _; rw [Array.getD_eq_getD_getElem?]; exact e2) (by show t.getD 50 undef = _; rw [Array.getD_eq_getD_getElem?]; exact x50) w ho9 (by rw [siz28, hZ]) (by rw [hs9, hZ]) (by simp [Value.oneCell'])
    | 10, _, ho, hnd, hdep =>
      obtain ⟨hd, hop, hgd⟩ := say_of sh6_10 ho
      refine ie_val r hB ho (wanted_none hgd) hd hS (hM.step (by rfl)) ?_
      unfold execOp
      simp only [hop]
      simp [Vh6, go_sem]
theorem foldh6 (N S : Nat) (a b : Int) (r : Nat → Value) (t0 : Array Value) : fold (opsAt Tryd.f6 6) (Vh6 N S a b r) t0 11 = ((((((((((t0.setIfInBounds 42 (.pointer (some ⟨N, 0, none⟩))).setIfInBounds 43 (.pointer (some ⟨N, 0, none⟩))).setIfInBounds 44 (.pointer (some ⟨N, 0, none⟩))).setIfInBounds 45 (.int .i64 a)).setIfInBounds 46 (.pointer (some ⟨N, 0, none⟩))).setIfInBounds 47 (.pointer (some ⟨N, 0, none⟩))).setIfInBounds 48 (.pointer (some ⟨N, 2, none⟩))).setIfInBounds 49 (.int .i64 b)).setIfInBounds 50 (.agg #[.int .i64 a, .int .i64 b])).setIfInBounds 3 (.bool true)) := by kernel_rfl
end Go.Proofs.YtfigneaaeakbcaaDoor
