/-
  known: the chapter's examples, call by call.
-/
import Derived.Test.YthpelabmfpogbaaDoorIs
namespace Go.Proofs.YthpelabmfpogbaaDoor
open Go.RowKit Wire

theorem u1 : uintS [172, 2, 9] ⟨0, 0, 0⟩ 400 = (300, ⟨2, 0, 0⟩) := by
  simp [uintS, rd, bad, Rd.plus]
theorem u2 : uintS [172, 2, 9] ⟨2, 0, 0⟩ 8 = (0, ⟨2, 2, 12⟩) := by
  simp [uintS, rd, bad]
theorem u3 : byteS [172, 2, 9] ⟨2, 2, 12⟩ = (0, ⟨2, 2, 12⟩) := by
  simp [byteS]
theorem u4 : textS [1, 97, 7] ⟨0, 0, 0⟩ 9 = ([97], ⟨2, 0, 0⟩) := by
  simp [textS, rd, bad]
theorem u5 : endS [1, 97, 7] ⟨2, 0, 0⟩ = ⟨2, 2, 13⟩ := by
  simp [endS]
theorem b1 : Bytes [172, 2, 9] := by
  intro x hx; simp at hx; rcases hx with rfl | rfl | rfl <;> decide
theorem b2 : Bytes [1, 97, 7] := by
  intro x hx; simp at hx; rcases hx with rfl | rfl | rfl <;> decide

/-- What went on at block N and above. -/
theorem below_grown {N R : Nat} {w w1 w2 : World} (hb : Below N w w1) (hN : N ≤ w.heap.size) (hg : w1.grownBy w2 (some R)) (hR : N ≤ R) : Below N w w2 :=
  hb.grown hg (Nat.le_trans hN hb.size) (fun k e => by cases e; exact hR)

theorem k_uint1 {lo R : Nat} {w : World} (hr : RdS w lo R [172, 2, 9] ⟨0, 0, 0⟩) : Calls Tryd.prog 11 #[.pointer (some ⟨R, 0, none⟩), .int .u64 400] w fun e w' => e = .returned (.int .u64 300) ∧ RdS w' lo R [172, 2, 9] ⟨2, 0, 0⟩ ∧ w.grownBy w' (some R) := by
  have := uint_any lo R 400 _ _ w hr b1
  rw [u1] at this
  exact this
theorem k_uint2 {lo R : Nat} {w : World} (hr : RdS w lo R [172, 2, 9] ⟨2, 0, 0⟩) : Calls Tryd.prog 11 #[.pointer (some ⟨R, 0, none⟩), .int .u64 8] w fun e w' => e = .returned (.int .u64 0) ∧ RdS w' lo R [172, 2, 9] ⟨2, 2, 12⟩ ∧ w.grownBy w' (some R) := by
  have := uint_any lo R 8 _ _ w hr b1
  rw [u2] at this
  exact this
theorem k_byte {lo R : Nat} {w : World} (hr : RdS w lo R [172, 2, 9] ⟨2, 2, 12⟩) : Calls Tryd.prog 17 #[.pointer (some ⟨R, 0, none⟩)] w fun e w' => e = .returned (.int .u8 0) ∧ RdS w' lo R [172, 2, 9] ⟨2, 2, 12⟩ ∧ w.grownBy w' (some R) := by
  have := byte_any lo R _ _ w hr
  rw [u3] at this
  exact this
theorem k_text {lo R : Nat} {w : World} (hr : RdS w lo R [1, 97, 7] ⟨0, 0, 0⟩) : Calls Tryd.prog 14 #[.pointer (some ⟨R, 0, none⟩), .int .i64 9] w fun e w' => e = .returned (.string ⟨#[97]⟩) ∧ RdS w' lo R [1, 97, 7] ⟨2, 0, 0⟩ ∧ w.grownBy w' (some R) := by
  have := text_any lo R 9 _ _ w hr b2 (by decide)
  rw [u4] at this
  exact this
theorem k_end {lo R : Nat} {w : World} (hr : RdS w lo R [1, 97, 7] ⟨2, 0, 0⟩) : Calls Tryd.prog 20 #[.pointer (some ⟨R, 0, none⟩)] w fun e w' => e = .returned (.tuple #[]) ∧ RdS w' lo R [1, 97, 7] ⟨2, 2, 13⟩ ∧ w.grownBy w' (some R) := by
  have := end_any lo R _ _ w hr
  rw [u5] at this
  exact this

/-- A list of three that was just built. -/
theorem has_three (w : World) (a b c : Int) : Has (w.alloc (.cells #[.int .u8 a, .int .u8 b, .int .u8 c] 5)) (.slice (some ⟨w.heap.size, 0, none⟩) 3 3) [a, b, c] := by
  refine .inr ⟨_, 3, rfl, by simp, fun i hi => ?_⟩
  rw [add0]
  match i, hi with
  | 0, _ => simp
  | 1, _ => simp
  | 2, _ => simp
theorem has_one (w : World) (a : Int) : Has (w.alloc (.cells #[.int .u8 a] 5)) (.slice (some ⟨w.heap.size, 0, none⟩) 1 1) [a] := by
  refine .inr ⟨_, 1, rfl, by simp, fun i hi => ?_⟩
  rw [add0]
  match i, hi with
  | 0, _ => simp

theorem e300 : enc 300 = [172, 2] := by
  rw [enc_ge (by decide), enc_lt (by decide)]; rfl
theorem e2 : enc 2 = [2] := enc_lt (by decide)

theorem k_put1 {w : World} {v : Value} (hb : Has w v [5]) : Calls Tryd.prog 7 #[v, .int .u64 300] w fun e w' => ∃ v', e = .returned v' ∧ Has w' v' [5, 172, 2] ∧ Below w.heap.size w w' := by
  refine (putUint_any v [5] 300 w hb (by decide) (by simp)).mono ?_
  rintro e w' ⟨v', rfl, h1, h2⟩
  rw [e300] at h1
  exact ⟨v', rfl, h1.has, h2⟩
theorem k_put2 (w : World) : Calls Tryd.prog 8 #[.slice none 0 0, .string ⟨#[97, 98]⟩] w fun e w' => ∃ v', e = .returned v' ∧ Has w' v' [2, 97, 98] ∧ Below w.heap.size w w' := by
  refine (putText_any (.slice none 0 0) [] ⟨#[97, 98]⟩ w (Has.nil w) (by decide) (by simp)).mono ?_
  rintro e w' ⟨v', rfl, h1, h2⟩
  have e : ([] : List Int) ++ (enc (ByteArray.size ⟨#[97, 98]⟩) ++ strB ⟨#[97, 98]⟩) = [2, 97, 98] := by
    show [] ++ (enc 2 ++ strB ⟨#[97, 98]⟩) = _
    rw [e2]; rfl
  rw [e] at h1
  exact ⟨v', rfl, h1.has, h2⟩
theorem k_same {w : World} {va vb : Value} {l : List Int} (ha : Has w va l) (hb : Has w vb l) (hl : l.length ≤ 1048576) : Calls Tryd.prog 15 #[va, vb] w fun x w' => x = .returned (.bool true) ∧ ∃ n, w' = w.drewN n := by
  have := same_any va vb l l w ha hb hl hl
  simpa using this

theorem k_as {w : World} (hg : w.cell? ⟨0, 0, none⟩ = some (.iface 84 (.agg #[.pointer (some ⟨1, 33, none⟩)]))) :
    Calls Tryd.prog 18 #[.iface 45 (.pointer (some ⟨w.heap.size + 1, 0, none⟩)), .iface 47 (.pointer (some ⟨w.heap.size, 0, none⟩))] ((w.alloc (.cells #[.pointer none] 45)).alloc (.cells #[.int .i64 2, .string ⟨#[]⟩, .int .i64 12] 50)) fun e w' =>
      e = .returned (.bool true) ∧ w'.cell? ⟨w.heap.size, 0, none⟩ = some (.pointer (some ⟨w.heap.size + 1, 0, none⟩)) ∧ w'.cell? ⟨w.heap.size + 1, 0, none⟩ = some (.int .i64 2) ∧ Below w.heap.size w w' := by
  have hlt : 0 < w.heap.size := World.block_lt_of_cell? w ⟨0, 0, none⟩ hg
  refine (as_hit ⟨w.heap.size + 1, 0, none⟩ ⟨w.heap.size, 0, none⟩ (.pointer none) _ ?_ ?_ ?_).mono ?_
  · rw [World.cell?_alloc_lt _ _ ⟨0, 0, none⟩ (by simp), World.cell?_alloc_lt _ _ ⟨0, 0, none⟩ hlt]; exact hg
  · simp
  · simp
  rintro e w' ⟨rfl, rfl⟩
  have two : ∀ o1 o2 o3 o4 : Obj, Below (w.heap.size + 2) ((w.alloc (.cells #[.pointer none] 45)).alloc (.cells #[.int .i64 2, .string ⟨#[]⟩, .int .i64 12] 50)) ((((((w.alloc (.cells #[.pointer none] 45)).alloc (.cells #[.int .i64 2, .string ⟨#[]⟩, .int .i64 12] 50)).alloc o1).alloc o2).alloc o3).alloc o4) := fun o1 o2 o3 o4 =>
    ((((Below.refl _ _).alloc (by simp) _).alloc (by simp) _).alloc (by simp) _).alloc (by simp) _
  have one : Below w.heap.size w ((w.alloc (.cells #[.pointer none] 45)).alloc (.cells #[.int .i64 2, .string ⟨#[]⟩, .int .i64 12] 50)) := ((Below.refl _ _).alloc (Nat.le_refl _) _).alloc (by simp) _
  refine ⟨rfl, ?_, ?_, ?_⟩
  · refine World.cell?_setCell_same _ _ _ (u := .pointer none) ?_
    rw [(two _ _ _ _).cell (p := ⟨w.heap.size, 0, none⟩) (by simp)]
    simp
  · refine (World.cell?_of_block (Below.heap_setCell _ ⟨w.heap.size, 0, none⟩ _ (w.heap.size + 1) (by simp))).trans ?_
    rw [(two _ _ _ _).cell (p := ⟨w.heap.size + 1, 0, none⟩) (by simp)]
    simp
  · exact (one.trans ((two _ _ _ _).mono (by omega))).setCell (Nat.le_refl _) _

set_option maxHeartbeats 4000000 in
set_option maxRecDepth 100000 in
theorem known_any (w : World) (hg0 : w.cell? ⟨0, 0, none⟩ = some (.iface 84 (.agg #[.pointer (some ⟨1, 33, none⟩)]))) :
    Calls Tryd.prog 6 #[] w fun e w' => e = .returned (.bool true) ∧ Below w.heap.size w w' := by
  have HG : Hid (w.cell? ⟨0, 0, none⟩ = some (.iface 84 (.agg #[.pointer (some ⟨1, 33, none⟩)]))) := hg0
  clear hg0
  go_enter Tryd.func6, Tryd.ntmps6
  go_wp2_with fail
  have hb1 : Below w.heap.size w (w.alloc (.cells #[.int .u8 172, .int .u8 2, .int .u8 9] 5)) := (Below.refl _ _).alloc (Nat.le_refl _) _
  refine (read_any _ [172, 2, 9] _ (has_three w 172 2 9) (by simp)).mono ?_
  rintro e w2 ⟨R, rfl, hR, hr2, hb2⟩
  simp at hR
  replace hb2 := Below.up hb1 hb2
  clear hb1
  have hRN : w.heap.size ≤ R := by omega
  have hN : w.heap.size ≤ w.heap.size := Nat.le_refl _
  replace hr2 : RdS w2 _ R [172, 2, 9] ⟨0, 0, 0⟩ := hr2
  generalize (w.alloc (Obj.cells #[Value.int IntKind.u8 172, Value.int IntKind.u8 2, Value.int IntKind.u8 9] 5)).heap.size = lo at hr2
  go_wp2_with fail
  refine (k_uint1 hr2).mono ?_
  rintro e w3 ⟨rfl, hr3, hg3⟩
  have hb3 := below_grown hb2 hN hg3 hRN
  clear hr2 hb2 hg3
  go_wp2_with fail
  refine (at_any _ _ _ _ _ hr3).mono ?_
  rintro e w4 ⟨rfl, rfl⟩
  go_wp2_with fail
  refine (err_none _ _ _ _ _ _ hr3).mono ?_
  rintro e w5 ⟨rfl, rfl⟩
  go_wp2_with fail
  refine (k_uint2 hr3).mono ?_
  rintro e w6 ⟨rfl, hr6, hg6⟩
  have hb6 := below_grown hb3 hN hg6 hRN
  clear hr3 hb3 hg6
  go_wp2_with fail
  refine (at_any _ _ _ _ _ hr6).mono ?_
  rintro e w7 ⟨rfl, rfl⟩
  go_wp2_with fail
  refine (k_byte hr6).mono ?_
  rintro e w8 ⟨rfl, hr8, hg8⟩
  have hb8 := below_grown hb6 hN hg8 hRN
  clear hr6 hb6 hg8
  have hg8 := (hb8.cell (p := ⟨0, 0, none⟩) (World.block_lt_of_cell? w ⟨0, 0, none⟩ HG.out)).trans HG.out
  have HG8 : Hid (w8.cell? ⟨0, 0, none⟩ = some (.iface 84 (.agg #[.pointer (some ⟨1, 33, none⟩)]))) := hg8
  clear hg8
  go_wp2_with fail
  refine (err_some _ _ _ _ _ (hr8.grown ((Below.refl _ _).alloc (Nat.le_refl _) _)) (by decide)).mono ?_
  rintro e w9 ⟨rfl, rfl⟩
  go_wp2_with fail
  refine (k_as HG8.out).mono ?_
  rintro e w11 ⟨rfl, hT, hF, hb11⟩
  have hr11 := hr8.grown hb11
  replace hb11 := hb8.trans (hb11.mono hb8.size)
  clear hr8 hb8 HG8
  go_wp2_with fail
  refine (err_some _ _ _ _ _ hr11 (by decide)).mono ?_
  rintro e w12 ⟨rfl, rfl⟩
  clear hT hF
  go_wp2_with fail
  refine (is_hit _ 12 _ (by simp)).mono ?_
  rintro e w13 ⟨rfl, rfl⟩
  go_wp2_with fail
  have hb13 : Below w.heap.size w ((w11.alloc (Obj.cells #[Value.int IntKind.i64 2, Value.string { data := #[] }, Value.int IntKind.i64 12] 50)).alloc (Obj.cells #[Value.int IntKind.u8 1, Value.int IntKind.u8 97, Value.int IntKind.u8 7] 5)) :=
    (hb11.alloc hb11.size _).alloc (by have := hb11.size; simp; omega) _
  have hs11 := hb11.size
  refine (read_any _ [1, 97, 7] _ (by simpa using has_three (w11.alloc (Obj.cells #[Value.int IntKind.i64 2, Value.string { data := #[] }, Value.int IntKind.i64 12] 50)) 1 97 7) (by simp)).mono ?_
  rintro e w14 ⟨S, rfl, hS, hr14, hb14⟩
  simp at hS
  replace hb14 := hb13.trans (hb14.mono hb13.size)
  have hSN : w.heap.size ≤ S := by omega
  clear hb13 hb11 hr11 hs11 hS
  replace hr14 : RdS w14 _ S [1, 97, 7] ⟨0, 0, 0⟩ := hr14
  generalize ((w11.alloc (Obj.cells #[Value.int IntKind.i64 2, Value.string { data := #[] }, Value.int IntKind.i64 12] 50)).alloc (Obj.cells #[Value.int IntKind.u8 1, Value.int IntKind.u8 97, Value.int IntKind.u8 7] 5)).heap.size = lo2 at hr14
  go_wp2_with fail
  refine (k_text hr14).mono ?_
  rintro e w15 ⟨rfl, hr15, hg15⟩
  have hb15 := below_grown hb14 hN hg15 hSN
  clear hr14 hb14 hg15
  go_wp2_with fail
  refine (k_end hr15).mono ?_
  rintro e w16 ⟨rfl, hr16, hg16⟩
  have hb16 := below_grown hb15 hN hg16 hSN
  clear hr15 hb15 hg16
  go_wp2_with fail
  refine (err_some _ _ _ _ _ hr16 (by decide)).mono ?_
  rintro e w17 ⟨rfl, rfl⟩
  go_wp2_with fail
  refine (told_some _ 2 13 _ (by simp) (by simp) (by simp) (by decide)).mono ?_
  rintro e w18 ⟨rfl, n18, rfl⟩
  have hb18 : Below w.heap.size w ((w16.alloc (.cells #[.int .i64 2, .string ⟨#[]⟩, .int .i64 13] 50)).drewN n18) := (hb16.alloc hb16.size _).trans ⟨rfl, rfl, rfl, Nat.le_refl _, fun _ _ => rfl⟩
  clear hr16 hb16
  generalize (w16.alloc (.cells #[.int .i64 2, .string ⟨#[]⟩, .int .i64 13] 50)).drewN n18 = w19 at *
  go_wp2_with fail
  have hb20 : Below w.heap.size w (w19.alloc (Obj.cells #[Value.int IntKind.u8 5] 5)) := hb18.alloc hb18.size _
  refine (k_put1 (has_one w19 5)).mono ?_
  rintro e w21 ⟨v21, rfl, hv21, hb21⟩
  replace hb21 := hb20.trans (hb21.mono hb20.size)
  clear hb18 hb20
  go_wp2_with fail
  have hb22 : Below w.heap.size w (w21.alloc (Obj.cells #[Value.int IntKind.u8 5, Value.int IntKind.u8 172, Value.int IntKind.u8 2] 5)) := hb21.alloc hb21.size _
  refine (k_same (hv21.below ((Below.refl _ _).alloc (Nat.le_refl _) _)) (has_three w21 5 172 2) (by simp)).mono ?_
  rintro e w23 ⟨rfl, n23, rfl⟩
  have hb24 : Below w.heap.size w ((w21.alloc (Obj.cells #[Value.int IntKind.u8 5, Value.int IntKind.u8 172, Value.int IntKind.u8 2] 5)).drewN n23) := hb22.trans ⟨rfl, rfl, rfl, Nat.le_refl _, fun _ _ => rfl⟩
  clear hb22 hb21 hv21
  generalize (w21.alloc (Obj.cells #[Value.int IntKind.u8 5, Value.int IntKind.u8 172, Value.int IntKind.u8 2] 5)).drewN n23 = w24 at *
  go_wp2_with fail
  refine (k_put2 w24).mono ?_
  rintro e w25 ⟨v25, rfl, hv25, hb25⟩
  replace hb25 := hb24.trans (hb25.mono hb24.size)
  clear hb24
  go_wp2_with fail
  have hb26 : Below w.heap.size w (w25.alloc (Obj.cells #[Value.int IntKind.u8 2, Value.int IntKind.u8 97, Value.int IntKind.u8 98] 5)) := hb25.alloc hb25.size _
  refine (k_same (hv25.below ((Below.refl _ _).alloc (Nat.le_refl _) _)) (has_three w25 2 97 98) (by simp)).mono ?_
  rintro e w27 ⟨rfl, n27, rfl⟩
  have hb28 : Below w.heap.size w ((w25.alloc (Obj.cells #[Value.int IntKind.u8 2, Value.int IntKind.u8 97, Value.int IntKind.u8 98] 5)).drewN n27) := hb26.trans ⟨rfl, rfl, rfl, Nat.le_refl _, fun _ _ => rfl⟩
  clear hb26 hb25 hv25
  go_wp2
  go_ret
  exact ⟨rfl, hb28⟩
end Go.Proofs.YthpelabmfpogbaaDoor
