/-
  plan.leaveOut by contract.
-/
import Derived.Test.YtpenaeoodfgmpaaGreatDoorGather
import Derived.WalkMore
namespace Go.Proofs.YtpenaeoodfgmpaaGreatDoor
open Go.RowKit

def bv (b : Bool) : Value := .bool b
/-- a row of bools that is known whole -/
def RowB (w : World) (h : Nat) (B : List Bool) : Prop := w.heap[h]? = some (.cells (B.map Value.bool).toArray 4 (0, 0))
theorem RowB.at {w : World} {h : Nat} {B : List Bool} (hr : RowB w h B) {i : Nat} {b : Bool} (hi : B[i]? = some b) : w.cell? ⟨h, i, none⟩ = some (.bool b) := by
  rw [cell_of_row w h i _ _ _ hr]
  simp [hi]
theorem RowB.frozen {w : World} {h : Nat} {B : List Bool} (hr : RowB w h B) (j : Nat) : w.frozen? ⟨h, j, none⟩ = false := frozen_of_row w h j _ _ hr
theorem RowB.set {w : World} {h : Nat} {B : List Bool} (hr : RowB w h B) (i : Nat) (b : Bool) : RowB (w.setCell ⟨h, i, none⟩ (.bool b)) h (B.set i b) := by
  unfold RowB at *
  rw [heap_setCell_same w h _ _ _ _ hr]
  simp [List.map_set]
theorem RowB.keep {w w' : World} {h : Nat} {B : List Bool} (hr : RowB w h B) (hb : G w w') : RowB w' h B := (hb.block h (Array.getElem?_eq_some_iff.1 hr).1).trans hr
theorem Tryz.info4 : (Tryz.prog.info? 4).map (fun i => (i.zero, i.size, i.bytes)) = some (some (.bool false), 1, 1) := by kernel_rfl
theorem size66 : (Tryz.prog.info? 94).map (·.size) = some 2 := by kernel_rfl
theorem under66 : Tryz.prog.underlying 94 = some (.struct (Tryz.prog.fieldsOf 94)) := by kernel_rfl
theorem zero66 : (Tryz.prog.info? 94).bind (·.zero) = some (.agg #[.int .i64 0, .int .i64 0]) := by kernel_rfl

/-- what leaveOut holds -/
def LS (w wr : World) (h : Nat) (B : List Bool) (v0 v1 : Value) (R0 R1 : List (Nat × Int)) : Prop :=
  RowB wr h B ∧ OwnsG wr (h + 1) v0 R0 ∧ OwnsG wr (h + 1) v1 R1 ∧ G w wr ∧ w.heap.size = h
theorem LS.up {w wr w' : World} {h : Nat} {B : List Bool} {v0 v1 : Value} {R0 R1 : List (Nat × Int)} (h1 : LS w wr h B v0 v1 R0 R1) (hb : G wr w') : LS w w' h B v0 v1 R0 R1 :=
  ⟨h1.1.keep hb, h1.2.1.up hb, h1.2.2.1.up hb, h1.2.2.2.1.up hb, h1.2.2.2.2⟩
theorem owns_far {wr w' : World} {h : Nat} {v : Value} {R : List (Nat × Int)} (h1 : OwnsG wr (h + 1) v R) (hb : But h wr w') : OwnsG w' (h + 1) v R :=
  World.ownsRow.kept h1 (row := some h) ⟨hb.os, hb.tape, hb.output, hb.size, fun k hk hn => hb.block k hk (fun e => hn (by rw [e]))⟩ (.inr fun e => by have := (World.ownsRow.lt h1 h e).1; omega)
theorem LS.set {w wr : World} {h : Nat} {B : List Bool} {v0 v1 : Value} {R0 R1 : List (Nat × Int)} (h1 : LS w wr h B v0 v1 R0 R1) (p : Nat) : LS w (wr.setCell ⟨h, p, none⟩ (.bool true)) h (B.set p true) v0 v1 R0 R1 := by
  have hb : But h wr (wr.setCell ⟨h, p, none⟩ (.bool true)) := (But.refl h wr).setCell p _
  exact ⟨h1.1.set p true, owns_far h1.2.1 hb, owns_far h1.2.2.1 hb, h1.2.2.2.1.trans (hb.below (Nat.le_of_eq h1.2.2.2.2) h1.2.2.2.1.size), h1.2.2.2.2⟩
theorem owns_at {w : World} {lo : Nat} {a : Option Addr} {l c : Nat} {R : List (Nat × Int)} (h : OwnsG w lo (.slice a l c) R) {i : Nat} {p : Nat × Int} (hi : R[i]? = some p) : ∃ g, a = some ⟨g, 0, none⟩ ∧ Lies w g (i * 2) (gc p) := by
  have h0 := h
  obtain ⟨_, ⟨_, hl⟩ | ⟨g, cap, cur, hv, hr⟩⟩ := h
  · have := List.length_eq_zero_iff.1 hl
    subst this
    simp at hi
  · injection hv with e1 e2 e3
    subst e1; subst e2; subst e3
    refine ⟨g, rfl, fun j u hj => ?_⟩
    have hj' : j < 2 := by have := (Array.getElem?_eq_some_iff.1 hj).1; simpa [gc_size] using this
    have hlt := (List.getElem?_eq_some_iff.1 hi).1
    rw [World.ownsRow.cellAt h0 _ (by omega), flat_at gc_size hi hj']
    exact hj
theorem index62 (a0 a1 : Option Addr) (l0 l1 c0 c1 : Nat) (W : World) : (Instr.index 90 (.agg #[.slice a0 l0 c0, .slice a1 l1 c1]) (.int .i64 0)).run Tryz.prog W = .ok (.slice a0 l0 c0) W ∧ (Instr.index 90 (.agg #[.slice a0 l0 c0, .slice a1 l1 c1]) (.int .i64 1)).run Tryz.prog W = .ok (.slice a1 l1 c1) W := by
  have h1 : (Tryz.prog.info? 89).map (·.size) = some 1 := by kernel_rfl
  cases hq : Tryz.prog.info? 89 with
  | none => simp [hq] at h1
  | some j =>
    have hs : j.size = 1 := by simpa [hq] using h1
    constructor
    · simp [Instr.index, run_underlying under62, part, isAgg, run_underlying Tryz.underlying89, sizeOf, typeInfo, hq, hs, asIntOf, go_sem]
    · simp [Instr.index, run_underlying under62, part, isAgg, run_underlying Tryz.underlying89, sizeOf, typeInfo, hq, hs, asIntOf, go_sem]
theorem owns_cap {w : World} {lo : Nat} {a : Option Addr} {l c : Nat} {R : List (Nat × Int)} (h : OwnsG w lo (.slice a l c) R) : R.length ≤ c := by
  obtain ⟨_, ⟨_, hl⟩ | ⟨g, cap, cur, hv, _, _, hc, _⟩⟩ := h
  · omega
  · injection hv with e1 e2 e3
    omega
/-- what is yet to come -/
def restL (R0 R1 : List (Nat × Int)) : Nat → List (Nat × Int)
  | 0 => R0.reverse ++ R1.reverse
  | 1 => R1.reverse
  | _ => []
/-- a slice's length -/
def sLen (v : Value) : Nat := match v with | .slice _ m _ => m | _ => 0
theorem rev_take {R : List (Nat × Int)} {m : Nat} {p : Nat × Int} (h : R[m]? = some p) : (R.take (m + 1)).reverse = p :: (R.take m).reverse := by
  rw [List.take_add_one, h]; simp
set_option maxHeartbeats 2000000 in
set_option maxRecDepth 100000 in
theorem leaveOut_any (ao : Option Addr) (cp : Nat) (L : List Cd) (most : Int) (w : World) (hv : HasC w (.slice ao L.length cp) L) (hn : L.length ≤ 400) (hP : ∀ c ∈ L, c.pos) (h0 : 0 ≤ most) (h1 : most ≤ 1048576) :
    Calls Tryz.prog 20 #[.slice ao L.length cp, .int .i64 most] w fun e w' => e = .returned (.slice (some ⟨w.heap.size, 0, none⟩) L.length L.length) ∧ RowB w' w.heap.size (leave L most) ∧ G w w' := by
  obtain ⟨n, hn'⟩ : ∃ n, L.length = n := ⟨_, rfl⟩
  obtain ⟨i0, hi, hz0, hz1, hz2⟩ := info_parts Tryz.info4
  have hM : (Instr.makeSlice 68 (.int .i64 (n : Int)) (.int .i64 (n : Int))).run Tryz.prog w = .ok (.slice (some ⟨w.heap.size, 0, none⟩) n n) (w.alloc (.cells (madeCells #[.bool false] n) 4)) := by
    have := run_make (P := Tryz.prog) w 68 4 i0 (.bool false) Tryz.underlying68 hi hz0 .i64 .i64 n n (by omega) (Int.le_refl _) (by rw [hz2]; omega) (by omega)
    rw [hz1] at this
    simpa [Value.cells] using this
  obtain ⟨wm, ewm⟩ : ∃ wm, w.alloc (.cells (madeCells #[.bool false] n) 4) = wm := ⟨_, rfl⟩
  rw [ewm] at hM
  have hrm : RowB wm w.heap.size (List.replicate n false) := by
    unfold RowB
    rw [← ewm, heap_alloc_new]
    congr 2
    apply Array.ext_getElem?
    intro i
    by_cases hi : i < n <;> simp [madeCells, hi, Nat.mod_one]
  have hbm : G w wm := by rw [← ewm]; exact G.al _ _
  have hzm : wm.heap.size = w.heap.size + 1 := by rw [← ewm]; simp
  have C := hid (fun W hW => gather_any ao cp L most W hW hn hP h0 h1)
  have HVM := hid (hv.up hbm)
  have HM := hid (And.intro hrm (And.intro hbm hzm))
  obtain ⟨h, hh⟩ : ∃ h, w.heap.size = h := ⟨_, rfl⟩
  have HH := hid hh
  rw [hh] at hM HM
  have HP := hid hP
  have hwb := wst_bd (L := L) hP h0 n
  have HWB : Hid (0 ≤ wst L most n ∧ wst L most n ≤ 419430800) := ⟨hwb.1, Int.le_trans hwb.2 (Int.le_trans (Int.mul_le_mul (show (n : Int) ≤ 400 by omega) (show most + 1 ≤ 1048577 by omega) (by omega) (by omega)) (by omega))⟩
  clear hrm hbm ewm hz0 hz1 hz2 hi hv hP hzm hwb
  obtain ⟨FIN, hFIN⟩ : ∃ FIN, leave L most = FIN := ⟨_, rfl⟩
  have HF0 : Hid ((lv most ((gat L most 0 n).reverse ++ (gat L most 1 n).reverse) (wst L most n) (List.replicate n false)).2 = FIN) := by rw [← hFIN]; unfold leave; rw [hn']; rfl
  rw [hFIN]
  rw [hn'] at C HVM
  rw [hn', hh]
  have HN := hid hn'
  clear hFIN hn'
  clear hh
  go_enter Tryz.func20, Tryz.ntmps20
  go_wp2
  go_step3
  go_upto_region 3 with (go_at_call 66; refine (C.out _ HVM.out).mono ?_; rintro e w1 ⟨v0, v1, he, o0, o1, hb1⟩; rw [HN.out] at he; subst he; rw [HN.out] at o0 o1; obtain ⟨a0, c0, e0⟩ := owns_form o0; obtain ⟨a1, c1, e1⟩ := owns_form o1; generalize hl0 : (gat L most 0 n).length = l0 at e0; generalize hl1 : (gat L most 1 n).length = l1 at e1; subst e0 e1; have HO := hid (And.intro o0 (And.intro o1 hb1)); have HLEN := hid (And.intro hl0 hl1); clear o0 o1 hb1 hl0 hl1)
  have HS0 : Hid (LS w (w1.alloc (.cells #[.slice a0 l0 c0, .slice a1 l1 c1] 90)) h (List.replicate n false) (.slice a0 l0 c0) (.slice a1 l1 c1) (gat L most 0 n) (gat L most 1 n)) := by
    obtain ⟨o0, o1, hb1⟩ := HO.out
    obtain ⟨r, g, z⟩ := HM.out
    rw [z] at o0 o1
    exact LS.up ⟨r.keep hb1, o0, o1, g.up hb1, HH.out⟩ (G.al _ _)
  have hw0 := HWB.out
  clear HO HWB
  generalize wst L most n = W0 at *
  have HB0 : Hid ((List.replicate n false).length = n) := by simp [Hid]
  generalize List.replicate n false = B0 at *
  go_step3
  go_wp2
  go_loopw [7, 21] (fun ws i wr => ∃ (j : Nat) (W : Int) (B : List Bool), j ≤ 2 ∧ i = .int .i64 j ∧ ws = .int .i64 W ∧ 0 ≤ W ∧ W ≤ 419430800 ∧ Hid (B.length = n) ∧ Hid ((lv most (restL (gat L most 0 n) (gat L most 1 n) j) W B).2 = FIN) ∧ Hid (LS w wr h B (.slice a0 l0 c0) (.slice a1 l1 c1) (gat L most 0 n) (gat L most 1 n))) (fun _ i _ => 2 - (intOf i).toNat)
  case atStart => exact ⟨0, W0, B0, by omega, rfl, rfl, hw0.1, hw0.2, HB0.out, HF0.out, HS0.out⟩
  case round =>
    clear HF0 HS0 hw0 HB0 HM
    clear B0
    obtain ⟨j, W, B, hj, rfl, rfl, hW0, hW1, HBl, HF, HS⟩ := hrel
    have hj3 : j = 0 ∨ j = 1 ∨ j = 2 := by omega
    rcases hj3 with rfl | rfl | rfl
    rotate_left 2
    · have HD : Hid (RowB wr h FIN ∧ G w wr) := by
        have := HF.out
        simp only [restL, lv] at this
        rw [← this]
        exact ⟨HS.out.1, HS.out.2.2.2.1⟩
      go_wp2
      try rw [Exit.noGoto_ret]
      go_ret
      exact ⟨rfl, HD.out⟩
    · have HI : Hid ((lv most ((((gat L most 0 n).take (gat L most 0 n).length).reverse) ++ (gat L most 1 n).reverse) W B).2 = FIN) := by
        rw [List.take_length]
        have := HF.out
        simpa [restL, Hid] using this
      have hl0 : (gat L most 0 n).length = l0 := HLEN.out.1
      rw [hl0] at HI
      have HLL := hid hl0
      clear hl0
      have hI := (index62 a0 a1 l0 l1 c0 c1 wr).1
      go_wp2
      clear hI
      go_loopw [7, 9] (fun ws rs wr => ∃ (m : Nat) (W : Int) (B : List Bool), m ≤ l0 ∧ rs = .slice a0 m c0 ∧ ws = .int .i64 W ∧ 0 ≤ W ∧ W ≤ 419430800 ∧ Hid (B.length = n) ∧ Hid ((lv most (((gat L most 0 n).take m).reverse ++ (gat L most 1 n).reverse) W B).2 = FIN) ∧ Hid (LS w wr h B (.slice a0 l0 c0) (.slice a1 l1 c1) (gat L most 0 n) (gat L most 1 n))) (fun _ rs _ => sLen rs)
      case atStart => exact ⟨l0, W, B, Nat.le_refl _, rfl, rfl, hW0, hW1, HBl.out, HI.out, HS.out⟩
      case round =>
        clear HI HF HS hW0 hW1 HBl
        clear B
        obtain ⟨m, W, B, hm, rfl, rfl, hW0, hW1, HBl, HF, HS⟩ := hrel
        by_cases hm0 : m = 0
        · subst hm0
          go_wp2
          go_roundw
          case rel => exact ⟨1, W, B, by omega, rfl, rfl, hW0, hW1, HBl.out, (by have := HF.out; simpa [restL, Hid] using this), HS.out⟩
          case measure => simp [intOf]
        · obtain ⟨q, rfl⟩ : ∃ q, m = q + 1 := ⟨m - 1, by omega⟩
          by_cases hle : W ≤ most
          · have HD : Hid (RowB wr h FIN ∧ G w wr) := by
              have := HF.out
              rw [lv_le hle] at this
              rw [← this]
              exact ⟨HS.out.1, HS.out.2.2.2.1⟩
            go_wp2
            try rw [Exit.noGoto_ret]
            go_ret
            exact ⟨rfl, HD.out⟩
          · obtain ⟨p, hp⟩ : ∃ p, (gat L most 0 n)[q]? = some p := ⟨(gat L most 0 n)[q]'(by rw [HLL.out]; omega), by simp⟩
            have hpk := gat_ok HP.out h0 (List.mem_of_getElem? hp)
            obtain ⟨g, rfl, hl⟩ := owns_at HS.out.2.1 hp
            have q0 : wr.cell? ⟨g, q * 2, none⟩ = some (.int .i64 (p.1 : Int)) := hl 0 _ rfl
            have q1 : wr.cell? ⟨g, q * 2 + 1, none⟩ = some (.int .i64 p.2) := hl 1 _ rfl
            have f0 := HS.out.1.frozen p.1
            have hpn : p.1 < n := by have := hpk.1; rw [HN.out] at this; exact this
            have hcell : wr.cell? ⟨h, p.1, none⟩ = some (.bool (B[p.1]'(by rw [HBl.out]; exact hpn))) := HS.out.1.at (by simp)
            obtain ⟨bb, hbb⟩ : ∃ bb, (B[p.1]'(by rw [HBl.out]; exact hpn)) = bb := ⟨_, rfl⟩
            rw [hbb] at hcell
            have hhl := World.block_lt_of_cell? wr _ hcell
            have hgl := World.block_lt_of_cell? wr _ q0
            have HS2 := hid ((HS.out.set p.1).up (G.al _ (.cells #[.int .i64 (p.1 : Int), .int .i64 p.2] 94)))
            have HF1 : Hid ((lv most (((gat L most 0 n).take q).reverse ++ (gat L most 1 n).reverse) (W - p.2) (B.set p.1 true)).2 = FIN) := by
              have := HF.out
              rw [rev_take hp, List.cons_append, lv, if_neg hle] at this
              exact this
            have HB1 : Hid ((B.set p.1 true).length = n) := by have := HBl.out; simpa [Hid] using this
            have hsub : 0 ≤ W - p.2 ∧ W - p.2 ≤ 419430800 := by omega
            have hcp := owns_cap HS.out.2.1
            rw [HLL.out] at hcp
            have hlq : l0 ≤ 400 := by have h1 := gat_len L most 0 n; have h2 := HN.out; rw [HLL.out] at h1; omega
            have qB : (q : Int) ≤ 400 := by omega
            have qC : (q : Int) ≤ (c0 : Int) := by omega
            have q00 : (0 : Int) ≤ (q : Int) := by omega
            have pI : (p.1 : Int) < (n : Int) := by omega
            have p0 : (0 : Int) ≤ (p.1 : Int) := by omega
            have qI : ((q + 1 : Nat) : Int) - 1 = (q : Int) := by omega
            clear HF HS hl hbb
            obtain ⟨p1, p2⟩ := p
            simp only at *
            go_wp2
            go_roundw
            case rel => exact ⟨q, W - p2, B.set p1 true, by omega, rfl, rfl, hsub.1, hsub.2, HB1.out, HF1.out, HS2.out⟩
            case measure => simp [sLen]
    · have HI : Hid ((lv most ((((gat L most 1 n).take (gat L most 1 n).length).reverse) ++ []) W B).2 = FIN) := by
        rw [List.take_length]
        have := HF.out
        simpa [restL, Hid] using this
      have hl1 : (gat L most 1 n).length = l1 := HLEN.out.2
      rw [hl1] at HI
      have HLL := hid hl1
      clear hl1
      have hI := (index62 a0 a1 l0 l1 c0 c1 wr).2
      go_wp2
      clear hI
      go_loopw [7, 9] (fun ws rs wr => ∃ (m : Nat) (W : Int) (B : List Bool), m ≤ l1 ∧ rs = .slice a1 m c1 ∧ ws = .int .i64 W ∧ 0 ≤ W ∧ W ≤ 419430800 ∧ Hid (B.length = n) ∧ Hid ((lv most (((gat L most 1 n).take m).reverse ++ []) W B).2 = FIN) ∧ Hid (LS w wr h B (.slice a0 l0 c0) (.slice a1 l1 c1) (gat L most 0 n) (gat L most 1 n))) (fun _ rs _ => sLen rs)
      case atStart => exact ⟨l1, W, B, Nat.le_refl _, rfl, rfl, hW0, hW1, HBl.out, HI.out, HS.out⟩
      case round =>
        clear HI HF HS hW0 hW1 HBl
        clear B
        obtain ⟨m, W, B, hm, rfl, rfl, hW0, hW1, HBl, HF, HS⟩ := hrel
        by_cases hm0 : m = 0
        · subst hm0
          go_wp2
          go_roundw
          case rel => exact ⟨2, W, B, by omega, rfl, rfl, hW0, hW1, HBl.out, (by have := HF.out; simpa [restL, Hid] using this), HS.out⟩
          case measure => simp [intOf]
        · obtain ⟨q, rfl⟩ : ∃ q, m = q + 1 := ⟨m - 1, by omega⟩
          by_cases hle : W ≤ most
          · have HD : Hid (RowB wr h FIN ∧ G w wr) := by
              have := HF.out
              rw [lv_le hle] at this
              rw [← this]
              exact ⟨HS.out.1, HS.out.2.2.2.1⟩
            go_wp2
            try rw [Exit.noGoto_ret]
            go_ret
            exact ⟨rfl, HD.out⟩
          · obtain ⟨p, hp⟩ : ∃ p, (gat L most 1 n)[q]? = some p := ⟨(gat L most 1 n)[q]'(by rw [HLL.out]; omega), by simp⟩
            have hpk := gat_ok HP.out h0 (List.mem_of_getElem? hp)
            obtain ⟨g, rfl, hl⟩ := owns_at HS.out.2.2.1 hp
            have q0 : wr.cell? ⟨g, q * 2, none⟩ = some (.int .i64 (p.1 : Int)) := hl 0 _ rfl
            have q1 : wr.cell? ⟨g, q * 2 + 1, none⟩ = some (.int .i64 p.2) := hl 1 _ rfl
            have f0 := HS.out.1.frozen p.1
            have hpn : p.1 < n := by have := hpk.1; rw [HN.out] at this; exact this
            have hcell : wr.cell? ⟨h, p.1, none⟩ = some (.bool (B[p.1]'(by rw [HBl.out]; exact hpn))) := HS.out.1.at (by simp)
            obtain ⟨bb, hbb⟩ : ∃ bb, (B[p.1]'(by rw [HBl.out]; exact hpn)) = bb := ⟨_, rfl⟩
            rw [hbb] at hcell
            have hhl := World.block_lt_of_cell? wr _ hcell
            have hgl := World.block_lt_of_cell? wr _ q0
            have HS2 := hid ((HS.out.set p.1).up (G.al _ (.cells #[.int .i64 (p.1 : Int), .int .i64 p.2] 94)))
            have HF1 : Hid ((lv most (((gat L most 1 n).take q).reverse ++ []) (W - p.2) (B.set p.1 true)).2 = FIN) := by
              have := HF.out
              rw [rev_take hp, List.cons_append, lv, if_neg hle] at this
              exact this
            have HB1 : Hid ((B.set p.1 true).length = n) := by have := HBl.out; simpa [Hid] using this
            have hsub : 0 ≤ W - p.2 ∧ W - p.2 ≤ 419430800 := by omega
            have hcp := owns_cap HS.out.2.2.1
            rw [HLL.out] at hcp
            have hlq : l1 ≤ 400 := by have h1 := gat_len L most 1 n; have h2 := HN.out; rw [HLL.out] at h1; omega
            have qB : (q : Int) ≤ 400 := by omega
            have qC : (q : Int) ≤ (c1 : Int) := by omega
            have q00 : (0 : Int) ≤ (q : Int) := by omega
            have pI : (p.1 : Int) < (n : Int) := by omega
            have p0 : (0 : Int) ≤ (p.1 : Int) := by omega
            have qI : ((q + 1 : Nat) : Int) - 1 = (q : Int) := by omega
            clear HF HS hl hbb
            obtain ⟨p1, p2⟩ := p
            simp only at *
            go_wp2
            go_roundw
            case rel => exact ⟨q, W - p2, B.set p1 true, by omega, rfl, rfl, hsub.1, hsub.2, HB1.out, HF1.out, HS2.out⟩
            case measure => simp [sLen]

end Go.Proofs.YtpenaeoodfgmpaaGreatDoor
