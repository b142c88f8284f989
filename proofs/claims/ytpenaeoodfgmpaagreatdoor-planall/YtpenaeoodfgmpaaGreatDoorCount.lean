/-
  plan.counted by contract.
-/
import Derived.Test.YtpenaeoodfgmpaaGreatDoorFlat
import Derived.BigRegion
namespace Go.Proofs.YtpenaeoodfgmpaaGreatDoor
open Go.RowKit

theorem Tryz.info43 : (Tryz.prog.info? 62).map (fun i => (i.zero, i.size, i.bytes)) = some (some (.agg z43), 10, 88) := by kernel_rfl
/-- cells that are counted up to k -/
def mid (L : List Cd) (k : Nat) : List Cd := (L.take k).map cnt ++ L.drop k
theorem mid_len (L : List Cd) (k : Nat) : (mid L k).length = L.length := by simp [mid]; omega
theorem mid_at {L : List Cd} {k : Nat} {c : Cd} (h : L[k]? = some c) : (mid L k)[k]? = some c := by
  have hk := (List.getElem?_eq_some_iff.1 h).1
  unfold mid
  rw [List.getElem?_append_right (by simp; omega)]
  simp only [List.length_map, List.length_take, Nat.min_eq_left (Nat.le_of_lt hk), Nat.sub_self, List.getElem?_drop, Nat.add_zero]
  exact h
theorem mid_step {L : List Cd} {k : Nat} {c : Cd} (h : L[k]? = some c) : (mid L k).set k (cnt c) = mid L (k + 1) := by
  have hk := (List.getElem?_eq_some_iff.1 h).1
  unfold mid
  rw [List.set_append_right _ _ (by simp; omega)]
  simp only [List.length_map, List.length_take, Nat.min_eq_left (Nat.le_of_lt hk), Nat.sub_self]
  rw [List.drop_eq_getElem_cons hk, List.set_cons_zero, List.take_add_one, List.map_append, h]
  simp
theorem But.drew {K : Nat} {a b : World} (h : But K a b) : But K a b.drew := ⟨h.os, h.tape, h.output, h.size, h.block⟩
theorem RowC.drew {w : World} {h : Nat} {M : List Cd} (hr : RowC w h M) : RowC w.drew h M := hr
/-- the world behind a round of counted -/
def turnW (w : World) (h k : Nat) (c : Cd) : World :=
  ((((((w.setCell ⟨h, k * 10 + 4, none⟩ (.int .i64 (up0 c.keep))).setCell ⟨h, k * 10 + 5, none⟩ (.int .i64 (up0 c.take))).setCell ⟨h, k * 10 + 6, none⟩ (.int .i64 (up0 c.names))).setCell ⟨h, k * 10 + 7, none⟩ (.int .i64 (up0 c.bytes))).setCell ⟨h, k * 10 + 8, none⟩ (.int .i64 (up0 c.hn))).setCell ⟨h, k * 10 + 8 + 1, none⟩ (.int .i64 (up0 c.hb))).drew.drew.drew
theorem turn_but (w : World) (h k : Nat) (c : Cd) : But h w (turnW w h k c) :=
  have h1 := ((((((But.refl h w).setCell (k * 10 + 4) (.int .i64 (up0 c.keep))).setCell (k * 10 + 5) (.int .i64 (up0 c.take))).setCell (k * 10 + 6) (.int .i64 (up0 c.names))).setCell (k * 10 + 7) (.int .i64 (up0 c.bytes))).setCell (k * 10 + 8) (.int .i64 (up0 c.hn))).setCell (k * 10 + 8 + 1) (.int .i64 (up0 c.hb))
  h1.drew.drew.drew
theorem turn_row {w : World} {h k : Nat} {c : Cd} {M : List Cd} (hr : RowC w h M) (hc : M[k]? = some c) : RowC (turnW w h k c) h (M.set k (cnt c)) := by
  have hk := (List.getElem?_eq_some_iff.1 hc).1
  have g : ∀ (N : List Cd) (d : Cd), N.length = M.length → (N.set k d)[k]? = some d := fun N d hN => by simp [hN, hk]
  have h1 := hr.set (j := 4) (c' := { c with keep := up0 c.keep }) (y := .int .i64 (up0 c.keep)) hc (by omega) rfl
  have h2 := h1.set (j := 5) (c' := { c with keep := up0 c.keep, take := up0 c.take }) (y := .int .i64 (up0 c.take)) (g _ _ rfl) (by omega) rfl
  have h3 := h2.set (j := 6) (c' := { c with keep := up0 c.keep, take := up0 c.take, names := up0 c.names }) (y := .int .i64 (up0 c.names)) (g _ _ (by simp)) (by omega) rfl
  have h4 := h3.set (j := 7) (c' := { c with keep := up0 c.keep, take := up0 c.take, names := up0 c.names, bytes := up0 c.bytes }) (y := .int .i64 (up0 c.bytes)) (g _ _ (by simp)) (by omega) rfl
  have h5 := h4.set (j := 8) (c' := { c with keep := up0 c.keep, take := up0 c.take, names := up0 c.names, bytes := up0 c.bytes, hn := up0 c.hn }) (y := .int .i64 (up0 c.hn)) (g _ _ (by simp)) (by omega) rfl
  have h6 := (h5.set (j := 9) (c' := cnt c) (y := .int .i64 (up0 c.hb)) (g _ _ (by simp)) (by omega) rfl).drew.drew.drew
  simp only [List.set_set] at h6
  exact h6
set_option maxHeartbeats 2000000 in
set_option maxRecDepth 100000 in
theorem counted_any (ao : Option Addr) (cp : Nat) (L : List Cd) (w : World) (hv : HasC w (.slice ao L.length cp) L) (hn : L.length ≤ 400) :
    Calls Tryz.prog 19 #[.slice ao L.length cp] w fun e w' => e = .returned (.slice (some ⟨w.heap.size, 0, none⟩) L.length L.length) ∧ RowC w' w.heap.size (L.map cnt) ∧ G w w' := by
  obtain ⟨n, hn'⟩ : ∃ n, L.length = n := ⟨_, rfl⟩
  obtain ⟨i0, hi, hz0, hz1, hz2⟩ := info_parts Tryz.info43
  have hM : (Instr.makeSlice 22 (.int .i64 (n : Int)) (.int .i64 (n : Int))).run Tryz.prog w = .ok (.slice (some ⟨w.heap.size, 0, none⟩) n n) (w.alloc (.cells (madeCells z43 (n * 10)) 62)) := by
    have := run_make (P := Tryz.prog) w 22 62 i0 (.agg z43) Tryz.underlying22 hi hz0 .i64 .i64 n n (by omega) (Int.le_refl _) (by rw [hz2]; omega) (by omega)
    rw [hz1] at this
    simpa [Value.cells] using this
  obtain ⟨wm, ewm⟩ : ∃ wm, w.alloc (.cells (madeCells z43 (n * 10)) 62) = wm := ⟨_, rfl⟩
  rw [ewm] at hM
  have hgm : wm.heap[w.heap.size]? = some (.cells (madeCells z43 (n * 10)) 62 (0, 0)) := by rw [← ewm]; exact heap_alloc_new _ _
  have hbm : G w wm := by rw [← ewm]; exact G.al _ _
  obtain ⟨w2, hC, hr2, hb2⟩ : ∃ w2, (∀ ty, (Builtin.copy_ #[22, 22] ty #[.slice (some ⟨w.heap.size, 0, none⟩) n n, .slice ao n cp]).run Tryz.prog wm = .ok (goInt n) w2) ∧ RowC w2 w.heap.size L ∧ G w w2 := by
    have hvm := hv.up hbm
    obtain ⟨ao', cp', e, hc, _⟩ := hvm
    injection e with e1 e2 e3
    subst e1
    by_cases h0 : n = 0
    · refine ⟨wm, fun ty => ?_, ?_, hbm⟩
      · rw [run_copy_noneK wm 22 22 ty 62 _ _ _ _ _ _ 10 Tryz.underlying22 size43 (by simp [h0]), h0]; rfl
      · unfold RowC
        rw [hgm]
        have : L = [] := by rw [← List.length_eq_zero_iff]; omega
        subst this
        simp [h0, flat, madeCells]
    · obtain ⟨c0, hc0⟩ : ∃ c, L[0]? = some c := ⟨L[0]'(by omega), by simp⟩
      obtain ⟨g, o, rfl, _⟩ := hc 0 c0 hc0
      have hlen : (flat cc L).length = n * 10 := by rw [flat_len cc_size, hn']
      have hmin : Nat.min n n = n := Nat.min_self n
      refine ⟨wm.setRow w.heap.size (flat cc L).toArray, fun ty => ?_, setRow_heap wm _ _ _ _ _ hgm, ⟨hbm.os, hbm.tape, hbm.output, by simpa [World.setRow] using hbm.size, fun b hb => (setRow_other wm _ _ _ (by omega)).trans (hbm.block b hb)⟩⟩
      have := run_copy_rowK (P := Tryz.prog) wm 22 22 ty 62 w.heap.size 0 n n ⟨g, o, none⟩ n cp 10 _ 62 (flat cc L) Tryz.underlying22 size43 hgm (by rw [hmin, hlen]) (fun j v hj => by
        have hj' := (List.getElem?_eq_some_iff.1 hj).1
        rw [addr_add]
        obtain ⟨q, r, hq, hr⟩ : ∃ q r, j = q * 10 + r ∧ r < 10 := ⟨j / 10, j % 10, by omega, by omega⟩
        subst hq
        have hq2 : q < L.length := by omega
        obtain ⟨g', o', e', hl⟩ := hc q L[q] (by simp [hq2])
        rw [flat_at cc_size (x := L[q]) (by simp [hq2]) hr] at hj
        injection e' with e'
        injection e' with e1 e2
        subst e1; subst e2
        rw [← hl r v hj, Nat.add_assoc]) (by rw [size_madeCells]; omega) (flat_one cc_one L)
      rw [this, hmin]
      have e3 : List.drop (0 + (flat cc L).length) (madeCells z43 (n * 10)).toList = [] := List.drop_eq_nil_of_le (by simp [size_madeCells]; omega)
      rw [e3]
      simp
  have H2 := hid (And.intro hr2 hb2)
  have HK : Hid (∀ c ∈ L, c.ok) := hv.choose_spec.choose_spec.2.2
  obtain ⟨h, hh⟩ : ∃ h, w.heap.size = h := ⟨_, rfl⟩
  have HH := hid hh
  rw [hh] at hM hC H2
  clear hr2 hb2 hgm hbm ewm hz0 hz1 hz2 hi hv
  rw [hn', hh]
  clear hh
  go_enter Tryz.func19, Tryz.ntmps19
  go_wp2
  go_loopw [14] (fun i wr => ∃ k : Nat, k ≤ n ∧ i = .int .i64 k ∧ Hid (RowC wr h (mid L k) ∧ G w wr)) (fun i _ => n - (intOf i).toNat)
  case atStart => exact ⟨0, Nat.zero_le _, rfl, by have := H2.out; simpa [mid, Hid] using this⟩
  case round =>
    clear H2 hM hC
    obtain ⟨k, hk, rfl, HR⟩ := hrel
    by_cases hlt : k < n
    · obtain ⟨c, hc⟩ : ∃ c, L[k]? = some c := ⟨L[k]'(by omega), by simp⟩
      have hl := HR.out.1.lies (mid_at hc)
      have hf := HR.out.1.frozen
      have q4 : wr.cell? ⟨h, k * 10 + 4, none⟩ = some (.int .i64 c.keep) := by have := hl 4 _ rfl; rwa [Nat.zero_add] at this
      have q5 : wr.cell? ⟨h, k * 10 + 5, none⟩ = some (.int .i64 c.take) := by have := hl 5 _ rfl; rwa [Nat.zero_add] at this
      have q6 : wr.cell? ⟨h, k * 10 + 6, none⟩ = some (.int .i64 c.names) := by have := hl 6 _ rfl; rwa [Nat.zero_add] at this
      have q7 : wr.cell? ⟨h, k * 10 + 7, none⟩ = some (.int .i64 c.bytes) := by have := hl 7 _ rfl; rwa [Nat.zero_add] at this
      have q8 : wr.cell? ⟨h, k * 10 + 8, none⟩ = some (.int .i64 c.hn) := by have := hl 8 _ rfl; rwa [Nat.zero_add] at this
      have q9 : wr.cell? ⟨h, k * 10 + 9, none⟩ = some (.int .i64 c.hb) := by have := hl 9 _ rfl; rwa [Nat.zero_add] at this
      have f4 := hf (k * 10 + 4)
      have f5 := hf (k * 10 + 5)
      have f6 := hf (k * 10 + 6)
      have f7 := hf (k * 10 + 7)
      have f8 := hf (k * 10 + 8)
      have f9 := hf (k * 10 + 9)
      clear hl hf
      have ltI : (k : Int) < (n : Int) := by omega
      have geI : (0 : Int) ≤ (k : Int) := by omega
      have HN : Hid (RowC (turnW wr h k c) h (mid L (k + 1)) ∧ G w (turnW wr h k c)) := by
        refine ⟨?_, ?_⟩
        · rw [← mid_step hc]
          exact turn_row HR.out.1 (mid_at hc)
        · have hh : w.heap.size ≤ h := Nat.le_of_eq HH.out
          exact (HR.out.2).trans ((turn_but wr h k c).below hh HR.out.2.size)
      unfold turnW at HN
      have e4 : (if c.keep < 0 then 0 else c.keep) = up0 c.keep := by unfold up0 mx; split <;> split <;> omega
      have e5 : (if c.take < 0 then 0 else c.take) = up0 c.take := by unfold up0 mx; split <;> split <;> omega
      have e6 : (if c.names < 0 then 0 else c.names) = up0 c.names := by unfold up0 mx; split <;> split <;> omega
      have e7 : (if c.bytes < 0 then 0 else c.bytes) = up0 c.bytes := by unfold up0 mx; split <;> split <;> omega
      have e8 : (if c.hn < 0 then 0 else c.hn) = up0 c.hn := by unfold up0 mx; split <;> split <;> omega
      have e9 : (if c.hb < 0 then 0 else c.hb) = up0 c.hb := by unfold up0 mx; split <;> split <;> omega
      generalize up0 c.keep = a4 at *
      generalize up0 c.take = a5 at *
      generalize up0 c.names = a6 at *
      generalize up0 c.bytes = a7 at *
      generalize up0 c.hn = a8 at *
      generalize up0 c.hb = a9 at *
      clear hc
      go_wp2
      go_region
      go_wp2
      go_region
      go_wp2
      go_region
      go_wp2
      go_roundw
      case rel => exact ⟨k + 1, by omega, by go_num, HN.out⟩
      case measure => simp [intOf]; omega
    · obtain rfl : k = n := by omega
      have HD : Hid (RowC wr h (L.map cnt) ∧ G w wr) := by
        have := HR.out
        rwa [show mid L k = L.map cnt by simp [mid, ← hn']] at this
      go_wp2
      go_ret
      exact ⟨rfl, HD.out⟩
end Go.Proofs.YtpenaeoodfgmpaaGreatDoor
