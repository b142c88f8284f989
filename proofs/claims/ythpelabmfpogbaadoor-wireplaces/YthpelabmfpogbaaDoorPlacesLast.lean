/-
  WirePlaces' walk: a Raw, and a text, that is too short.
-/
import Derived.Test.YthpelabmfpogbaaDoorPlacesMore
namespace Go.Proofs.YthpelabmfpogbaaDoor
open Go.RowKit Wire

theorem made_has {w : World} {base z : Nat} {a : Addr} (h : w.ownsRow base 5 1 (.slice (some a) z z) z (madeCells #[Value.int .u8 0] z).toList) : Has w (.slice (some a) z z) (List.replicate z 0) := by
  have : Owns w base (.slice (some a) z z) (List.replicate z 0) := by
    unfold Owns
    have e : (madeCells #[Value.int .u8 0] z).toList = (List.replicate z (0 : Int)).map (Value.int .u8) := by
      rw [toList_madeCells_one]; simp
    rw [e] at h
    simpa using h
  exact this.has

theorem made_below {w w' : World} (h : w.grownBy w' none) : Below w.heap.size w w' := ⟨h.os, h.tape, h.output, h.size, fun k hk => h.block k hk (by simp)⟩

set_option maxHeartbeats 2000000 in
set_option maxRecDepth 100000 in
theorem places_raw (ao : Option Addr) (cap : Nat) (b : List Int) (mo' : Option Addr) (capm : Nat) (m : List Int) (mo n : Int) (sec : Bool) (w : World) (hbl : b.length ≤ 65536) (hml : m.length ≤ 65536) (hn : -9223372036854775808 ≤ n ∧ n ≤ 65536)
    (hb : Has w (.slice ao b.length cap) b) (hB : Bytes b) (hm : Has w (.slice mo' m.length capm) m) 
    (hg0 : w.cell? ⟨0, 0, none⟩ = some (.iface 84 (.agg #[.pointer (some ⟨1, 33, none⟩)]))) (h10 : (oneS b 4 n).fe = 10) (hnl : (b.length : Int) < n) :
    Calls Tryd.prog 5 #[.slice ao b.length cap, .slice mo' m.length capm, .agg #[.int .i64 4, .bool sec, .int .u64 mo, .int .i64 n]] w fun e w' => e = .returned (.bool true) ∧ Below w.heap.size w w' := by
  have hbox : Below w.heap.size w (w.alloc (.cells #[.int .i64 4, .bool sec, .int .u64 mo, .int .i64 n] 40)) := (Below.refl _ _).alloc (Nat.le_refl _) _
  have hgb := (hbox.cell (p := ⟨0, 0, none⟩) (World.block_lt_of_cell? w ⟨0, 0, none⟩ hg0)).trans hg0
  have HG : Hid ((w.alloc (.cells #[.int .i64 4, .bool sec, .int .u64 mo, .int .i64 n] 40)).cell? ⟨0, 0, none⟩ = some (.iface 84 (.agg #[.pointer (some ⟨1, 33, none⟩)]))) := hgb
  have hcap : b.length ≤ cap := by
    obtain ⟨_, _, h, hc⟩ := hb.form
    simp at h; omega
  have HB0 : Hid (∀ wz, Below w.heap.size w wz → Has wz (.slice ao b.length cap) b) := fun wz hz => hb.below hz
  have HM0 : Hid (∀ wz, Below w.heap.size w wz → Has wz (.slice mo' m.length capm) m) := fun wz hz => hm.below hz
  have hN : w.heap.size ≤ w.heap.size := Nat.le_refl _
  have hn63 : -9223372036854775808 ≤ n ∧ n ≤ 9223372036854775807 := by omega
  clear hg0 hgb hb hm
  go_enter Tryd.func5, Tryd.ntmps5
  go_wp2_with fail
  refine (known_any _ HG.out).mono ?_
  rintro e w1 ⟨rfl, hb1⟩
  have hbx : Boxed w1 w.heap.size 4 mo n sec := Boxed.below ⟨by simp, by simp, by simp, by simp⟩ hb1
  replace hb1 := Below.up hbox hb1
  obtain ⟨hx0, hx1, hx2, hx3⟩ := hbx
  clear hbox HG
  have F1 := fun (wz : World) (vz : Value) (lz : List Int) (hv : Has wz vz lz) (hl : lz.length ≤ 1048576) (hb : Bytes lz) => fault_any vz lz 4 mo n sec wz hv hl hb hn63
  have HF : Hid (∀ (wz : World) (vz : Value) (lz : List Int), Has wz vz lz → lz.length ≤ 1048576 → Bytes lz → Calls Tryd.prog 16 #[vz, .agg #[.int .i64 4, .bool sec, .int .u64 mo, .int .i64 n]] wz fun e w' => e = .returned (tellS (oneS lz 4 n)) ∧ Below wz.heap.size wz w') := F1
  clear F1
  obtain ⟨hst, hfix⟩ := short_raw h10 (List.replicate (n.toNat - b.length) 0) (by simp; omega)
  have C1 : Hid (Calls Tryd.prog 16 #[.slice ao b.length cap, .agg #[.int .i64 4, .bool sec, .int .u64 mo, .int .i64 n]] w1 fun e w' => e = .returned (.tuple #[.int .i64 b.length, .int .i64 10, .bool true]) ∧ Below w1.heap.size w1 w') := by
    have := HF.out w1 _ b (HB0.out _ hb1) (by omega) hB
    rw [hst, tell_short] at this
    exact this
  have HX : Hid ((oneS (b ++ List.replicate (n.toNat - b.length) 0) 4 n).fe = 0) := hfix
  clear hst hfix h10
  go_wp2_with fail
  refine C1.out.mono ?_
  rintro e w2 ⟨rfl, hb2⟩
  obtain ⟨y0, y1, y2, y3⟩ := Boxed.below ⟨hx0, hx1, hx2, hx3⟩ hb2
  replace hb2 := below_read hb1 hN hb2
  have hlt2 : w.heap.size < w2.heap.size := World.block_lt_of_cell? w2 _ y0
  clear hb1 hx0 hx1 hx2 hx3 C1
  go_wp2_with fail
  refine (behind_any _ _ b [] _ (HB0.out _ hb2) (Has.nil _) (by simp; omega)).mono ?_
  rintro e w3 ⟨v3, rfl, h3, hb3⟩
  rw [List.append_nil] at h3
  obtain ⟨z0, z1, z2, z3⟩ := Boxed.below ⟨y0, y1, y2, y3⟩ hb3
  have hb3' := below_read hb2 hN hb3
  have hlt3 : w.heap.size < w3.heap.size := World.block_lt_of_cell? w3 _ z0
  have hs3 := hb3.size
  clear hb3 hb2 y0 y1 y2 y3
  obtain ⟨z, hz⟩ : ∃ z : Nat, z = n.toNat - b.length := ⟨_, rfl⟩
  have hzi : n - (b.length : Int) = (z : Int) := by omega
  have hzm : z ≤ 65536 := by omega
  have hzp : (0 : Int) < z := by omega
  rw [← hz] at HX
  clear hz
  obtain ⟨i0, hi, hz0, hz1, hz2⟩ := info_parts Tryd.info5
  go_wp2_with (at_make; refine wpList_make_full _ rfl (.tmp 103) (.tmp 103) 23 rfl w3.heap.size 5 i0 (.int .u8 0) 1 Tryd.underlying23 hi hz0 hz1 .i64 .i64 z z z rfl rfl rfl rfl (by rw [hz2]; omega) (by unfold maxLen; omega) (Nat.le_refl _) ?_)
  intro w4 h4 hg4
  replace h4 := made_has h4
  have hb4 := made_below hg4
  obtain ⟨y0, y1, y2, y3⟩ := Boxed.below ⟨z0, z1, z2, z3⟩ hb4
  have h34 := h3.below hb4 (Nat.le_refl _)
  have hb4' := below_read hb3' hN hb4
  clear hb4 hg4 h3 hb3' z0 z1 z2 z3
  go_wp2_with fail
  refine (behind_any _ _ b (List.replicate z 0) _ h34.has h4 (by simp; omega)).mono ?_
  rintro e w5 ⟨v5, rfl, h5, hb5⟩
  obtain ⟨z0, z1, z2, z3⟩ := Boxed.below ⟨y0, y1, y2, y3⟩ hb5
  have hb5' := below_read hb4' hN hb5
  clear hb5 h4 h34 hb4' y0 y1 y2 y3
  have C2 : Hid (Calls Tryd.prog 16 #[v5, .agg #[.int .i64 4, .bool sec, .int .u64 mo, .int .i64 n]] w5 fun e w' => e = .returned (.tuple #[.int .i64 0, .int .i64 0, .bool true]) ∧ Below w5.heap.size w5 w') := by
    have := HF.out w5 v5 (b ++ List.replicate z 0) h5.has (by simp; omega) (hB.append (by intro x hx; have := List.eq_of_mem_replicate hx; omega))
    rw [tell_none HX.out] at this
    exact this
  clear h5
  go_wp2_with fail
  refine C2.out.mono ?_
  rintro e w6 ⟨rfl, hb6⟩
  have hb7 := below_read hb5' hN hb6
  go_wp2
  go_ret
  exact ⟨rfl, hb7⟩

set_option maxHeartbeats 2000000 in
set_option maxRecDepth 100000 in
theorem places_text (ao : Option Addr) (cap : Nat) (b : List Int) (mo' : Option Addr) (capm : Nat) (m : List Int) (mo n : Int) (sec : Bool) (w : World) (hbl : b.length ≤ 65536) (hml : m.length ≤ 65536) (hn : -9223372036854775808 ≤ n ∧ n ≤ 65536)
    (hb : Has w (.slice ao b.length cap) b) (hB : Bytes b) (hm : Has w (.slice mo' m.length capm) m) 
    (hg0 : w.cell? ⟨0, 0, none⟩ = some (.iface 84 (.agg #[.pointer (some ⟨1, 33, none⟩)]))) (h10 : (oneS b 3 n).fe = 10) :
    Calls Tryd.prog 5 #[.slice ao b.length cap, .slice mo' m.length capm, .agg #[.int .i64 3, .bool sec, .int .u64 mo, .int .i64 n]] w fun e w' => e = .returned (.bool true) ∧ Below w.heap.size w w' := by
  have hbox : Below w.heap.size w (w.alloc (.cells #[.int .i64 3, .bool sec, .int .u64 mo, .int .i64 n] 40)) := (Below.refl _ _).alloc (Nat.le_refl _) _
  have hgb := (hbox.cell (p := ⟨0, 0, none⟩) (World.block_lt_of_cell? w ⟨0, 0, none⟩ hg0)).trans hg0
  have HG : Hid ((w.alloc (.cells #[.int .i64 3, .bool sec, .int .u64 mo, .int .i64 n] 40)).cell? ⟨0, 0, none⟩ = some (.iface 84 (.agg #[.pointer (some ⟨1, 33, none⟩)]))) := hgb
  have hcap : b.length ≤ cap := by
    obtain ⟨_, _, h, hc⟩ := hb.form
    simp at h; omega
  have HB0 : Hid (∀ wz, Below w.heap.size w wz → Has wz (.slice ao b.length cap) b) := fun wz hz => hb.below hz
  have HM0 : Hid (∀ wz, Below w.heap.size w wz → Has wz (.slice mo' m.length capm) m) := fun wz hz => hm.below hz
  have hN : w.heap.size ≤ w.heap.size := Nat.le_refl _
  have hn63 : -9223372036854775808 ≤ n ∧ n ≤ 9223372036854775807 := by omega
  clear hg0 hgb hb hm
  go_enter Tryd.func5, Tryd.ntmps5
  go_wp2_with fail
  refine (known_any _ HG.out).mono ?_
  rintro e w1 ⟨rfl, hb1⟩
  have hbx : Boxed w1 w.heap.size 3 mo n sec := Boxed.below ⟨by simp, by simp, by simp, by simp⟩ hb1
  replace hb1 := Below.up hbox hb1
  obtain ⟨hx0, hx1, hx2, hx3⟩ := hbx
  clear hbox HG
  have F1 := fun (wz : World) (vz : Value) (lz : List Int) (hv : Has wz vz lz) (hl : lz.length ≤ 1048576) (hb : Bytes lz) => fault_any vz lz 3 mo n sec wz hv hl hb hn63
  have HF : Hid (∀ (wz : World) (vz : Value) (lz : List Int), Has wz vz lz → lz.length ≤ 1048576 → Bytes lz → Calls Tryd.prog 16 #[vz, .agg #[.int .i64 3, .bool sec, .int .u64 mo, .int .i64 n]] wz fun e w' => e = .returned (tellS (oneS lz 3 n)) ∧ Below wz.heap.size wz w') := F1
  clear F1
  obtain ⟨hst, hfix⟩ := short_text h10
  have C1 : Hid (Calls Tryd.prog 16 #[.slice ao b.length cap, .agg #[.int .i64 3, .bool sec, .int .u64 mo, .int .i64 n]] w1 fun e w' => e = .returned (.tuple #[.int .i64 b.length, .int .i64 10, .bool true]) ∧ Below w1.heap.size w1 w') := by
    have := HF.out w1 _ b (HB0.out _ hb1) (by omega) hB
    rw [hst, tell_short] at this
    exact this
  have HX : Hid (∀ m st, uintS b ⟨0, 0, 0⟩ 18446744073709551615 = (m, st) → st.fe = 0 → ∀ z : List Int, m + st.p ≤ b.length + z.length → (oneS (b ++ z) 3 n).fe = 0) := hfix
  have H10 : Hid ((oneS b 3 n).fe = 10) := h10
  clear hst hfix h10
  go_wp2_with fail
  refine C1.out.mono ?_
  rintro e w2 ⟨rfl, hb2⟩
  obtain ⟨y0, y1, y2, y3⟩ := Boxed.below ⟨hx0, hx1, hx2, hx3⟩ hb2
  replace hb2 := below_read hb1 hN hb2
  have hlt2 : w.heap.size < w2.heap.size := World.block_lt_of_cell? w2 _ y0
  clear hb1 hx0 hx1 hx2 hx3 C1
  go_wp2_with fail
  refine (behind_any _ _ b [] _ (HB0.out _ hb2) (Has.nil _) (by simp; omega)).mono ?_
  rintro e w3 ⟨v3, rfl, h3, hb3⟩
  rw [List.append_nil] at h3
  obtain ⟨z0, z1, z2, z3⟩ := Boxed.below ⟨y0, y1, y2, y3⟩ hb3
  have hb3' := below_read hb2 hN hb3
  have hlt3 : w.heap.size < w3.heap.size := World.block_lt_of_cell? w3 _ z0
  have hs3 := hb3.size
  clear hb3 hb2 y0 y1 y2 y3
  have HV3 : Hid (∀ k, v3.ownBlock = some k → k < w3.heap.size) := fun k e => (h3.lt k e).2
  go_wp2_with fail
  refine (read_any _ b _ (HB0.out _ hb3') (by omega)).mono ?_
  rintro e w7 ⟨X, rfl, hX, hx, hb7⟩
  obtain ⟨y0, y1, y2, y3⟩ := Boxed.below ⟨z0, z1, z2, z3⟩ hb7
  have h37 := h3.below hb7 (Nat.le_refl _)
  have hXN : w.heap.size ≤ X := Nat.le_trans hb3'.size hX
  have hX3 : w3.heap.size ≤ X := hX
  replace hb7 := below_read hb3' hN hb7
  replace hx : RdS w7 w3.heap.size X b ⟨0, 0, 0⟩ := hx
  clear hX h3 hb3' z0 z1 z2 z3
  go_wp2_with fail
  refine (uint_any _ X 18446744073709551615 b _ _ hx hB).mono ?_
  obtain ⟨us, hus⟩ : ∃ us, uintS b ⟨0, 0, 0⟩ 18446744073709551615 = us := ⟨_, rfl⟩
  rw [hus]
  obtain ⟨u, st⟩ := us
  have HU : Hid (uintS b ⟨0, 0, 0⟩ 18446744073709551615 = (u, st)) := hus
  clear hus
  rintro e w8 ⟨rfl, hx8, hg8⟩
  simp only at hx8
  obtain ⟨z0, z1, z2, z3⟩ : Boxed w8 w.heap.size 3 mo n sec := ⟨hg8.cell y0 (by simp; omega), hg8.cell y1 (by simp; omega), hg8.cell y2 (by simp; omega), hg8.cell y3 (by simp; omega)⟩
  have h38 : Owns w8 w2.heap.size v3 b := h37.block fun k e => hg8.block k (h37.lt k e).2 (by
    have := HV3.out k e
    simp; omega)
  have hb8 := below_grown hb7 hN hg8 hXN
  clear hx hg8 hb7 h37 y0 y1 y2 y3
  by_cases hf : st.fe = 0
  · obtain ⟨k, hrd, hst⟩ := uint_ok_inv HU.out hf
    subst hst
    have hkl := (rd_le _ _ _ _ hrd).2
    have hu64 := rd_lt64 hrd
    by_cases hu : 65536 < u
    · go_wp2_with (go_at_call 13; refine (err_none _ _ _ _ _ _ hx8).mono ?_; rintro e w9 ⟨rfl, rfl⟩)
      go_ret
      exact ⟨rfl, hb8⟩
    · have hfx := HX.out u ⟨k, 0, 0⟩ HU.out rfl (List.replicate (u + k - b.length) 0) (by simp; omega)
      have hpos : b.length < u + k := by
        rcases Nat.lt_or_ge b.length (u + k) with h | h
        · exact h
        · exfalso
          have h10 := H10.out
          have e : oneS b 3 n = (textS b ⟨0, 0, 0⟩ 4611686018427387904).2 := by simp [oneS]
          rw [e] at h10
          simp only [textS, ne_eq, not_true_eq_false, if_false, List.drop_zero, hrd, Nat.zero_add] at h10
          rw [if_neg (by omega), if_neg (by omega)] at h10
          simp at h10
      obtain ⟨z, hz⟩ : ∃ z : Nat, z = u + k - b.length := ⟨_, rfl⟩
      rw [← hz] at hfx
      have HX2 : Hid ((oneS (b ++ List.replicate z 0) 3 n).fe = 0) := hfx
      have hzi : (u : Int) + k - (b.length : Int) = (z : Int) := by omega
      have hzm : z ≤ 65536 := by simp at hkl; omega
      have hzp : (0 : Int) < z := by omega
      have hus : u ≤ 65536 := by omega
      have hkl' : k ≤ b.length := by simp at hkl; omega
      clear hfx hz hrd HU HX hf hkl hu64 H10
      obtain ⟨i0, hi, hz0, hz1, hz2⟩ := info_parts Tryd.info5
      go_wp2_with (first | (go_at_call 13; refine (err_none _ _ _ _ _ _ hx8).mono ?_; rintro e w9 ⟨rfl, rfl⟩) | (go_at_call 12; refine (at_any _ _ _ _ _ hx8).mono ?_; rintro e w9 ⟨rfl, rfl⟩))
      obtain ⟨w10, hrun, h4, hg4⟩ := run_make_full (P := Tryd.prog) w9 w9.heap.size 23 5 i0 (.int .u8 0) 1 Tryd.underlying23 hi hz0 hz1 .i64 .i64 z (by rw [hz2]; omega) (by unfold maxLen; omega) (Nat.le_refl _)
      rw [hrun]
      clear hrun
      replace h4 := made_has (show w10.ownsRow w9.heap.size 5 1 (.slice (some ⟨w9.heap.size, 0, none⟩) z z) z (madeCells #[Value.int .u8 0] z).toList by simpa [Value.cells] using h4)
      have hb4 := made_below hg4
      obtain ⟨y0, y1, y2, y3⟩ := Boxed.below ⟨z0, z1, z2, z3⟩ hb4
      have h34 := h38.below hb4 (Nat.le_refl _)
      have hb4' := below_read hb8 hN hb4
      clear hb4 hg4 h38 hb8 z0 z1 z2 z3
      go_wp2_with fail
      refine (behind_any _ _ b (List.replicate z 0) _ h34.has h4 (by simp; omega)).mono ?_
      rintro e w5 ⟨v5, rfl, h5, hb5⟩
      obtain ⟨z0, z1, z2, z3⟩ := Boxed.below ⟨y0, y1, y2, y3⟩ hb5
      have hb5' := below_read hb4' hN hb5
      clear hb5 h4 h34 hb4' y0 y1 y2 y3
      have C2 : Hid (Calls Tryd.prog 16 #[v5, .agg #[.int .i64 3, .bool sec, .int .u64 mo, .int .i64 n]] w5 fun e w' => e = .returned (.tuple #[.int .i64 0, .int .i64 0, .bool true]) ∧ Below w5.heap.size w5 w') := by
        have := HF.out w5 v5 (b ++ List.replicate z 0) h5.has (by simp; omega) (hB.append (by intro x hx; have := List.eq_of_mem_replicate hx; omega))
        rw [tell_none HX2.out] at this
        exact this
      clear h5
      go_wp2_with fail
      refine C2.out.mono ?_
      rintro e w6 ⟨rfl, hb6⟩
      have hb7 := below_read hb5' hN hb6
      go_wp2
      go_ret
      exact ⟨rfl, hb7⟩
  · go_wp2_with (go_at_call 13; refine (err_some _ _ _ _ _ hx8 hf).mono ?_; rintro e w9 ⟨rfl, rfl⟩)
    go_ret
    exact ⟨rfl, hb8.alloc hb8.size _⟩

end Go.Proofs.YthpelabmfpogbaaDoor
