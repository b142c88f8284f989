/-
  WirePlaces' walk: bytes that end too early, and all else.
-/
import Derived.Test.YthpelabmfpogbaaDoorPlacesWalk
namespace Go.Proofs.YthpelabmfpogbaaDoor
open Go.RowKit Wire

theorem Boxed.under {w w' : World} {B N : Nat} {kind mo n : Int} {sec : Bool} (h : Boxed w B kind mo n sec) (hb : Below N w w') (hN : B < N) : Boxed w' B kind mo n sec :=
  ⟨(hb.cell hN).trans h.1, (hb.cell hN).trans h.2.1, (hb.cell hN).trans h.2.2.1, (hb.cell hN).trans h.2.2.2⟩

set_option maxHeartbeats 2000000 in
set_option maxRecDepth 100000 in
theorem places_other (ao : Option Addr) (cap : Nat) (b : List Int) (mo' : Option Addr) (capm : Nat) (m : List Int) (kind mo n : Int) (sec : Bool) (w : World) (hbl : b.length ≤ 65536) (hml : m.length ≤ 65536) (hn : -9223372036854775808 ≤ n ∧ n ≤ 65536)
    (hb : Has w (.slice ao b.length cap) b) (hB : Bytes b) (hm : Has w (.slice mo' m.length capm) m) 
    (hg0 : w.cell? ⟨0, 0, none⟩ = some (.iface 84 (.agg #[.pointer (some ⟨1, 33, none⟩)]))) (h11 : ¬ (oneS b kind n).fe = 11) (h10 : ¬ (oneS b kind n).fe = 10) :
    Calls Tryd.prog 5 #[.slice ao b.length cap, .slice mo' m.length capm, .agg #[.int .i64 kind, .bool sec, .int .u64 mo, .int .i64 n]] w fun e w' => e = .returned (.bool true) ∧ Below w.heap.size w w' := by
  have hbox : Below w.heap.size w (w.alloc (.cells #[.int .i64 kind, .bool sec, .int .u64 mo, .int .i64 n] 40)) := (Below.refl _ _).alloc (Nat.le_refl _) _
  have hgb := (hbox.cell (p := ⟨0, 0, none⟩) (World.block_lt_of_cell? w ⟨0, 0, none⟩ hg0)).trans hg0
  have HG : Hid ((w.alloc (.cells #[.int .i64 kind, .bool sec, .int .u64 mo, .int .i64 n] 40)).cell? ⟨0, 0, none⟩ = some (.iface 84 (.agg #[.pointer (some ⟨1, 33, none⟩)]))) := hgb
  have hcap : b.length ≤ cap := by
    obtain ⟨_, _, h, hc⟩ := hb.form
    simp at h; omega
  have HB0 : Hid (∀ wz, Below w.heap.size w wz → Has wz (.slice ao b.length cap) b) := fun wz hz => hb.below hz
  have HM0 : Hid (∀ wz, Below w.heap.size w wz → Has wz (.slice mo' m.length capm) m) := fun wz hz => hm.below hz
  have hN : w.heap.size ≤ w.heap.size := Nat.le_refl _
  have hn63 : -9223372036854775808 ≤ n ∧ n ≤ 9223372036854775807 := by omega
  clear hg0 hgb hb hm
  go_enter Tryd.func5, Tryd.ntmps5
  go_wp2_with fail
  refine (known_any _ HG.out).mono ?_
  rintro e w1 ⟨rfl, hb1⟩
  have hbx : Boxed w1 w.heap.size kind mo n sec := Boxed.below ⟨by simp, by simp, by simp, by simp⟩ hb1
  replace hb1 := Below.up hbox hb1
  obtain ⟨hx0, hx1, hx2, hx3⟩ := hbx
  clear hbox HG
  have F1 := fun (wz : World) (vz : Value) (lz : List Int) (hv : Has wz vz lz) (hl : lz.length ≤ 1048576) (hb : Bytes lz) => fault_any vz lz kind mo n sec wz hv hl hb hn63
  have HF : Hid (∀ (wz : World) (vz : Value) (lz : List Int), Has wz vz lz → lz.length ≤ 1048576 → Bytes lz → Calls Tryd.prog 16 #[vz, .agg #[.int .i64 kind, .bool sec, .int .u64 mo, .int .i64 n]] wz fun e w' => e = .returned (tellS (oneS lz kind n)) ∧ Below wz.heap.size wz w') := F1
  clear F1
  obtain ⟨st, hst⟩ : ∃ st, oneS b kind n = st := ⟨_, rfl⟩
  rw [hst] at h11 h10
  have C1 : Hid (Calls Tryd.prog 16 #[.slice ao b.length cap, .agg #[.int .i64 kind, .bool sec, .int .u64 mo, .int .i64 n]] w1 fun e w' => e = .returned (.tuple #[.int .i64 (if st.fe = 0 then 0 else st.fa), .int .i64 st.fe, .bool true]) ∧ Below w1.heap.size w1 w') := by
    have := HF.out w1 _ b (HB0.out _ hb1) (by omega) hB
    rw [hst] at this
    exact this
  clear hst
  generalize (if st.fe = 0 then 0 else st.fa) = q at *
  generalize st.fe = fe at *
  have b11 : (fe == 11) = false := by simpa using h11
  have b10 : (fe != 10) = true := by simpa using h10
  go_wp2_with fail
  refine C1.out.mono ?_
  rintro e w2 ⟨rfl, hb2⟩
  replace hb2 := below_read hb1 hN hb2
  go_wp2
  go_ret
  exact ⟨rfl, hb2⟩

set_option maxHeartbeats 2000000 in
set_option maxRecDepth 100000 in
theorem places_byte (ao : Option Addr) (cap : Nat) (b : List Int) (mo' : Option Addr) (capm : Nat) (m : List Int) (mo n : Int) (sec : Bool) (w : World) (hbl : b.length ≤ 65536) (hml : m.length ≤ 65536) (hn : -9223372036854775808 ≤ n ∧ n ≤ 65536)
    (hb : Has w (.slice ao b.length cap) b) (hB : Bytes b) (hm : Has w (.slice mo' m.length capm) m) 
    (hg0 : w.cell? ⟨0, 0, none⟩ = some (.iface 84 (.agg #[.pointer (some ⟨1, 33, none⟩)]))) (h10 : (oneS b 1 n).fe = 10) :
    Calls Tryd.prog 5 #[.slice ao b.length cap, .slice mo' m.length capm, .agg #[.int .i64 1, .bool sec, .int .u64 mo, .int .i64 n]] w fun e w' => e = .returned (.bool true) ∧ Below w.heap.size w w' := by
  have hbox : Below w.heap.size w (w.alloc (.cells #[.int .i64 1, .bool sec, .int .u64 mo, .int .i64 n] 40)) := (Below.refl _ _).alloc (Nat.le_refl _) _
  have hgb := (hbox.cell (p := ⟨0, 0, none⟩) (World.block_lt_of_cell? w ⟨0, 0, none⟩ hg0)).trans hg0
  have HG : Hid ((w.alloc (.cells #[.int .i64 1, .bool sec, .int .u64 mo, .int .i64 n] 40)).cell? ⟨0, 0, none⟩ = some (.iface 84 (.agg #[.pointer (some ⟨1, 33, none⟩)]))) := hgb
  have hcap : b.length ≤ cap := by
    obtain ⟨_, _, h, hc⟩ := hb.form
    simp at h; omega
  have HB0 : Hid (∀ wz, Below w.heap.size w wz → Has wz (.slice ao b.length cap) b) := fun wz hz => hb.below hz
  have HM0 : Hid (∀ wz, Below w.heap.size w wz → Has wz (.slice mo' m.length capm) m) := fun wz hz => hm.below hz
  have hN : w.heap.size ≤ w.heap.size := Nat.le_refl _
  have hn63 : -9223372036854775808 ≤ n ∧ n ≤ 9223372036854775807 := by omega
  clear hg0 hgb hb hm
  go_enter Tryd.func5, Tryd.ntmps5
  go_wp2_with fail
  refine (known_any _ HG.out).mono ?_
  rintro e w1 ⟨rfl, hb1⟩
  have hbx : Boxed w1 w.heap.size 1 mo n sec := Boxed.below ⟨by simp, by simp, by simp, by simp⟩ hb1
  replace hb1 := Below.up hbox hb1
  obtain ⟨hx0, hx1, hx2, hx3⟩ := hbx
  clear hbox HG
  have F1 := fun (wz : World) (vz : Value) (lz : List Int) (hv : Has wz vz lz) (hl : lz.length ≤ 1048576) (hb : Bytes lz) => fault_any vz lz 1 mo n sec wz hv hl hb hn63
  have HF : Hid (∀ (wz : World) (vz : Value) (lz : List Int), Has wz vz lz → lz.length ≤ 1048576 → Bytes lz → Calls Tryd.prog 16 #[vz, .agg #[.int .i64 1, .bool sec, .int .u64 mo, .int .i64 n]] wz fun e w' => e = .returned (tellS (oneS lz 1 n)) ∧ Below wz.heap.size wz w') := F1
  clear F1
  obtain ⟨hst, hfix⟩ := short_byte h10
  have C1 : Hid (Calls Tryd.prog 16 #[.slice ao b.length cap, .agg #[.int .i64 1, .bool sec, .int .u64 mo, .int .i64 n]] w1 fun e w' => e = .returned (.tuple #[.int .i64 b.length, .int .i64 10, .bool true]) ∧ Below w1.heap.size w1 w') := by
    have := HF.out w1 _ b (HB0.out _ hb1) (by omega) hB
    rw [hst, tell_short] at this
    exact this
  have HX : Hid ((oneS (b ++ [0]) 1 n).fe = 0) := hfix
  clear hst hfix h10
  go_wp2_with fail
  refine C1.out.mono ?_
  rintro e w2 ⟨rfl, hb2⟩
  obtain ⟨y0, y1, y2, y3⟩ := Boxed.below ⟨hx0, hx1, hx2, hx3⟩ hb2
  replace hb2 := below_read hb1 hN hb2
  have hlt2 : w.heap.size < w2.heap.size := World.block_lt_of_cell? w2 _ y0
  clear hb1 hx0 hx1 hx2 hx3 C1
  go_wp2_with fail
  refine (behind_any _ _ b [] _ (HB0.out _ hb2) (Has.nil _) (by simp; omega)).mono ?_
  rintro e w3 ⟨v3, rfl, h3, hb3⟩
  rw [List.append_nil] at h3
  obtain ⟨z0, z1, z2, z3⟩ := Boxed.below ⟨y0, y1, y2, y3⟩ hb3
  have hb3' := below_read hb2 hN hb3
  have hlt3 : w.heap.size < w3.heap.size := World.block_lt_of_cell? w3 _ z0
  have hs3 := hb3.size
  clear hb3 hb2 y0 y1 y2 y3
  go_wp2_with (at_builtin; refine wpList_append_has rfl (.tmp 87) (.tmp 88) rfl w2.heap.size _ _ b [0] rfl rfl (h3.below ((Below.refl _ _).alloc (Nat.le_refl _) _) (Nat.le_refl _)) (has_one w3 0) (by simp; omega) (by simp; omega) ?_)
  intro v4 w4 h4 hb4
  obtain ⟨y0, y1, y2, y3⟩ := Boxed.under (Boxed.below ⟨z0, z1, z2, z3⟩ ((Below.refl _ _).alloc (Nat.le_refl _) _)) hb4 hlt2
  have hb4' : Below w.heap.size w w4 := (hb3'.alloc hb3'.size _).trans (hb4.mono (by omega))
  clear hb4 h3 hb3' z0 z1 z2 z3
  have C2 : Hid (Calls Tryd.prog 16 #[v4, .agg #[.int .i64 1, .bool sec, .int .u64 mo, .int .i64 n]] w4 fun e w' => e = .returned (.tuple #[.int .i64 0, .int .i64 0, .bool true]) ∧ Below w4.heap.size w4 w') := by
    have := HF.out w4 v4 (b ++ [0]) h4.has (by simp; omega) (hB.append (by intro x hx; simp at hx; subst hx; decide))
    rw [tell_none HX.out] at this
    exact this
  clear h4
  go_wp2_with fail
  refine C2.out.mono ?_
  rintro e w5 ⟨rfl, hb5⟩
  have hb6 := below_read hb4' hN hb5
  go_wp2
  go_ret
  exact ⟨rfl, hb6⟩

set_option maxHeartbeats 2000000 in
set_option maxRecDepth 100000 in
theorem places_uint (ao : Option Addr) (cap : Nat) (b : List Int) (mo' : Option Addr) (capm : Nat) (m : List Int) (mo n : Int) (sec : Bool) (w : World) (hbl : b.length ≤ 65536) (hml : m.length ≤ 65536) (hn : -9223372036854775808 ≤ n ∧ n ≤ 65536)
    (hb : Has w (.slice ao b.length cap) b) (hB : Bytes b) (hm : Has w (.slice mo' m.length capm) m) 
    (hg0 : w.cell? ⟨0, 0, none⟩ = some (.iface 84 (.agg #[.pointer (some ⟨1, 33, none⟩)]))) (h10 : (oneS b 2 n).fe = 10) :
    Calls Tryd.prog 5 #[.slice ao b.length cap, .slice mo' m.length capm, .agg #[.int .i64 2, .bool sec, .int .u64 mo, .int .i64 n]] w fun e w' => e = .returned (.bool true) ∧ Below w.heap.size w w' := by
  have hbox : Below w.heap.size w (w.alloc (.cells #[.int .i64 2, .bool sec, .int .u64 mo, .int .i64 n] 40)) := (Below.refl _ _).alloc (Nat.le_refl _) _
  have hgb := (hbox.cell (p := ⟨0, 0, none⟩) (World.block_lt_of_cell? w ⟨0, 0, none⟩ hg0)).trans hg0
  have HG : Hid ((w.alloc (.cells #[.int .i64 2, .bool sec, .int .u64 mo, .int .i64 n] 40)).cell? ⟨0, 0, none⟩ = some (.iface 84 (.agg #[.pointer (some ⟨1, 33, none⟩)]))) := hgb
  have hcap : b.length ≤ cap := by
    obtain ⟨_, _, h, hc⟩ := hb.form
    simp at h; omega
  have HB0 : Hid (∀ wz, Below w.heap.size w wz → Has wz (.slice ao b.length cap) b) := fun wz hz => hb.below hz
  have HM0 : Hid (∀ wz, Below w.heap.size w wz → Has wz (.slice mo' m.length capm) m) := fun wz hz => hm.below hz
  have hN : w.heap.size ≤ w.heap.size := Nat.le_refl _
  have hn63 : -9223372036854775808 ≤ n ∧ n ≤ 9223372036854775807 := by omega
  clear hg0 hgb hb hm
  go_enter Tryd.func5, Tryd.ntmps5
  go_wp2_with fail
  refine (known_any _ HG.out).mono ?_
  rintro e w1 ⟨rfl, hb1⟩
  have hbx : Boxed w1 w.heap.size 2 mo n sec := Boxed.below ⟨by simp, by simp, by simp, by simp⟩ hb1
  replace hb1 := Below.up hbox hb1
  obtain ⟨hx0, hx1, hx2, hx3⟩ := hbx
  clear hbox HG
  have F1 := fun (wz : World) (vz : Value) (lz : List Int) (hv : Has wz vz lz) (hl : lz.length ≤ 1048576) (hb : Bytes lz) => fault_any vz lz 2 mo n sec wz hv hl hb hn63
  have HF : Hid (∀ (wz : World) (vz : Value) (lz : List Int), Has wz vz lz → lz.length ≤ 1048576 → Bytes lz → Calls Tryd.prog 16 #[vz, .agg #[.int .i64 2, .bool sec, .int .u64 mo, .int .i64 n]] wz fun e w' => e = .returned (tellS (oneS lz 2 n)) ∧ Below wz.heap.size wz w') := F1
  clear F1
  obtain ⟨hst, hfix⟩ := short_uint h10
  have C1 : Hid (Calls Tryd.prog 16 #[.slice ao b.length cap, .agg #[.int .i64 2, .bool sec, .int .u64 mo, .int .i64 n]] w1 fun e w' => e = .returned (.tuple #[.int .i64 b.length, .int .i64 10, .bool true]) ∧ Below w1.heap.size w1 w') := by
    have := HF.out w1 _ b (HB0.out _ hb1) (by omega) hB
    rw [hst, tell_short] at this
    exact this
  have HX : Hid ((oneS (b ++ [1]) 2 n).fe = 0) := hfix
  clear hst hfix h10
  go_wp2_with fail
  refine C1.out.mono ?_
  rintro e w2 ⟨rfl, hb2⟩
  obtain ⟨y0, y1, y2, y3⟩ := Boxed.below ⟨hx0, hx1, hx2, hx3⟩ hb2
  replace hb2 := below_read hb1 hN hb2
  have hlt2 : w.heap.size < w2.heap.size := World.block_lt_of_cell? w2 _ y0
  clear hb1 hx0 hx1 hx2 hx3 C1
  go_wp2_with fail
  refine (behind_any _ _ b [] _ (HB0.out _ hb2) (Has.nil _) (by simp; omega)).mono ?_
  rintro e w3 ⟨v3, rfl, h3, hb3⟩
  rw [List.append_nil] at h3
  obtain ⟨z0, z1, z2, z3⟩ := Boxed.below ⟨y0, y1, y2, y3⟩ hb3
  have hb3' := below_read hb2 hN hb3
  have hlt3 : w.heap.size < w3.heap.size := World.block_lt_of_cell? w3 _ z0
  have hs3 := hb3.size
  clear hb3 hb2 y0 y1 y2 y3
  go_wp2_with (at_builtin; refine wpList_append_has rfl (.tmp 92) (.tmp 93) rfl w2.heap.size _ _ b [1] rfl rfl (h3.below ((Below.refl _ _).alloc (Nat.le_refl _) _) (Nat.le_refl _)) (has_one w3 1) (by simp; omega) (by simp; omega) ?_)
  intro v4 w4 h4 hb4
  obtain ⟨y0, y1, y2, y3⟩ := Boxed.under (Boxed.below ⟨z0, z1, z2, z3⟩ ((Below.refl _ _).alloc (Nat.le_refl _) _)) hb4 hlt2
  have hb4' : Below w.heap.size w w4 := (hb3'.alloc hb3'.size _).trans (hb4.mono (by omega))
  clear hb4 h3 hb3' z0 z1 z2 z3
  have C2 : Hid (Calls Tryd.prog 16 #[v4, .agg #[.int .i64 2, .bool sec, .int .u64 mo, .int .i64 n]] w4 fun e w' => e = .returned (.tuple #[.int .i64 0, .int .i64 0, .bool true]) ∧ Below w4.heap.size w4 w') := by
    have := HF.out w4 v4 (b ++ [1]) h4.has (by simp; omega) (hB.append (by intro x hx; simp at hx; subst hx; decide))
    rw [tell_none HX.out] at this
    exact this
  clear h4
  go_wp2_with fail
  refine C2.out.mono ?_
  rintro e w5 ⟨rfl, hb5⟩
  have hb6 := below_read hb4' hN hb5
  go_wp2
  go_ret
  exact ⟨rfl, hb6⟩

end Go.Proofs.YthpelabmfpogbaaDoor
