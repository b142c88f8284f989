/-
  WirePlaces' walk.
-/
import Derived.Test.YthpelabmfpogbaaDoorPlacesPlain
namespace Go.Proofs.YthpelabmfpogbaaDoor
open Go.RowKit Wire

set_option maxHeartbeats 2000000 in
set_option maxRecDepth 100000 in
theorem places_long (ao : Option Addr) (cap : Nat) (b : List Int) (mo' : Option Addr) (capm : Nat) (m : List Int) (kind mo n : Int) (sec : Bool) (w : World) (hbl : b.length ≤ 9223372036854775807) (hml : m.length ≤ 9223372036854775807) (hbig : 65536 < b.length ∨ 65536 < m.length ∨ 65536 < n)
    (hg0 : w.cell? ⟨0, 0, none⟩ = some (.iface 84 (.agg #[.pointer (some ⟨1, 33, none⟩)]))) :
    Calls Tryd.prog 5 #[.slice ao b.length cap, .slice mo' m.length capm, .agg #[.int .i64 kind, .bool sec, .int .u64 mo, .int .i64 n]] w fun e w' => e = .returned (.bool true) ∧ Below w.heap.size w w' := by
  have hbox : Below w.heap.size w (w.alloc (.cells #[.int .i64 kind, .bool sec, .int .u64 mo, .int .i64 n] 40)) := (Below.refl _ _).alloc (Nat.le_refl _) _
  have hgb := (hbox.cell (p := ⟨0, 0, none⟩) (World.block_lt_of_cell? w ⟨0, 0, none⟩ hg0)).trans hg0
  have HG : Hid ((w.alloc (.cells #[.int .i64 kind, .bool sec, .int .u64 mo, .int .i64 n] 40)).cell? ⟨0, 0, none⟩ = some (.iface 84 (.agg #[.pointer (some ⟨1, 33, none⟩)]))) := hgb
  clear hg0 hgb
  by_cases h1 : 65536 < b.length
  · go_enter Tryd.func5, Tryd.ntmps5
    go_wp2_with (go_at_call 6; refine (known_any _ HG.out).mono ?_; rintro e w1 ⟨rfl, hb1⟩)
    go_ret
    exact ⟨rfl, Below.up hbox hb1⟩
  · by_cases h2 : 65536 < m.length
    · go_enter Tryd.func5, Tryd.ntmps5
      go_wp2_with (go_at_call 6; refine (known_any _ HG.out).mono ?_; rintro e w1 ⟨rfl, hb1⟩)
      go_ret
      exact ⟨rfl, Below.up hbox hb1⟩
    · have h3 : 65536 < n := by omega
      go_enter Tryd.func5, Tryd.ntmps5
      go_wp2_with (go_at_call 6; refine (known_any _ HG.out).mono ?_; rintro e w1 ⟨rfl, hb1⟩; have hcN : w1.cell? ⟨w.heap.size, 3, none⟩ = some (.int .i64 n) := (hb1.cell (by simp)).trans (by simp))
      go_ret
      exact ⟨rfl, Below.up hbox hb1⟩

/-- The four cells of what was boxed. -/
def Boxed (w : World) (B : Nat) (kind mo n : Int) (sec : Bool) : Prop :=
  w.cell? ⟨B, 0, none⟩ = some (.int .i64 kind) ∧ w.cell? ⟨B, 1, none⟩ = some (.bool sec) ∧ w.cell? ⟨B, 2, none⟩ = some (.int .u64 mo) ∧ w.cell? ⟨B, 3, none⟩ = some (.int .i64 n)

theorem Boxed.below {w w' : World} {B : Nat} {kind mo n : Int} {sec : Bool} (h : Boxed w B kind mo n sec) (hb : Below w.heap.size w w') : Boxed w' B kind mo n sec := by
  have hlt : B < w.heap.size := World.block_lt_of_cell? w _ h.1
  exact ⟨(hb.cell hlt).trans h.1, (hb.cell hlt).trans h.2.1, (hb.cell hlt).trans h.2.2.1, (hb.cell hlt).trans h.2.2.2⟩

theorem tell_form (i : Nat) : tellS ⟨0, i, 11⟩ = .tuple #[.int .i64 i, .int .i64 11, .bool true] := by simp [tellS]
theorem tell_short (k : Nat) : tellS ⟨0, k, 10⟩ = .tuple #[.int .i64 k, .int .i64 10, .bool true] := by simp [tellS]
theorem tell_none {s : St} (h : s.fe = 0) : tellS s = .tuple #[.int .i64 0, .int .i64 0, .bool true] := by simp [tellS, h]

set_option maxHeartbeats 2000000 in
set_option maxRecDepth 100000 in
theorem places_form (ao : Option Addr) (cap : Nat) (b : List Int) (mo' : Option Addr) (capm : Nat) (m : List Int) (kind mo n : Int) (sec : Bool) (w : World) (hbl : b.length ≤ 65536) (hml : m.length ≤ 65536) (hn : -9223372036854775808 ≤ n ∧ n ≤ 65536)
    (hb : Has w (.slice ao b.length cap) b) (hB : Bytes b) (hm : Has w (.slice mo' m.length capm) m) (hM : Bytes m)
    (hg0 : w.cell? ⟨0, 0, none⟩ = some (.iface 84 (.agg #[.pointer (some ⟨1, 33, none⟩)]))) (h11 : (oneS b kind n).fe = 11) :
    Calls Tryd.prog 5 #[.slice ao b.length cap, .slice mo' m.length capm, .agg #[.int .i64 kind, .bool sec, .int .u64 mo, .int .i64 n]] w fun e w' => e = .returned (.bool true) ∧ Below w.heap.size w w' := by
  have hbox : Below w.heap.size w (w.alloc (.cells #[.int .i64 kind, .bool sec, .int .u64 mo, .int .i64 n] 40)) := (Below.refl _ _).alloc (Nat.le_refl _) _
  have hgb := (hbox.cell (p := ⟨0, 0, none⟩) (World.block_lt_of_cell? w ⟨0, 0, none⟩ hg0)).trans hg0
  have HG : Hid ((w.alloc (.cells #[.int .i64 kind, .bool sec, .int .u64 mo, .int .i64 n] 40)).cell? ⟨0, 0, none⟩ = some (.iface 84 (.agg #[.pointer (some ⟨1, 33, none⟩)]))) := hgb
  have hcap : b.length ≤ cap := by
    obtain ⟨_, _, h, hc⟩ := hb.form
    simp at h; omega
  have HB0 : Hid (∀ wz, Below w.heap.size w wz → Has wz (.slice ao b.length cap) b) := fun wz hz => hb.below hz
  have HM0 : Hid (∀ wz, Below w.heap.size w wz → Has wz (.slice mo' m.length capm) m) := fun wz hz => hm.below hz
  have hN : w.heap.size ≤ w.heap.size := Nat.le_refl _
  have hn63 : -9223372036854775808 ≤ n ∧ n ≤ 9223372036854775807 := by omega
  clear hg0 hgb hb hm
  go_enter Tryd.func5, Tryd.ntmps5
  go_wp2_with fail
  refine (known_any _ HG.out).mono ?_
  rintro e w1 ⟨rfl, hb1⟩
  have hbx : Boxed w1 w.heap.size kind mo n sec := Boxed.below ⟨by simp, by simp, by simp, by simp⟩ hb1
  replace hb1 := Below.up hbox hb1
  obtain ⟨hx0, hx1, hx2, hx3⟩ := hbx
  clear hbox HG
  have F1 := fun (wz : World) (vz : Value) (lz : List Int) (hv : Has wz vz lz) (hl : lz.length ≤ 1048576) (hb : Bytes lz) => fault_any vz lz kind mo n sec wz hv hl hb hn63
  have HF : Hid (∀ (wz : World) (vz : Value) (lz : List Int), Has wz vz lz → lz.length ≤ 1048576 → Bytes lz → Calls Tryd.prog 16 #[vz, .agg #[.int .i64 kind, .bool sec, .int .u64 mo, .int .i64 n]] wz fun e w' => e = .returned (tellS (oneS lz kind n)) ∧ Below wz.heap.size wz w') := F1
  clear F1
  · obtain ⟨i, hst, hi, hmore⟩ := place_form h11
    have C1 : Hid (Calls Tryd.prog 16 #[.slice ao b.length cap, .agg #[.int .i64 kind, .bool sec, .int .u64 mo, .int .i64 n]] w1 fun e w' => e = .returned (.tuple #[.int .i64 i, .int .i64 11, .bool true]) ∧ Below w1.heap.size w1 w') := by
      have := HF.out w1 _ b (HB0.out _ hb1) (by omega) hB
      rw [hst, tell_form] at this
      exact this
    have HMO : Hid (∀ more, oneS (b.take (i + 1) ++ more) kind n = ⟨0, i, 11⟩) := hmore
    clear hst hmore h11
    go_wp2_with fail
    refine C1.out.mono ?_
    rintro e w2 ⟨rfl, hb2⟩
    obtain ⟨y0, y1, y2, y3⟩ := Boxed.below ⟨hx0, hx1, hx2, hx3⟩ hb2
    replace hb2 := below_read hb1 hN hb2
    clear hb1 hx0 hx1 hx2 hx3 C1
    have hi1 : ¬ ((i : Int) < 0) := by omega
    have hi2 : ¬ ((b.length : Int) ≤ (i : Int)) := by omega
    go_wp2_with fail
    refine wp_region_any (by kernel_rfl) ?_
    change wpAny _ _ _ _ _ _ _ (World.drew _)
    refine wpAny_take (i := 0) (v := .slice ao b.length cap) rfl (by kernel_rfl) (by kernel_rfl) (by kernel_rfl) (fun _ _ _ h => h) (Or.inl ⟨by kernel_rfl, ?_⟩) ?_
    · intro wz; go_simp
    refine wpAny_take (i := 1) (v := .int .i64 i) rfl (by kernel_rfl) (by kernel_rfl) (by kernel_rfl) (fun _ _ _ h => h) (Or.inl ⟨by kernel_rfl, ?_⟩) ?_
    · intro wz; go_simp
    refine wpAny_take (i := 2) (v := .int .i64 ((i : Int) + 1)) rfl (by kernel_rfl) (by kernel_rfl) (by kernel_rfl) (fun _ _ _ h => h) (Or.inl ⟨by kernel_rfl, ?_⟩) ?_
    · intro wz
      go_simp
      rw [IntKind.wrap_i64]; omega
    refine wpAny_take (i := 3) (v := .slice ao (i + 1) cap) rfl (by kernel_rfl) (by kernel_rfl) (by kernel_rfl) (fun _ _ _ h => h) (Or.inl ⟨by kernel_rfl, ?_⟩) ?_
    · intro wz
      go_simp
      intro h
      exact absurd (h (by omega)) (by omega)
    refine wpAny_take (i := 4) (v := .slice mo' m.length capm) rfl (by kernel_rfl) (by kernel_rfl) (by kernel_rfl) (fun _ _ _ h => h) (Or.inl ⟨by kernel_rfl, ?_⟩) ?_
    · intro wz; go_simp
    have hbd : Below w.heap.size w w2.drew := hb2.drew
    refine wpAny_ready (rs := [5, 6]) (by kernel_rfl) (by simp) ?_
    refine AllReady.cons rfl (fun K hK => ?_) (AllReady.cons rfl (fun K hK => ?_) AllReady.nil)
    · go_simp
      refine (behind_any _ _ (b.take (i + 1)) m _ ((HB0.out _ hbd).first (by omega)) (HM0.out _ hbd) (by simp; omega)).mono ?_
      rintro e w7 ⟨v7, rfl, h7, hb7⟩
      obtain ⟨z0, z1, z2, z3⟩ := Boxed.below ⟨y0, y1, y2, y3⟩ (drew_below hb7)
      have hb7' := below_read hb2 hN (drew_below hb7)
      clear hb7
      refine hK _ _ ?_
      clear hK K
      refine wpAny_ready (rs := [6]) (by kernel_rfl) (by simp) ?_
      refine AllReady.cons rfl (fun K hK => ?_) AllReady.nil
      go_simp
      refine hK _ _ ?_
      clear hK K
      refine wpAny_ready (rs := [7]) (by kernel_rfl) (by simp) ?_
      refine AllReady.cons rfl (fun K hK => ?_) AllReady.nil
      go_simp
      refine (HF.out w7 v7 (b.take (i + 1) ++ m) h7.has (by simp; omega) ((hB.take _).append hM)).mono ?_
      rw [HMO.out m, tell_form]
      rintro e w8 ⟨rfl, hb8⟩
      have hb8' := below_read hb7' hN hb8
      clear hb8 h7 hb7' z0 z1 z2 z3
      refine hK _ _ ?_
      clear hK K
      refine wpAny_take (i := 8) (v := .tuple #[.int .i64 i, .int .i64 11, .bool true]) rfl (by kernel_rfl) (by kernel_rfl) (by kernel_rfl) (fun _ _ _ h => h) (Or.inl ⟨by kernel_rfl, ?_⟩) ?_
      · intro wz; go_simp
      refine wpAny_take (i := 9) (v := .int .i64 i) rfl (by kernel_rfl) (by kernel_rfl) (by kernel_rfl) (fun _ _ _ h => h) (Or.inl ⟨by kernel_rfl, ?_⟩) ?_
      · intro wz; go_simp
      refine wpAny_take (i := 10) (v := .int .i64 11) rfl (by kernel_rfl) (by kernel_rfl) (by kernel_rfl) (fun _ _ _ h => h) (Or.inl ⟨by kernel_rfl, ?_⟩) ?_
      · intro wz; go_simp
      refine wpAny_take (i := 11) (v := .bool true) rfl (by kernel_rfl) (by kernel_rfl) (by kernel_rfl) (fun _ _ _ h => h) (Or.inl ⟨by kernel_rfl, ?_⟩) ?_
      · intro wz; go_simp
      refine wpAny_take (i := 12) (v := .int .i64 i) rfl (by kernel_rfl) (by kernel_rfl) (by kernel_rfl) (fun _ _ _ h => h) (Or.inl ⟨by kernel_rfl, ?_⟩) ?_
      · intro wz; go_simp
      refine wpAny_take (i := 13) (v := .int .i64 11) rfl (by kernel_rfl) (by kernel_rfl) (by kernel_rfl) (fun _ _ _ h => h) (Or.inl ⟨by kernel_rfl, ?_⟩) ?_
      · intro wz; go_simp
      refine wpAny_take (i := 14) (v := .bool true) rfl (by kernel_rfl) (by kernel_rfl) (by kernel_rfl) (fun _ _ _ h => h) (Or.inl ⟨by kernel_rfl, ?_⟩) ?_
      · intro wz; go_simp
      refine wpAny_done (by kernel_rfl) ?_ _
      go_simp
      go_wp2
      go_ret
      exact ⟨rfl, hb8'⟩
    · go_simp
      refine hK _ _ ?_
      clear hK K
      refine wpAny_ready (rs := [5]) (by kernel_rfl) (by simp) ?_
      refine AllReady.cons rfl (fun K hK => ?_) AllReady.nil
      go_simp
      refine (behind_any _ _ (b.take (i + 1)) m _ ((HB0.out _ hbd).first (by omega)) (HM0.out _ hbd) (by simp; omega)).mono ?_
      rintro e w7 ⟨v7, rfl, h7, hb7⟩
      obtain ⟨z0, z1, z2, z3⟩ := Boxed.below ⟨y0, y1, y2, y3⟩ (drew_below hb7)
      have hb7' := below_read hb2 hN (drew_below hb7)
      clear hb7
      refine hK _ _ ?_
      clear hK K
      refine wpAny_ready (rs := [7]) (by kernel_rfl) (by simp) ?_
      refine AllReady.cons rfl (fun K hK => ?_) AllReady.nil
      go_simp
      refine (HF.out w7 v7 (b.take (i + 1) ++ m) h7.has (by simp; omega) ((hB.take _).append hM)).mono ?_
      rw [HMO.out m, tell_form]
      rintro e w8 ⟨rfl, hb8⟩
      have hb8' := below_read hb7' hN hb8
      clear hb8 h7 hb7' z0 z1 z2 z3
      refine hK _ _ ?_
      clear hK K
      refine wpAny_take (i := 8) (v := .tuple #[.int .i64 i, .int .i64 11, .bool true]) rfl (by kernel_rfl) (by kernel_rfl) (by kernel_rfl) (fun _ _ _ h => h) (Or.inl ⟨by kernel_rfl, ?_⟩) ?_
      · intro wz; go_simp
      refine wpAny_take (i := 9) (v := .int .i64 i) rfl (by kernel_rfl) (by kernel_rfl) (by kernel_rfl) (fun _ _ _ h => h) (Or.inl ⟨by kernel_rfl, ?_⟩) ?_
      · intro wz; go_simp
      refine wpAny_take (i := 10) (v := .int .i64 11) rfl (by kernel_rfl) (by kernel_rfl) (by kernel_rfl) (fun _ _ _ h => h) (Or.inl ⟨by kernel_rfl, ?_⟩) ?_
      · intro wz; go_simp
      refine wpAny_take (i := 11) (v := .bool true) rfl (by kernel_rfl) (by kernel_rfl) (by kernel_rfl) (fun _ _ _ h => h) (Or.inl ⟨by kernel_rfl, ?_⟩) ?_
      · intro wz; go_simp
      refine wpAny_take (i := 12) (v := .int .i64 i) rfl (by kernel_rfl) (by kernel_rfl) (by kernel_rfl) (fun _ _ _ h => h) (Or.inl ⟨by kernel_rfl, ?_⟩) ?_
      · intro wz; go_simp
      refine wpAny_take (i := 13) (v := .int .i64 11) rfl (by kernel_rfl) (by kernel_rfl) (by kernel_rfl) (fun _ _ _ h => h) (Or.inl ⟨by kernel_rfl, ?_⟩) ?_
      · intro wz; go_simp
      refine wpAny_take (i := 14) (v := .bool true) rfl (by kernel_rfl) (by kernel_rfl) (by kernel_rfl) (fun _ _ _ h => h) (Or.inl ⟨by kernel_rfl, ?_⟩) ?_
      · intro wz; go_simp
      refine wpAny_done (by kernel_rfl) ?_ _
      go_simp
      go_wp2
      go_ret
      exact ⟨rfl, hb8'⟩
end Go.Proofs.YthpelabmfpogbaaDoor
