/-
  behind, bytes.Clone, slices.Grow at nil, slices.Concat, PutUint, PutText.
-/
import Derived.Test.YthpelabmfpogbaaGreatDoorGroups
namespace Go.Proofs.YthpelabmfpogbaaGreatDoor
open Go.RowKit Wire

set_option maxHeartbeats 400000 in
set_option maxRecDepth 100000 in
theorem behind_any (vb vm : Value) (b m : List Int) (w : World) (hb : Has w vb b) (hm : Has w vm m) (hlen : b.length + m.length ≤ 1048576) :
    Calls Tryz.prog 10 #[vb, vm] w fun e w' => ∃ v, e = .returned v ∧ Owns w' w.heap.size v (b ++ m) ∧ Below w.heap.size w w' := by
  go_enter Tryz.func10, Tryz.ntmps10
  go_wp2_with (at_builtin; refine wpList_append_has rfl (.tmp 6) (.tmp 7) rfl w.heap.size _ vb [] b rfl rfl (Owns.nil _ _) hb (by simp; omega) (Nat.le_refl _) ?_)
  intro v1 w1 ho1 hb1
  have hm1 := hm.below hb1
  have hsz := hb1.size
  go_wp2_with (at_builtin; refine wpList_append_has rfl (.tmp 9) (.tmp 10) rfl w.heap.size _ vm b m rfl rfl ho1 hm1 hlen hsz ?_)
  intro v2 w2 ho2 hb2
  go_wp2
  go_ret
  exact ⟨_, rfl, ho2, hb1.trans hb2⟩

set_option maxHeartbeats 400000 in
set_option maxRecDepth 100000 in
theorem clone_any (vb : Value) (b : List Int) (w : World) (hb : Has w vb b) (hlen : b.length ≤ 1048576) :
    Calls Tryz.prog 54 #[vb] w fun e w' => ∃ v, e = .returned v ∧ Owns w' w.heap.size v b ∧ Below w.heap.size w w' := by
  have q23 : ∀ (w : World) (a : Option Addr) (n c n' c' : Nat), (binOp .eql 22 (.slice a n c) (.slice none n' c')).run Tryz.prog w = .ok (.bool a.isNone) w := fun w a n c n' c' => Lib.run_eql_slice_nil w _ _ a n c n' c' Tryz.underlying22
  obtain ⟨ao, cap, hv, hcap⟩ := hb.form
  subst hv
  cases ao with
  | none =>
    have hbn : b = [] := by
      rcases hb with ⟨_, h⟩ | ⟨a, _, h, _⟩
      · exact h
      · simp at h
    subst hbn
    go_enter Tryz.func54, Tryz.ntmps54
    go_wp2
    go_ret
    exact ⟨_, rfl, Owns.nil _ _, Below.refl _ _⟩
  | some a =>
    go_enter Tryz.func54, Tryz.ntmps54
    go_wp2_with (at_builtin; refine wpList_append_has rfl (.tmp 5) (.tmp 6) rfl w.heap.size _ _ [] b rfl rfl (World.ownsRow_made w #[] 0 (Nat.le_refl _) (Nat.zero_le _) rfl) (hb.below ((Below.refl _ _).alloc (Nat.le_refl _) _)) (by simp; omega) (by simp) ?_)
    intro v1 w1 ho1 hb1
    go_wp2
    go_ret
    exact ⟨_, rfl, by simpa using ho1, ((Below.refl _ _).alloc (Nat.le_refl _) _).trans hb1⟩

set_option maxHeartbeats 400000 in
set_option maxRecDepth 100000 in
theorem grow_nil (n : Nat) (w : World) (hn : n ≤ 1048576) :
    Calls Tryz.prog 70 #[.slice none 0 0, .int .i64 n] w fun e w' => ∃ v, e = .returned v ∧ Owns w' w.heap.size v [] ∧ Below w.heap.size w w' := by
  obtain ⟨i0, hi, hz0, hz1, hz2⟩ := info_parts Tryz.info5
  by_cases h0 : n = 0
  · subst h0
    go_enter Tryz.func70, Tryz.ntmps70
    go_wp2
    go_ret
    exact ⟨_, rfl, Owns.nil _ _, Below.refl _ _⟩
  · have hrz : ∀ ty, _ := fun ty => Lib.run_append_nil_zeros (P := Tryz.prog) w 22 3 ty 5 i0 (.int .u8 0) .i64 .i64 Tryz.underlying22 Tryz.underlying3 hi hz0 n (by omega) (by omega) (by omega) (by rw [hz2]; omega)
    have hG := grownCap_ge w n 0 5
    have hG2 := grownCap_le_maxLen w n 0 5 (by unfold maxLen; omega)
    generalize grownCap w n 0 5 = G at *
    have hpos : (0 : Int) < n := by omega
    have hown : (w.drew.alloc (.cells (Builtin.zeroCells (Value.int .u8 0).cells n ++ Builtin.zeroCells (Value.int .u8 0).cells (G - n)) 5)).ownsRow w.heap.size 5 1 (.slice (some ⟨w.heap.size, 0, none⟩) 0 G) 0 [] :=
      World.ownsRow_made w.drew _ G (Nat.le_refl _) hG2 (by rw [Array.size_append, size_zeroCells, size_zeroCells]; simp [Value.cells]; omega)
    unfold maxLen at hG2
    go_enter Tryz.func70, Tryz.ntmps70
    go_wp2_with (at_builtin; refine Lib.wpList_append_run _ rfl _ _ _ _ rfl _ _ rfl rfl _ _ (hrz _) ?_)
    go_ret
    exact ⟨_, rfl, hown, (Below.refl _ _).drew.alloc (Nat.le_refl _) _⟩

/-- The lists up to the k-th, one behind the other. -/
def flat (ls : List (List Int)) (k : Nat) : List Int := (ls.take k).flatten
theorem flat_zero (ls : List (List Int)) : flat ls 0 = [] := by simp [flat]
theorem flat_succ (ls : List (List Int)) (k : Nat) (h : k < ls.length) : flat ls (k + 1) = flat ls k ++ ls.getD k [] := by
  unfold flat
  rw [List.take_succ_eq_append_getElem h, List.flatten_append]
  simp [List.getD, List.getElem?_eq_getElem h]
theorem flat_all (ls : List (List Int)) (k : Nat) (h : ls.length ≤ k) : flat ls k = ls.flatten := by
  simp [flat, List.take_of_length_le h]
theorem flat_le (ls : List (List Int)) (k : Nat) : (flat ls k).length ≤ ls.flatten.length := by
  unfold flat
  have h : ls.flatten = (ls.take k).flatten ++ (ls.drop k).flatten := by rw [← List.flatten_append, List.take_append_drop]
  rw [h, List.length_append]; omega

set_option maxHeartbeats 800000 in
set_option maxRecDepth 100000 in
theorem concat_any (K cap : Nat) (vs : List Value) (ls : List (List Int)) (w : World) (hl : ls.length = vs.length) (hn : vs.length ≤ 1000)
    (hcell : ∀ i, i < vs.length → w.cell? ⟨K, i, none⟩ = some (vs.getD i undef)) (hhas : ∀ i, i < vs.length → Has w (vs.getD i undef) (ls.getD i [])) (hlen : ls.flatten.length ≤ 1048576) :
    Calls Tryz.prog 21 #[.slice (some ⟨K, 0, none⟩) vs.length cap] w fun e w' => ∃ v, e = .returned v ∧ Owns w' w.heap.size v ls.flatten ∧ Below w.heap.size w w' := by
  have HC : Hid (∀ i, i < vs.length → w.cell? ⟨K, i, none⟩ = some (vs.getD i undef)) := hcell
  have HH : Hid (∀ i, i < vs.length → Has w (vs.getD i undef) (ls.getD i [])) := hhas
  have HL : Hid (ls.length = vs.length) := hl
  clear hcell hhas hl
  go_enter Tryz.func21, Tryz.ntmps21
  go_wp2
  go_loop [3, 11] (fun s i => ∃ k : Nat, k ≤ vs.length ∧ i = .int .i64 k ∧ s = .int .i64 (flat ls k).length) (fun _ i => vs.length - (intOf i).toNat)
  case atStart => exact ⟨0, Nat.zero_le _, rfl, by simp [flat_zero]⟩
  case round =>
    obtain ⟨k, hk, rfl, rfl⟩ := hrel
    by_cases hlt : k < vs.length
    · have hc := HC.out k hlt
      obtain ⟨ao, cp, hv, _⟩ := (HH.out k hlt).form
      rw [hv] at hc
      have hs : Hid ((flat ls (k + 1)).length = (flat ls k).length + (ls.getD k []).length) := by
        show _ = _
        rw [flat_succ _ _ (by rw [HL.out]; exact hlt)]; simp
      have hle := flat_le ls (k + 1)
      have hle2 : (flat ls k).length + (ls.getD k []).length ≤ 1048576 := by have := hs.out; omega
      clear hv hle
      generalize hg : (ls.getD k []).length = m at *
      clear hg
      go_wp2
      go_round
      case rel => exact ⟨k + 1, by omega, by go_num, by rw [hs.out]; go_num⟩
      case measure => simp [intOf]; omega
    · have hkn : k = vs.length := by omega
      have hle := flat_le ls k
      subst hkn
      go_wp2_with (go_at_call 70; refine (grow_nil _ _ (by omega)).mono ?_; rintro e w1 ⟨v1, rfl, ho1, hb1⟩)
      go_loopw [6, 27] (fun v i wr => ∃ k : Nat, k ≤ vs.length ∧ i = .int .i64 k ∧ Owns wr w.heap.size v (flat ls k) ∧ Below w.heap.size w wr) (fun _ i _ => vs.length - (intOf i).toNat)
      case atStart => exact ⟨0, Nat.zero_le _, rfl, by rw [flat_zero]; exact ho1, hb1⟩
      case round =>
        obtain ⟨k, hk, rfl, ho, hb⟩ := hrel
        by_cases hlt : k < vs.length
        · have hc0 := HC.out k hlt
          have hc : wr.cell? ⟨K, k, none⟩ = some (vs.getD k undef) := (hb.cell (World.block_lt_of_cell? w _ hc0)).trans hc0
          have hx := (HH.out k hlt).below hb
          have hle := flat_le ls (k + 1)
          have hkl : k < ls.length := by rw [HL.out]; exact hlt
          have hfs : Hid (flat ls (k + 1) = flat ls k ++ ls.getD k []) := flat_succ _ _ hkl
          rw [hfs.out, List.length_append] at hle
          have hsz := hb.size
          generalize vs.getD k undef = x at *
          generalize ls.getD k [] = y at *
          clear hc0
          go_wp2_with (at_builtin; refine wpList_append_has rfl (.tmp 31) (.tmp 32) rfl w.heap.size _ x (flat ls k) y rfl rfl ho hx (by omega) hsz ?_)
          intro v2 w2 ho2 hb2
          rw [← hfs.out] at ho2
          have hb3 := hb.trans hb2
          clear ho hb hc hx hb2 hfs
          go_wp2
          go_roundw
          case rel => exact ⟨k + 1, by omega, by go_num, ho2, hb3⟩
          case measure => simp [intOf]; omega
        · have hkn : k = vs.length := by omega
          subst hkn
          rw [flat_all ls vs.length (by rw [HL.out]; exact Nat.le_refl _)] at ho
          go_wp2
          go_ret
          exact ⟨_, rfl, ho, hb⟩

set_option maxHeartbeats 400000 in
set_option maxRecDepth 100000 in
theorem putUint_any (vb : Value) (b : List Int) (n : Nat) (w : World) (hb : Has w vb b) (hn : n < 18446744073709551616) (hlen : b.length ≤ 1000000) :
    Calls Tryz.prog 7 #[vb, .int .u64 n] w fun e w' => ∃ v, e = .returned v ∧ Owns w' w.heap.size v (b ++ enc n) ∧ Below w.heap.size w w' := by
  have hl10 := enc_len64 hn
  obtain ⟨ao, cap, hv, _⟩ := hb.form
  subst hv
  go_enter Tryz.func7, Tryz.ntmps7
  go_wp2_with (go_at_call 22; refine (groups_any n _ hn).mono ?_; rintro e w1 ⟨v1, rfl, ho1, hb1⟩; obtain ⟨ao1, cp1, hv1, _⟩ := (Owns.has ho1).form; subst hv1)
  have ho1' : Owns w1 w.heap.size _ (enc n) := ho1
  have hb2 : Below w.heap.size w (w1.alloc (.cells #[.slice ao b.length cap, .slice ao1 (enc n).length cp1] 22)) := hb1.alloc hb1.size _
  have hh := hb.below hb2
  have ho2 := (ho1'.below ((Below.refl _ w1).alloc (Nat.le_refl _) _) (Nat.le_refl _)).has (w := (w1.alloc (.cells #[.slice ao b.length cap, .slice ao1 (enc n).length cp1] 22)))
  refine (concat_any w1.heap.size 2 [.slice ao b.length cap, .slice ao1 (enc n).length cp1] [b, enc n] _ rfl (by simp) ?c1 ?c2 (by simp; omega)).mono ?_
  case c1 =>
    intro i hi
    match i, hi with
    | 0, _ => simp
    | 1, _ => simp
  case c2 =>
    intro i hi
    match i, hi with
    | 0, _ => exact hh
    | 1, _ => exact ho2
  rintro e w2 ⟨v2, rfl, ho3, hb3⟩
  have R1 : Owns w2 w.heap.size v2 (b ++ enc n) := by
    have := ho3.mono (lo' := w.heap.size) (by have := hb1.size; simp; omega)
    simpa using this
  have R2 := Below.up hb2 hb3
  clear ho3 hb3 ho2 hh hb2 ho1' ho1 hb1 hb
  go_wp2
  go_ret
  exact ⟨_, rfl, R1, R2⟩

/-- A string's bytes. -/
def strB (s : ByteArray) : List Int := s.data.toList.map fun c => (c.toNat : Int)
theorem strB_len (s : ByteArray) : (strB s).length = s.size := by simp [strB]

theorem strB_getD (s : ByteArray) (i : Nat) (h : i < s.size) : (strB s).getD i 0 = (s.data[i].toNat : Int) := by
  have h' : i < s.data.size := h
  simp [strB, List.getD, Array.getElem?_eq_getElem h']

theorem add0 (B i : Nat) : (⟨B, 0, none⟩ : Addr).add i = ⟨B, i, none⟩ := by
  cases i <;> simp [Addr.add]

/-- '[]byte(s)'. -/
theorem conv_str (s : ByteArray) (w : World) : ∃ (G : Nat) (w' : World), (convert 9 22 (.string s)).run Tryz.prog w = .ok (.slice (some ⟨w.heap.size, 0, none⟩) s.size G) w' ∧
    Has w' (.slice (some ⟨w.heap.size, 0, none⟩) s.size G) (strB s) ∧ Below w.heap.size w w' := by
  refine ⟨_, _, run_bytes_of_string w 9 22 5 s Tryz.underlying9 Tryz.underlying22 Tryz.underlying5, ?_, (Below.refl _ _).drew.alloc (Nat.le_refl _) _⟩
  generalize hG : grownCap w s.size 0 5 = G
  have hGn : s.size ≤ G := by rw [← hG]; exact grownCap_ge _ _ _ _
  refine .inr ⟨_, G, by rw [strB_len], by rw [strB_len]; exact hGn, fun i hi => ?_⟩
  rw [strB_len] at hi
  rw [strB_getD s i hi]
  have hj := bytesRow_at s G i hi
  have hh : (w.drew.alloc (.cells (bytesRow s G) 5 ((bytesRow s G).size, (bytesRow s G).size + 1))).heap[w.heap.size]? = some (.cells (bytesRow s G) 5 ((bytesRow s G).size, (bytesRow s G).size + 1)) := heap_alloc_new w.drew _
  rw [add0]
  simp only [World.cell?, hh]
  exact hj

set_option maxHeartbeats 400000 in
set_option maxRecDepth 100000 in
theorem putText_any (vb : Value) (b : List Int) (s : ByteArray) (w : World) (hb : Has w vb b) (hs : s.size ≤ 100000) (hlen : b.length ≤ 800000) :
    Calls Tryz.prog 8 #[vb, .string s] w fun e w' => ∃ v, e = .returned v ∧ Owns w' w.heap.size v (b ++ (enc s.size ++ strB s)) ∧ Below w.heap.size w w' := by
  have hn : s.size < 18446744073709551616 := by omega
  have hl10 := enc_len64 hn
  obtain ⟨ao, cap, hv, _⟩ := hb.form
  subst hv
  go_enter Tryz.func8, Tryz.ntmps8
  go_wp2_with (go_at_call 22; refine (groups_any s.size _ hn).mono ?_; rintro e w1 ⟨v1, rfl, ho1, hb1⟩; obtain ⟨ao1, cp1, hv1, _⟩ := (Owns.has ho1).form; subst hv1; obtain ⟨G, wt, hconv, hht, hbt⟩ := conv_str s w1)
  have ho1' : Owns w1 w.heap.size _ (enc s.size) := ho1
  have hb2 : Below w.heap.size w (wt.alloc (.cells #[.slice ao b.length cap, .slice ao1 (enc s.size).length cp1, .slice (some ⟨w1.heap.size, 0, none⟩) s.size G] 22)) := (Below.up hb1 hbt).alloc (Nat.le_trans hb1.size hbt.size) _
  have hbt2 : Below wt.heap.size wt (wt.alloc (.cells #[.slice ao b.length cap, .slice ao1 (enc s.size).length cp1, .slice (some ⟨w1.heap.size, 0, none⟩) s.size G] 22)) := (Below.refl _ _).alloc (Nat.le_refl _) _
  have hh := hb.below hb2
  have ho2 := (ho1'.has.below hbt).below hbt2
  have ht2 := hht.below hbt2
  refine (concat_any wt.heap.size 3 [.slice ao b.length cap, .slice ao1 (enc s.size).length cp1, .slice (some ⟨w1.heap.size, 0, none⟩) s.size G] [b, enc s.size, strB s] _ rfl (by simp) ?c1 ?c2 (by simp [strB_len]; omega)).mono ?_
  case c1 =>
    intro i hi
    match i, hi with
    | 0, _ => simp
    | 1, _ => simp
    | 2, _ => simp
  case c2 =>
    intro i hi
    match i, hi with
    | 0, _ => exact hh
    | 1, _ => exact ho2
    | 2, _ => exact ht2
  rintro e w2 ⟨v2, rfl, ho3, hb3⟩
  have R1 : Owns w2 w.heap.size v2 (b ++ (enc s.size ++ strB s)) := by
    have := ho3.mono (lo' := w.heap.size) (by have := hb1.size; have := hbt.size; simp; omega)
    simpa using this
  have R2 := Below.up hb2 hb3
  clear ho3 hb3 ho2 hh hb2 ho1' ho1 hb1 hb hconv hht hbt hbt2 ht2
  go_wp2
  go_ret
  exact ⟨_, rfl, R1, R2⟩
end Go.Proofs.YthpelabmfpogbaaGreatDoor
