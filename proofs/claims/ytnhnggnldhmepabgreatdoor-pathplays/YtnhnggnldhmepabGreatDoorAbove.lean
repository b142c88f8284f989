import Derived.Test.YtnhnggnldhmepabGreatDoorBase
namespace Go.Proofs.YtnhnggnldhmepabGreatDoor
open Go.RowKit

/-- a text's beginning and its last piece -/
def AboveR (l u v : By) : Prop := (u = [] ∧ v = l ∧ 47 ∉ l) ∨ (l = u ++ 47 :: v ∧ 47 ∉ v)
theorem split_last {u v u' v' : By} (h : u ++ 47 :: v = u' ++ 47 :: v') (h1 : (47 : UInt8) ∉ v) (h2 : (47 : UInt8) ∉ v') : u = u' ∧ v = v' := by
  induction u generalizing u' with
  | nil =>
    cases u' with
    | nil => simp at h; exact ⟨rfl, h⟩
    | cons x xs => simp at h; exfalso; apply h1; rw [h.2]; simp
  | cons y ys ih =>
    cases u' with
    | nil => simp at h; exfalso; apply h2; rw [← h.2]; simp
    | cons x xs =>
      simp at h
      obtain ⟨a, b⟩ := ih h.2
      exact ⟨by rw [h.1, a], b⟩
theorem AboveR.one {l u v u' v' : By} (h : AboveR l u v) (k : AboveR l u' v') : u = u' ∧ v = v' := by
  rcases h with ⟨h1, h2, h3⟩ | ⟨h1, h2⟩
  · rcases k with ⟨k1, k2, k3⟩ | ⟨k1, k2⟩
    · exact ⟨by rw [h1, k1], by rw [h2, k2]⟩
    · exfalso; apply h3; rw [k1]; simp
  · rcases k with ⟨k1, k2, k3⟩ | ⟨k1, k2⟩
    · exfalso; apply k3; rw [h1]; simp
    · exact split_last (h1.symm.trans k1) h2 k2

/-- strings.LastIndexByte of '/' -/
def lastI (l : By) (i : Int) : Prop := (i = -1 ∧ 47 ∉ l) ∨ ∃ k : Nat, i = k ∧ l[k]? = some 47 ∧ 47 ∉ l.drop (k + 1)

set_option maxHeartbeats 400000 in
set_option maxRecDepth 100000 in
theorem lastIndex_any (s : ByteArray) (w : World) (hs : s.size ≤ 1152921504606846976) :
    Calls Tryz.prog 82 #[.string s, .int .u8 47] w fun e w' => (∃ i, e = .returned (.int .i64 i) ∧ lastI (tl s) i) ∧ w' = w := by
  have C : Calls Tryz.prog 132 #[.string s, .int .u8 47] w fun e w' => (∃ i, e = .returned (.int .i64 i) ∧ lastI (tl s) i) ∧ w' = w := by
    have hlen := tl_len s
    go_enter Tryz.func132, Tryz.ntmps132
    go_wp2
    go_loop [5] (fun i => ∃ k : Nat, i = .int .i64 ((k : Int) - 1) ∧ k ≤ s.size ∧ ∀ j (h : j < s.size), k ≤ j → s[j]'h ≠ 47) (fun i => iOf (match i with | .int a x => .int a (x + 1) | v => v))
    case atStart => exact ⟨s.size, rfl, Nat.le_refl _, fun j h hj => absurd h (by omega)⟩
    case round =>
      obtain ⟨k, rfl, hk, hj⟩ := hrel
      cases k with
      | zero =>
        go_wp2
        go_ret
        refine ⟨⟨-1, rfl, .inl ⟨rfl, fun h => ?_⟩⟩, rfl⟩
        obtain ⟨j, hlt, e⟩ := tl_mem h
        exact hj j hlt (Nat.zero_le _) e
      | succ k =>
        have hlt : k < s.size := hk
        have e1 : ((k + 1 : Nat) : Int) - 1 = (k : Int) := by omega
        rw [e1]
        have i1 : (k : Int) < (s.size : Int) := by omega
        have i0 : (0 : Int) ≤ (k : Int) := by omega
        by_cases hb : s[k]'hlt = 47
        · have hb' : (((s[k]'hlt).toNat : Int) == 47) = true := by rw [hb]; rfl
          have HB : Hid (s[k]'hlt = 47) := hb
          clear hb
          go_wp2
          go_ret
          refine ⟨⟨_, rfl, .inr ⟨k, rfl, ?_, ?_⟩⟩, rfl⟩
          · rw [tl_at s k hlt, HB.out]
          · intro hm
            obtain ⟨j, hj1, e⟩ := List.mem_iff_getElem.1 hm
            rw [List.getElem_drop] at e
            rw [List.length_drop, tl_len] at hj1
            have := tl_at s (k + 1 + j) (by omega)
            rw [List.getElem?_eq_getElem (by rw [tl_len]; omega), e] at this
            exact hj _ (by omega) (by omega) (Option.some.inj this).symm
        · have hb' : (((s[k]'hlt).toNat : Int) == 47) = false := by
            simp only [beq_eq_false_iff_ne, ne_eq]
            intro q; exact hb (UInt8.toNat_inj.1 (by show (s[k]'hlt).toNat = 47; omega))
          go_wp2
          refine ⟨⟨k, rfl, by omega, fun j h hjk => ?_⟩, ?_⟩
          · by_cases e : j = k
            · subst e; exact hb
            · exact hj j h (by omega)
          · simp
  go_enter Tryz.func82, Tryz.ntmps82
  go_wp2_with (go_at_call 132; refine C.mono ?_; rintro e w1 ⟨⟨i, rfl, hi⟩, rfl⟩)
  go_ret
  exact ⟨⟨_, rfl, hi⟩, rfl⟩

set_option maxHeartbeats 400000 in
set_option maxRecDepth 100000 in
theorem above_any (s : ByteArray) (w : World) (hs : s.size ≤ 1152921504606846976) :
    Calls Tryz.prog 49 #[.string s] w fun e w' => (∃ u v : ByteArray, e = .returned (.tuple #[.string u, .string v]) ∧ AboveR (tl s) (tl u) (tl v)) ∧ Drew w w' := by
  have hlen := tl_len s
  have C := lastIndex_any s w hs
  go_enter Tryz.func49, Tryz.ntmps49
  go_wp2_with fail
  refine C.mono ?_
  rintro e w1 ⟨⟨i, rfl, hi⟩, rfl⟩
  rcases hi with ⟨rfl, hi⟩ | ⟨k, rfl, h1, h2⟩
  · go_wp2
    go_ret2
    exact ⟨⟨_, s, rfl, .inl ⟨by simp [tl, ByteArray.toList_eq], rfl, hi⟩⟩, Drew.refl _⟩
  · have hk : k < s.size := by
      obtain ⟨q, _⟩ := List.getElem?_eq_some_iff.1 h1
      rw [hlen] at q; exact q
    have i1 : (k : Int) ≤ (s.size : Int) := by omega
    have i2 : (k : Int) + 1 ≤ (s.size : Int) := by omega
    have e3 : ((k : Int) + 1).toNat = k + 1 := by omega
    go_wp2_with fail
    go_quiet (fail)
    go_wp2
    go_ret2
    have x1 : tl (s.extract (k + 1) s.size) = (tl s).drop (k + 1) := by
      rw [tl_extract]
      apply List.take_of_length_le
      rw [List.length_drop, hlen]; omega
    have x0 : tl (s.extract 0 k) = (tl s).take k := by rw [tl_extract]; simp
    refine ⟨⟨s.extract 0 k, s.extract (k + 1) s.size, rfl, .inr ⟨?_, ?_⟩⟩, _, rfl⟩
    · rw [x0, x1]
      have hlt : k < (tl s).length := by rw [hlen]; exact hk
      conv => lhs; rw [← List.take_append_drop k (tl s), List.drop_eq_getElem_cons hlt]
      rw [List.getElem?_eq_getElem hlt] at h1
      rw [Option.some.inj h1]
    · rw [x1]; exact h2
end Go.Proofs.YtnhnggnldhmepabGreatDoor
