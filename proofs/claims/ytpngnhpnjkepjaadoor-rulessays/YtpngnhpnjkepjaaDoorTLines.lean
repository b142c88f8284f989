/-
  The reference's lines, after by contract.
-/
import Derived.Test.YtpngnhpnjkepjaaDoorRParse
namespace Go.Proofs.YtpngnhpnjkepjaaDoor
open Go.RowKit

theorem linesR_drop : ∀ {l : By} {f i : Nat}, f ≤ i → l[i]? = some 10 → (∀ j, f ≤ j → j < i → l[j]? ≠ some 10) → linesR (l.drop f) = (l.drop f).take (i - f) :: linesR (l.drop (i + 1)) := by
  intro l f i hfi hi hno
  have hl := (List.getElem?_eq_some_iff.1 hi).1
  have e : l.drop f = (l.drop f).take (i - f) ++ 10 :: l.drop (i + 1) := by
    have h1 : (l.drop f).drop (i - f) = 10 :: l.drop (i + 1) := by
      rw [List.drop_drop, show f + (i - f) = i from by omega, List.drop_eq_getElem_cons hl]
      congr 1
      exact (List.getElem?_eq_some_iff.1 hi).2
    conv => lhs; rw [← List.take_append_drop (i - f) (l.drop f), h1]
  conv => lhs; rw [e]
  refine linesR_mid _ fun hm => ?_
  obtain ⟨j, hj⟩ := List.getElem?_of_mem hm
  have hjl := (List.getElem?_eq_some_iff.1 hj).1
  rw [List.length_take, List.length_drop] at hjl
  rw [List.getElem?_take, if_pos (by omega), List.getElem?_drop] at hj
  exact hno (f + j) (by omega) (by omega) hj
theorem linesR_last {l : By} {f : Nat} (hno : ∀ j, f ≤ j → j < l.length → l[j]? ≠ some 10) : linesR (l.drop f) = [l.drop f] := by
  refine linesR_one fun hm => ?_
  obtain ⟨j, hj⟩ := List.getElem?_of_mem hm
  have hjl := (List.getElem?_eq_some_iff.1 hj).1
  rw [List.length_drop] at hjl
  rw [List.getElem?_drop] at hj
  exact hno (f + j) (by omega) (by omega) hj
set_option maxHeartbeats 2000000 in
set_option maxRecDepth 100000 in
theorem tlines_any (s : ByteArray) (w : World) (hs : s.size ≤ 4000) :
    Calls Tryd.prog 26 #[.string s] w fun e w' => ∃ v X, e = .returned v ∧ HasT w' v X ∧ X.map tl = linesR (tl s) ∧ Below w.heap.size w w' := by
  obtain ⟨i0, hi, hz0, hz1, hz2⟩ := info_parts Tryd.info9
  have hlen := tl_len s
  go_enter Tryd.func26, Tryd.ntmps26
  go_wp2
  go_loopw [3, 4, 5] (fun t3 t4 t5 wr => ∃ (f n : Nat) (X : List ByteArray) (so : Option Addr) (sc : Nat), t3 = .slice so X.length sc ∧ t4 = .int .i64 (f : Int) ∧ t5 = .int .i64 (n : Int) ∧ f ≤ n ∧ n ≤ s.size ∧ X.length ≤ f ∧ OwnsT wr w.heap.size (.slice so X.length sc) X ∧ Below w.heap.size w wr ∧ Hid (X.map tl ++ linesR ((tl s).drop f) = linesR (tl s) ∧ ∀ j, f ≤ j → j < n → (tl s)[j]? ≠ some 10)) (fun _ _ t5 wr => s.size - iOf t5)
  case atStart => exact ⟨0, 0, [], none, 0, rfl, rfl, rfl, Nat.le_refl _, Nat.zero_le _, Nat.le_refl _, OwnsT.nil _ _, Below.refl _ _, by simp, fun j h1 h2 => by omega⟩
  case round =>
    obtain ⟨f, n, X, so, sc, rfl, rfl, rfl, hfn, hns, hXf, hown, hbe, HI⟩ := hrel
    by_cases hlt : n < s.size
    · have i1 : (n : Int) < (s.size : Int) := by omega
      have hat := tl_at s n hlt
      by_cases h10 : s[n]'hlt = 10
      · have c1 : (((s[n]'hlt).toNat : Int) == 10) = true := by rw [h10]; rfl
        have hdr := linesR_drop (l := tl s) (f := f) (i := n) hfn (by rw [hat, h10]) HI.out.2
        have HI2 : Hid ((X ++ [s.extract f n]).map tl ++ linesR ((tl s).drop (n + 1)) = linesR (tl s) ∧ ∀ j, n + 1 ≤ j → j < n + 1 → (tl s)[j]? ≠ some 10) := by
          refine ⟨?_, fun j h1 h2 => by omega⟩
          rw [← HI.out.1, hdr]
          simp [tl_extract]
        have j1 : (f : Int) ≤ (n : Int) := by omega
        clear h10 hat hdr HI
        go_wp2_with (at_builtin; refine wpList_append_own _ rfl _ _ 22 rfl w.heap.size 9 i0 (.string ⟨#[]⟩) 1 16 Tryd.underlying22 hi hz0 hz1 hz2 rfl (by decide) _ _ _ rfl (World.ownsRow.alloc hown _) ⟨wr.heap.size, 0, none⟩ 1 1 [.string (s.extract f n)] rfl rfl ?c1 ?c2 ?c3 ?c4 ?c5 ?_)
        case c1 => exact one_new
        case c2 => simp [Value.oneCell']
        case c3 => unfold maxLen; omega
        case c4 => omega
        case c5 => have := hbe.size; simp; omega
        intro v' w1 hown' hgrow _
        have R1 : OwnsT w1 w.heap.size v' (X ++ [s.extract f n]) := by unfold OwnsT; rw [List.map_append, List.length_append]; exact hown'
        have R2 := rel_own hbe (fun k hk => (World.ownsRow.lt hown k hk).1) hgrow
        obtain ⟨vo, vc, rfl⟩ := owns_form hown'
        clear hown' hgrow hown
        go_wp2
        go_roundw
        case rel => exact ⟨n + 1, n + 1, X ++ [s.extract f n], vo, vc, by simp, by go_num, by go_num, Nat.le_refl _, hlt, by simp; omega, by simpa using R1, R2, HI2⟩
        case measure => simp; omega
      · have c1 : (((s[n]'hlt).toNat : Int) == 10) = false := by
          simp
          intro q; exact h10 (UInt8.toNat_inj.1 (by show (s[n]'hlt).toNat = 10; omega))
        have HI2 : Hid (X.map tl ++ linesR ((tl s).drop f) = linesR (tl s) ∧ ∀ j, f ≤ j → j < n + 1 → (tl s)[j]? ≠ some 10) := by
          refine ⟨HI.out.1, fun j h1 h2 => ?_⟩
          by_cases e : j = n
          · subst e; rw [hat]; simpa using h10
          · exact HI.out.2 j h1 (by omega)
        clear h10 hat HI
        go_wp2
        go_roundw
        case rel => exact ⟨f, n + 1, X, so, sc, rfl, rfl, by go_num, by omega, hlt, hXf, hown, hbe, HI2⟩
        case measure => simp; omega
    · have hn2 : n = s.size := by omega
      subst hn2
      have hdr := linesR_last (l := tl s) (f := f) (fun j h1 h2 => HI.out.2 j h1 (by rw [hlen] at h2; exact h2))
      have HI2 : Hid ((X ++ [s.extract f s.size]).map tl = linesR (tl s)) := by
        show _ = _
        rw [← HI.out.1, hdr, List.map_append, List.map_cons, List.map_nil, tl_extract, List.take_of_length_le (by rw [List.length_drop, hlen]; exact Nat.le_refl _)]
      have j1 : (f : Int) ≤ (s.size : Int) := by omega
      clear hdr HI
      go_wp2_with (at_builtin; refine wpList_append_own _ rfl _ _ 22 rfl w.heap.size 9 i0 (.string ⟨#[]⟩) 1 16 Tryd.underlying22 hi hz0 hz1 hz2 rfl (by decide) _ _ _ rfl (World.ownsRow.alloc hown _) ⟨wr.heap.size, 0, none⟩ 1 1 [.string (s.extract f s.size)] rfl rfl ?c1 ?c2 ?c3 ?c4 ?c5 ?_)
      case c1 => exact one_new
      case c2 => simp [Value.oneCell']
      case c3 => unfold maxLen; omega
      case c4 => omega
      case c5 => have := hbe.size; simp; omega
      intro v' w1 hown' hgrow _
      have R1 : OwnsT w1 w.heap.size v' (X ++ [s.extract f s.size]) := by unfold OwnsT; rw [List.map_append, List.length_append]; exact hown'
      have R2 := rel_own hbe (fun k hk => (World.ownsRow.lt hown k hk).1) hgrow
      clear hown' hgrow hown
      go_wp2
      go_ret
      exact ⟨_, _, rfl, R1.has, HI2.out, R2⟩
end Go.Proofs.YtpngnhpnjkepjaaDoor
