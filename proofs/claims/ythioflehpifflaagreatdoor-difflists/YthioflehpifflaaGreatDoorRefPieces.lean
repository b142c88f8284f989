import Derived.Test.YthioflehpifflaaGreatDoorTexts
namespace Go.Proofs.YthioflehpifflaaGreatDoor
open Go.RowKit

theorem drop_take_cut {l : By} {f k : Nat} (hf : f ≤ k) (hx : l[k]? = some 47) (hno : ∀ j, f ≤ j → j < k → l[j]? ≠ some 47) : cuts (l.drop f) = (l.drop f).take (k - f) :: cuts (l.drop (k + 1)) := by
  obtain ⟨hk, hx'⟩ := List.getElem?_eq_some_iff.1 hx
  have e : l.drop f = (l.drop f).take (k - f) ++ 47 :: l.drop (k + 1) := by
    conv => lhs; rw [← List.take_append_drop (k - f) (l.drop f)]
    rw [List.drop_drop, show f + (k - f) = k from by omega, List.drop_eq_getElem_cons hk, hx']
  rw [cuts]
  conv => lhs; rw [e]
  rw [cut_at]
  intro x hx1 e2
  subst e2
  obtain ⟨j, hj, ej⟩ := List.mem_iff_getElem.1 hx1
  rw [List.getElem_take, List.getElem_drop] at ej
  simp at hj
  exact hno (f + j) (by omega) (by omega) (by rw [List.getElem?_eq_getElem (by omega), ej])
theorem drop_no_cut {l : By} {f : Nat} (hno : ∀ j, f ≤ j → j < l.length → l[j]? ≠ some 47) : cuts (l.drop f) = [l.drop f] := by
  rw [cuts, cuts_none]
  intro x hx1 e2
  subst e2
  obtain ⟨j, hj, ej⟩ := List.mem_iff_getElem.1 hx1
  rw [List.getElem_drop] at ej
  simp at hj
  exact hno (f + j) (by omega) (by omega) (by rw [List.getElem?_eq_getElem (by omega), ej])

set_option maxHeartbeats 1000000 in
set_option maxRecDepth 100000 in
theorem pieces_any (s : ByteArray) (w : World) (hs : s.size ≤ 1048576) :
    Calls Tryz.prog 80 #[.string s] w fun e w' => ∃ v L, e = .returned v ∧ OwnsT w' w.heap.size v L ∧ L.map tl = pieces (tl s) ∧ Below w.heap.size w w' := by
  obtain ⟨i0, hi, hz0, hz1, hz2⟩ := info_parts Tryz.info9
  have hlen := tl_len s
  by_cases h0 : s.toList = []
  · have b0 : s.toList.isEmpty = true := by simpa using h0
    go_enter Tryz.func80, Tryz.ntmps80
    go_wp2
    go_ret
    exact ⟨_, [], rfl, OwnsT.nil _ _, by unfold pieces; rw [if_pos h0]; rfl, Below.refl _ _⟩
  · have b0 : s.toList.isEmpty = false := by simpa using h0
    have HP : Hid (pieces (tl s) = cuts (tl s)) := by show _ = _; unfold pieces; rw [if_neg h0]
    go_enter Tryz.func80, Tryz.ntmps80
    go_wp2
    go_loopw [3, 4, 5] (fun v x y wr => ∃ (L : List ByteArray) (f k : Nat), x = .int .i64 f ∧ y = .int .i64 k ∧ f ≤ k ∧ k ≤ s.size ∧ L.length ≤ k ∧ OwnsT wr w.heap.size v L ∧ Below w.heap.size w wr ∧ Hid (L.map tl ++ cuts ((tl s).drop f) = cuts (tl s) ∧ ∀ j, f ≤ j → j < k → (tl s)[j]? ≠ some 47)) (fun _ _ y _ => s.size - iOf y)
    case atStart => exact ⟨[], 0, 0, rfl, rfl, Nat.le_refl _, Nat.zero_le _, Nat.le_refl _, OwnsT.nil _ _, Below.refl _ _, by simp, fun j _ h => absurd h (Nat.not_lt_zero _)⟩
    case round =>
      obtain ⟨L, f, k, rfl, rfl, hfk, hk, hLk, hown, hb, HI⟩ := hrel
      by_cases hlt : k < s.size
      · have i1 : (k : Int) < (s.size : Int) := by omega
        have e1 := tl_at s k hlt
        by_cases hx : s[k]'hlt = 47
        · have hx' : (((s[k]'hlt).toNat : Int) == 47) = true := by rw [hx]; rfl
          rw [hx] at e1
          have i2 : (f : Int) ≤ (k : Int) := by omega
          have i3 : (k : Int) ≤ (s.size : Int) := by omega
          have E1 : Hid ((tl s)[k]? = some 47) := e1
          clear hx e1
          go_wp2_with (at_builtin; refine wpList_append_own _ rfl _ _ 79 rfl w.heap.size 9 i0 (.string ⟨#[]⟩) 1 16 Tryz.underlying79 hi hz0 hz1 hz2 rfl (by decide) _ _ _ rfl (World.ownsRow.alloc hown _) ⟨wr.heap.size, 0, none⟩ 1 1 [.string (s.extract f k)] rfl rfl ?c1 ?c2 ?c3 ?c4 ?c5 ?_)
          case c1 => exact one_new
          case c2 => intro u hu; simp at hu; subst hu; rfl
          case c3 => unfold maxLen; omega
          case c4 => omega
          case c5 => have := hb.size; simp; omega
          intro v' w1 hown' hgrow _
          have R1 : OwnsT w1 w.heap.size v' (L ++ [s.extract f k]) := by unfold OwnsT; simpa using hown'
          have R2 := rel_own hb (fun k hk => (hown.lt k hk).1) hgrow
          have R3 : Hid ((L ++ [s.extract f k]).map tl ++ cuts ((tl s).drop (k + 1)) = cuts (tl s) ∧ ∀ j, k + 1 ≤ j → j < k + 1 → (tl s)[j]? ≠ some 47) := by
            refine ⟨?_, fun j a b => by omega⟩
            rw [← HI.out.1, drop_take_cut hfk E1.out HI.out.2]
            simp [tl_extract]
          clear hown' hgrow hown HI
          go_wp2
          go_roundw
          case rel => exact ⟨_, k + 1, k + 1, by go_num, by go_num, Nat.le_refl _, by omega, by simp; omega, R1, R2, R3⟩
          case measure => simp; omega
        · have hx' : (((s[k]'hlt).toNat : Int) == 47) = false := by
            simp only [beq_eq_false_iff_ne, ne_eq]
            intro q; exact hx (UInt8.toNat_inj.1 (by show (s[k]'hlt).toNat = 47; omega))
          have R3 : Hid (L.map tl ++ cuts ((tl s).drop f) = cuts (tl s) ∧ ∀ j, f ≤ j → j < k + 1 → (tl s)[j]? ≠ some 47) := by
            refine ⟨HI.out.1, fun j a b => ?_⟩
            by_cases e : j = k
            · subst e; rw [e1]; simpa using hx
            · exact HI.out.2 j a (by omega)
          clear hx e1 HI
          go_wp2
          go_roundw
          case rel => exact ⟨L, f, k + 1, rfl, by go_num, by omega, by omega, by omega, hown, hb, R3⟩
          case measure => simp; omega
      · have i1 : ¬ ((k : Int) < (s.size : Int)) := by omega
        have i2 : (f : Int) ≤ (s.size : Int) := by omega
        go_wp2_with (at_builtin; refine wpList_append_own _ rfl _ _ 79 rfl w.heap.size 9 i0 (.string ⟨#[]⟩) 1 16 Tryz.underlying79 hi hz0 hz1 hz2 rfl (by decide) _ _ _ rfl (World.ownsRow.alloc hown _) ⟨wr.heap.size, 0, none⟩ 1 1 [.string (s.extract f s.size)] rfl rfl ?c1 ?c2 ?c3 ?c4 ?c5 ?_)
        case c2 => rfl
        case c3 => unfold maxLen; omega
        case c4 => omega
        case c5 => have := hb.size; simp; omega
        intro v' w1 hown' hgrow _
        have R1 : OwnsT w1 w.heap.size v' (L ++ [s.extract f s.size]) := by unfold OwnsT; simpa using hown'
        have R2 := rel_own hb (fun k hk => (hown.lt k hk).1) hgrow
        have R3 : Hid ((L ++ [s.extract f s.size]).map tl = pieces (tl s)) := by
          show _ = _
          rw [HP.out, ← HI.out.1, drop_no_cut (fun j a b => HI.out.2 j a (by omega)), List.map_append]
          congr 1
          simp only [List.map_cons, List.map_nil]
          rw [tl_extract, List.take_of_length_le (by rw [List.length_drop]; omega)]
        clear hown' hgrow hown HI
        go_wp2
        go_ret
        exact ⟨_, _, rfl, R1, R3.out, R2⟩
end Go.Proofs.YthioflehpifflaaGreatDoor
