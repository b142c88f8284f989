/-
  strings.Split at a line feed.
-/
import Derived.Test.YtfigneaaeakbcaaDoorShelf
import Derived.Test.YtfigneaaeakbcaaDoorCu
namespace Go.Proofs.YtfigneaaeakbcaaDoor
open Go.RowKit Hm Go.Shelf
theorem idx10 (l : By) : Lib.index l [10] = Lib.indexByte l 10 := Lib.index_one l 10
theorem idx10_none : ∀ {l : By}, (10 : UInt8) ∉ l → Lib.indexByte l 10 = -1
  | [], _ => rfl
  | b :: l, h => by
    have h1 : b ≠ 10 := fun e => h (by simp [e])
    have ih := idx10_none (l := l) (fun e => h (by simp [e]))
    unfold Lib.indexByte
    rw [if_neg (by simpa using h1), ih]; rfl
theorem idx10_mid : ∀ {a : By} (r : By), (10 : UInt8) ∉ a → Lib.indexByte (a ++ 10 :: r) 10 = (a.length : Int)
  | [], r, _ => by simp [Lib.indexByte]
  | b :: a, r, h => by
    have h1 : b ≠ 10 := fun e => h (by simp [e])
    have ih := idx10_mid (a := a) r (fun e => h (by simp [e]))
    rw [List.cons_append]
    unfold Lib.indexByte
    rw [if_neg (by simpa using h1), ih, if_neg (by simp)]
    simp
theorem first10 : ∀ (l : By), (10 : UInt8) ∈ l → ∃ a r, l = a ++ 10 :: r ∧ (10 : UInt8) ∉ a
  | [], h => by simp at h
  | b :: l, h => by
    by_cases hb : b = 10
    · subst hb; exact ⟨[], l, rfl, by simp⟩
    · obtain ⟨a, r, rfl, ha⟩ := first10 l (by rcases List.mem_cons.1 h with e | e; exact absurd e.symm hb; exact e)
      exact ⟨b :: a, r, rfl, by simp only [List.mem_cons, not_or]; exact ⟨fun e => hb e.symm, ha⟩⟩
theorem splitK_lines : ∀ (k : Nat) (l : By), l.count 10 ≤ k → Lib.splitK [10] 0 k l = linesR l
  | 0, l, h => by
    have : (10 : UInt8) ∉ l := List.count_eq_zero.1 (by omega)
    rw [linesR_one this]; rfl
  | k + 1, l, h => by
    unfold Lib.splitK
    rw [idx10]
    by_cases hm : (10 : UInt8) ∈ l
    · obtain ⟨a, r, rfl, ha⟩ := first10 l hm
      rw [idx10_mid r ha, if_neg (by simp), linesR_mid r ha]
      have hc : r.count 10 ≤ k := by
        rw [List.count_append, List.count_cons_self] at h; omega
      have e1 : (a ++ 10 :: r).take ((a.length : Int).toNat + 0) = a := by simp
      have e2 : (a ++ 10 :: r).drop ((a.length : Int).toNat + ([10] : List UInt8).length) = r := by simp
      rw [e1, e2]
      rw [splitK_lines k r hc]
    · rw [idx10_none hm, linesR_one hm]; rfl
theorem split10_any (s : ByteArray) (w : World) (hs : s.size ≤ 4000) :
    Calls Tryd.prog 20 #[.string s, .string ⟨#[10]⟩] w fun e w' => ∃ L : List ByteArray, L.map tl = linesR (tl s) ∧ e = .returned (.slice (some ⟨w.heap.size, 0, none⟩) L.length L.length) ∧ w' = w.alloc (.cells (L.map Value.string).toArray 9) := by
  have C60 : Calls Tryd.prog 41 #[.string s, .string ⟨#[10]⟩] w fun e w' => e = .returned (.int .i64 (Lib.countB s ⟨#[10]⟩)) ∧ w' = w := by
    refine Calls.mono (Any.strings_Count_one Tryd.lays138 s 10 w) fun e w' h => ⟨?_, h.2⟩
    rw [h.1]
    show _ = Ending.returned (Value.int .i64 ((Lib.count s.data.toList [10] : Nat) : Int))
    rw [Lib.count_one]
    rfl
  have C66 : ∀ (x : ByteArray) (W : World), Calls Tryd.prog 42 #[.string x, .string ⟨#[10]⟩] W fun e w' => e = .returned (.int .i64 (Lib.indexB x ⟨#[10]⟩)) ∧ w' = W := fun x W => by
    refine Calls.mono (Any.strings_Index_one Tryd.lays143 x 10 W) fun e w' h => ⟨?_, h.2⟩
    rw [h.1]
    show _ = Ending.returned (Value.int .i64 (Lib.index x.data.toList [10]))
    rw [idx10]
  have hle := Lib.countB_le ⟨#[10]⟩ (by decide) s.size s (Nat.le_refl _)
  have hlen := Lib.splitB_all ⟨#[10]⟩ (by decide) 0 _ s rfl
  have C47 : Calls Tryd.prog 28 #[.string s, .string ⟨#[10]⟩, .int .i64 0, .int .i64 (-1)] w fun e w' => e = .returned (.slice (some ⟨w.heap.size, 0, none⟩) (Lib.splitB ⟨#[10]⟩ 0 (Lib.countB s ⟨#[10]⟩ + 1 - 1) s).length (Lib.countB s ⟨#[10]⟩ + 1)) ∧ w' = w.alloc (.cells (Lib.cellsOf (Lib.splitB ⟨#[10]⟩ 0 (Lib.countB s ⟨#[10]⟩ + 1 - 1) s) (Lib.countB s ⟨#[10]⟩ + 1)) 9) :=
    Any.strings_genSplit_core Tryd.lays221 (by kernel_rfl) s ⟨#[10]⟩ 0 (-1) (Lib.countB s ⟨#[10]⟩ + 1) w (by omega) (by decide) (Nat.zero_le _) (fun x c _ => C66 x _) C60 (by decide) (by decide) (by rw [if_pos (by decide)]; omega)
  rw [Nat.add_sub_cancel] at C47
  have e2 : Lib.cellsOf (Lib.splitB ⟨#[10]⟩ 0 (Lib.countB s ⟨#[10]⟩) s) (Lib.countB s ⟨#[10]⟩ + 1) = ((Lib.splitB ⟨#[10]⟩ 0 (Lib.countB s ⟨#[10]⟩) s).map Value.string).toArray := by rw [← hlen]; exact Lib.cellsOf_full _
  rw [e2] at C47
  have hL : (Lib.splitB ⟨#[10]⟩ 0 (Lib.countB s ⟨#[10]⟩) s).map tl = linesR (tl s) := by
    have h1 := Lib.splitB_data ⟨#[10]⟩ 0 (Lib.countB s ⟨#[10]⟩) s
    have hE : (fun s : ByteArray => s.data.toList) = tl := by funext s; rw [tl, ByteArray.toList_eq]
    rw [hE] at h1
    rw [h1, show s.data.toList = tl s from by rw [tl, ByteArray.toList_eq]]
    refine splitK_lines _ _ ?_
    show _ ≤ Lib.count s.data.toList [10]
    rw [Lib.count_one, tl, ByteArray.toList_eq]
    exact Nat.le_refl _
  generalize hG : Lib.splitB ⟨#[10]⟩ 0 (Lib.countB s ⟨#[10]⟩) s = L at *
  generalize Lib.countB s ⟨#[10]⟩ + 1 = m at *
  go_enter Tryd.func20, Tryd.ntmps20
  go_wp2_with (go_at_call 28; refine C47.mono ?_; rintro e w1 ⟨rfl, rfl⟩)
  go_ret
  exact ⟨L, hL, by rw [hlen]; rfl, rfl⟩
end Go.Proofs.YtfigneaaeakbcaaDoor
