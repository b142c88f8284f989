/-
  Sorted lists of texts.
-/
import Derived.Test.YtnhnggnldhmepabGreatDoorTexts
namespace Go.Proofs.YtnhnggnldhmepabGreatDoor
open Go.RowKit

def cmpT (a b : ByteArray) : Int := cmpL (tl a) (tl b)
def Srt (L : List ByteArray) : Prop := L.Pairwise fun a b => cmpT a b ≤ 0

theorem cmpT_neg (a b : ByteArray) : cmpT b a = - cmpT a b := cmpL_neg _ _
theorem cmpT_trans {a b c : ByteArray} (h : cmpT a b ≤ 0) (k : cmpT b c ≤ 0) : cmpT a c ≤ 0 := cmpL_trans _ _ _ h k
theorem cmpT_eq {a b : ByteArray} (h : cmpT a b ≤ 0) (k : cmpT b a ≤ 0) : a = b := by
  have e := cmpT_neg a b
  exact ext_of _ _ ((cmpL_zero _ _).1 (show cmpT a b = 0 by omega))

theorem srt_unique : ∀ {A B : List ByteArray}, A.Perm B → Srt A → Srt B → A = B
  | [], B, h, _, _ => by rw [List.Perm.nil_eq h]
  | a :: A, [], h, _, _ => by have := h.length_eq; simp at this
  | a :: A, b :: B, h, ha, hb => by
    have ha' := List.pairwise_cons.1 ha
    have hb' := List.pairwise_cons.1 hb
    have e : a = b := by
      have m1 : a ∈ b :: B := h.mem_iff.1 (by simp)
      have m2 : b ∈ a :: A := h.mem_iff.2 (by simp)
      rcases List.mem_cons.1 m1 with e | m1
      · exact e
      · rcases List.mem_cons.1 m2 with e | m2
        · exact e.symm
        · exact cmpT_eq (ha'.1 b m2) (hb'.1 a m1)
    subst e
    rw [srt_unique ((List.perm_cons a).1 h) ha'.2 hb'.2]

/-- A text is laid in at its place. -/
theorem srt_ins {O : List ByteArray} {x : ByteArray} {k : Nat} (h : Srt O) (hk : k ≤ O.length) (h1 : ∀ y ∈ O.drop k, 0 < cmpT y x) (h2 : k = 0 ∨ ∃ z, O[k - 1]? = some z ∧ cmpT z x ≤ 0) : Srt (O.take k ++ [x] ++ O.drop k) := by
  have hs : Srt (O.take k ++ O.drop k) := by rw [List.take_append_drop]; exact h
  obtain ⟨p1, p2, p3⟩ := List.pairwise_append.1 hs
  have lo : ∀ y ∈ O.take k, cmpT y x ≤ 0 := fun y hy => by
    rcases h2 with rfl | ⟨z, hz, hzx⟩
    · simp at hy
    · obtain ⟨i, hi⟩ := List.getElem?_of_mem hy
      have hik : i < k := by have := (List.getElem?_eq_some_iff.1 hi).1; simp at this; omega
      rw [List.getElem?_take, if_pos hik] at hi
      obtain ⟨li, ei⟩ := List.getElem?_eq_some_iff.1 hi
      obtain ⟨lz, ez⟩ := List.getElem?_eq_some_iff.1 hz
      by_cases e : i = k - 1
      · subst e
        rw [hi] at hz
        obtain rfl := Option.some.inj hz
        exact hzx
      · have := List.pairwise_iff_getElem.1 h i (k - 1) li lz (by omega)
        rw [ei, ez] at this
        exact cmpT_trans this hzx
  have hi : ∀ y ∈ O.drop k, cmpT x y ≤ 0 := fun y hy => by
    have := h1 y hy
    have e := cmpT_neg y x
    omega
  refine List.pairwise_append.2 ⟨List.pairwise_append.2 ⟨p1, by simp, fun y hy z hz => ?_⟩, p2, fun y hy z hz => ?_⟩
  · obtain rfl := List.mem_singleton.1 hz
    exact lo y hy
  · rcases List.mem_append.1 hy with hy | hy
    · exact p3 y hy z hz
    · obtain rfl := List.mem_singleton.1 hy
      exact hi z hz

theorem perm_ins {O M : List ByteArray} {x : ByteArray} {k : Nat} (h : O.Perm M) : (O.take k ++ [x] ++ O.drop k).Perm (M ++ [x]) := by
  have a : (O.take k ++ [x] ++ O.drop k).Perm (O.take k ++ O.drop k ++ [x]) := by
    rw [List.append_assoc, List.append_assoc]
    exact List.Perm.append_left _ List.perm_append_comm
  rw [List.take_append_drop] at a
  exact a.trans (h.append_right _)
end Go.Proofs.YtnhnggnldhmepabGreatDoor
