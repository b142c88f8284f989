/-
  Join in Lean, the reference's Join.
-/
import Derived.Test.YtpngnhpnjkepjaaDoorRefPieces
import Derived.Test.YtpngnhpnjkepjaaDoorUnder
import Derived.Test.YtpngnhpnjkepjaaDoorTexts
namespace Go.Proofs.YtpngnhpnjkepjaaDoor
open Go.RowKit
theorem at_map {X : List ByteArray} {k : Nat} (h : k < X.length) : ∃ s, X[k]? = some s ∧ (X.map tl)[k]? = some (tl s) := ⟨X[k], List.getElem?_eq_getElem h, by simp [List.getElem?_eq_getElem h]⟩
theorem cut_mid : ∀ (a r : By), cut (a ++ 47 :: r) = ((cut a).1, (cut a).2 ++ cuts r)
  | [], r => by simp [cut, cuts]
  | x :: xs, r => by
    have ih := cut_mid xs r
    rw [List.cons_append, cut, cut, ih]
    split <;> simp
theorem cuts_mid (a r : By) : cuts (a ++ 47 :: r) = cuts a ++ cuts r := by
  rw [cuts, cut_mid]; rfl
theorem join_append : ∀ {A Z : List By}, A ≠ [] → Z ≠ [] → joinL (A ++ Z) = joinL A ++ 47 :: joinL Z
  | [], _, h, _ => absurd rfl h
  | [x], Z, _, hz => by
    cases Z with
    | nil => exact absurd rfl hz
    | cons z Z => rfl
  | x :: y :: A, Z, _, hz => by
    have ih := join_append (A := y :: A) (Z := Z) (by simp) hz
    rw [List.cons_append, List.cons_append, joinL, joinL, ← List.cons_append, ih]
    simp
theorem join_take {L : List By} {k : Nat} {x : By} (h : L[k]? = some x) : joinL (L.take (k + 1)) = (if k = 0 then [] else joinL (L.take k) ++ [47]) ++ x := by
  obtain ⟨hk, hx⟩ := List.getElem?_eq_some_iff.1 h
  rw [List.take_add_one, h]
  by_cases e : k = 0
  · subst e; simp [joinL]
  · rw [if_neg e]
    simp only [Option.toList_some]
    rw [join_append (by rw [ne_eq, List.take_eq_nil_iff]; rintro (q | q); exact e q; (subst q; simp at hk)) (by simp), joinL]
    simp
theorem join_take_le {L : List By} {k : Nat} (hk : k ≤ L.length) : (joinL (L.take k)).length ≤ (joinL L).length := by
  by_cases e : k = 0
  · subst e; simp [joinL]
  · by_cases e2 : L.drop k = []
    · rw [List.drop_eq_nil_iff] at e2
      rw [List.take_of_length_le e2]; exact Nat.le_refl _
    · conv => rhs; rw [← List.take_append_drop k L]
      rw [join_append (by rw [ne_eq, List.take_eq_nil_iff]; rintro (q | q); exact e q; (subst q; simp at e2)) e2]
      simp
theorem size_of_tl {s : ByteArray} {l : By} (h : tl s = l) : s.size = l.length := by rw [← h, tl_len]

/-- a text of these bytes -/
def ofL (l : By) : ByteArray := ⟨l.toArray⟩
theorem tl_ofL (l : By) : tl (ofL l) = l := by simp [tl, ofL]
theorem eq_ofL {s : ByteArray} {l : By} (h : tl s = l) : s = ofL l := ext_of _ _ (by rw [tl_ofL]; exact h)

set_option maxHeartbeats 1000000 in
set_option maxRecDepth 100000 in
theorem refJoin_any (v : Value) (L : List ByteArray) (w : World) (hL : HasT w v L) (hn : L.length ≤ 1048577) (hs : (joinL (L.map tl)).length ≤ 1048576) :
    Calls Tryd.prog 36 #[v] w fun e w' => e = .returned (.string (ofL (joinL (L.map tl)))) ∧ w' = w := by
  have HL : Hid (HasT w v L) := hL
  have HS : Hid ((joinL (L.map tl)).length ≤ 1048576) := hs
  clear hs
  obtain ⟨ao, cap, hv, _⟩ := hL.form
  subst hv
  clear hL
  go_enter Tryd.func36, Tryd.ntmps36
  go_wp2
  go_loop [3, 4] (fun x i => ∃ (k : Nat) (s : ByteArray), x = .string s ∧ i = .int .i64 k ∧ k ≤ L.length ∧ Hid (tl s = joinL ((L.map tl).take k))) (fun _ i => L.length - iOf i)
  case atStart => exact ⟨0, _, rfl, rfl, Nat.zero_le _, by show _ = _; simp [joinL, tl, ByteArray.toList_eq]⟩
  case round =>
    obtain ⟨k, s, rfl, rfl, hk, HT⟩ := hrel
    have hsz : s.size ≤ 1048576 := by
      rw [size_of_tl HT.out]
      exact Nat.le_trans (join_take_le (by rw [List.length_map]; exact hk)) HS.out
    by_cases hlt : k < L.length
    · have i1 : (k : Int) < (L.length : Int) := by omega
      obtain ⟨x, ex, fx⟩ := at_map hlt
      have hjt := join_take fx
      have hle := Nat.le_trans (join_take_le (L := L.map tl) (k := k + 1) (by rw [List.length_map]; exact hlt)) HS.out
      rw [hjt] at hle
      have hxs : s.size + 1 + x.size ≤ 1048578 ∨ k = 0 ∧ x.size ≤ 1048576 := by
        rw [size_of_tl HT.out, ← tl_len x]
        by_cases e : k = 0
        · rw [if_pos e] at hle; right; refine ⟨e, ?_⟩; simpa using hle
        · rw [if_neg e] at hle; simp at hle; left; omega
      obtain ⟨a0, _, hva, hca⟩ := HL.out.at ex
      simp at hva
      obtain ⟨rfl, rfl⟩ := hva
      have hxs2 : x.size ≤ 1048578 := by omega
      by_cases e : k = 0
      · subst e
        have J : Hid (tl (s ++ x) = joinL ((L.map tl).take (0 + 1))) := by
          show _ = _
          rw [hjt, if_pos rfl, tl_append, HT.out]; simp [joinL]
        have hca0 : w.cell? a0 = some (.string x) := by rw [show a0 = a0.add 0 from by cases a0; simp [Addr.add]]; exact hca
        have a1 : s.size + x.size ≤ 9223372036854775807 := by omega
        clear hjt hle hxs ex fx hca
        go_wp2
        exact ⟨⟨1, _, rfl, rfl, by omega, J⟩, by simp; omega⟩
      · have J : Hid (tl (s ++ ⟨#[47]⟩ ++ x) = joinL ((L.map tl).take (k + 1))) := by
          show _ = _
          rw [hjt, if_neg e, tl_append, tl_append, HT.out]; simp [tl, ByteArray.toList_eq]
        have a0' : s.size + 1 ≤ 9223372036854775807 := by omega
        have a1 : s.size + 1 + x.size ≤ 9223372036854775807 := by omega
        have k0 : (0 : Int) < (k : Int) := by omega
        clear hjt hle hxs ex fx e
        go_wp2
        exact ⟨⟨k + 1, _, rfl, rfl, by omega, J⟩, by simp; omega⟩
    · have i1 : ¬ ((k : Int) < (L.length : Int)) := by omega
      have J : Hid (tl s = joinL (L.map tl)) := by
        have h := HT.out
        rw [List.take_of_length_le (by rw [List.length_map]; omega)] at h
        exact h
      have J2 : Hid (s = ofL (joinL (L.map tl))) := eq_ofL J.out
      clear J
      go_wp2
      go_ret
      exact ⟨by rw [← J2.out]; rfl, rfl⟩

theorem HasT.take {w : World} {ao : Option Addr} {cap m : Nat} {l : List ByteArray} (h : HasT w (.slice ao l.length cap) l) (hm : m < l.length) : HasT w (.slice ao m cap) (l.take m) := by
  rcases h with ⟨_, rfl⟩ | ⟨a, c, hv, hc, hcell⟩
  · simp at hm
  · simp at hv
    obtain ⟨rfl, rfl⟩ := hv
    refine .inr ⟨a, cap, by simp; omega, by simp; omega, fun i s hi => hcell i s ?_⟩
    rw [List.getElem?_take] at hi
    split at hi
    · exact hi
    · simp at hi

end Go.Proofs.YtpngnhpnjkepjaaDoor
