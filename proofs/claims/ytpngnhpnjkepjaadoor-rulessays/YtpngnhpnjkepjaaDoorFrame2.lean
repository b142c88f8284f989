/-
  A slice of texts that came in.
-/
import Derived.Test.YtpngnhpnjkepjaaDoorRFrame
import Derived.Test.YtpngnhpnjkepjaaDoorTexts
import Derived.SliceStrings
namespace Go.Proofs.YtpngnhpnjkepjaaDoor
open Go.ChangeShapes Go.WideShapes Go.ChangeAt Go.RowKit

/-- what a slice of texts that came in holds -/
def InT (W : World) (v : Value) (l : List ByteArray) : Prop := HasT W v l ∧ (∀ s ∈ l, s.size ≤ 9223372036854775807) ∧ l.length ≤ 9223372036854775807
theorem texts_in {H : Type} {enc : TypeId × Value → H} {W : World} {a : Option Addr} {len cap : Nat} {d : DataW H} {p : List MemPlace}
    (h : DataW.Trod enc Tryd.prog W 0 (fun _ => true) true 22 (.slice a len cap) d p) : ∃ l : List ByteArray, l.length = len ∧ InT W (.slice a len cap) l := by
  obtain ⟨fuel, hf⟩ := h
  rcases open_strings Tryd.underlying22 Tryd.underlying9 (by kernel_rfl) hf with ⟨hcs, _⟩ | ⟨x, n, c, ss, hcs, _, hl, hm, hz, _, hcell, hsz⟩
  · simp [Value.cells] at hcs
    obtain ⟨rfl, rfl, rfl⟩ := hcs
    exact ⟨[], rfl, .inl ⟨rfl, rfl⟩, by simp, by simp⟩
  · simp [Value.cells] at hcs
    obtain ⟨rfl, rfl, rfl⟩ := hcs
    simp only [if_true] at hz
    have hlen : (ss.take len).length = len := by simp; omega
    refine ⟨ss.take len, hlen, .inr ⟨x, cap, by rw [hlen], by rw [hlen]; exact hl, fun i s hi => ?_⟩, fun s hs => ?_, by rw [hlen]; unfold maxLen at hm; omega⟩
    · have hi2 : i < (ss.take len).length := (List.getElem?_eq_some_iff.1 hi).1
      rw [hlen] at hi2
      rw [hcell i (by omega)]
      rw [List.getElem?_take, if_pos hi2] at hi
      simp [List.getD, hi]
    · have := hsz s (List.mem_of_mem_take hs)
      unfold maxLen at this; omega
end Go.Proofs.YtpngnhpnjkepjaaDoor
