/-
  THE FRAME of the rows: a merge that came in.
-/
import Derived.Test.YtpenaeoodfgmpaaGreatDoorBase
import Derived.Test.YtpenaeoodfgmpaaGreatDoorRows
import Derived.ProofKit
import Derived.OpenShut
import Derived.ShutString
import Derived.ChangeOld
import Derived.Deep.DeepHandedRow
import Derived.LaidHandle
import Derived.LaidLaws
import Derived.MakeChecks
namespace Go.Proofs.YtpenaeoodfgmpaaGreatDoor
open Go.ChangeShapes Go.WideShapes Go.ChangeAt Go.RowKit

theorem under24f : Tryz.prog.underlying 24 = some (.struct (Tryz.prog.fieldsOf 24)) := by kernel_rfl
theorem under31f : Tryz.prog.underlying 52 = some (.struct (Tryz.prog.fieldsOf 52)) := by kernel_rfl
set_option maxRecDepth 100000 in
theorem room_in {H : Type} {enc : TypeId × Value → H} {W : World} {fuel : Nat} {cs : List Value} {x : DataW H × List MemPlace}
    (hf : DataW.trod enc Tryz.prog W 0 (fun _ => true) true fuel 52 cs = some x) : ∃ a b : Int, cs = [.int .i64 a, .int .i64 b] ∧ InR a ∧ InR b := by
  obtain ⟨xs, n, _, _, hl, hxs, hel⟩ := DataW.trod_struct under31f hf
  rw [show Tryz.prog.cellsOf 52 = 2 by kernel_rfl] at hl
  have hx2 : xs.length = 2 := hxs
  have g0 : DataW.trod enc Tryz.prog W 0 (fun _ => true) true n 3 ((cs.drop 0).take (Tryz.prog.cellsOf 3)) = xs[0]? := hel 0 _ rfl
  have g1 : DataW.trod enc Tryz.prog W 0 (fun _ => true) true n 3 ((cs.drop 1).take (Tryz.prog.cellsOf 3)) = xs[1]? := hel 1 _ rfl
  rw [show Tryz.prog.cellsOf 3 = 1 by kernel_rfl] at g0 g1
  rw [List.getElem?_eq_getElem (by omega)] at g0 g1
  obtain ⟨a, ha, _, wa⟩ := DataW.trod_int Tryz.underlying3 g0
  obtain ⟨b, hb, _, wb⟩ := DataW.trod_int Tryz.underlying3 g1
  refine ⟨a, b, ?_, bounds_i64 wa, bounds_i64 wb⟩
  match cs, hl, ha, hb with
  | [c0, c1], _, ha, hb => simp at ha hb; rw [ha, hb]
set_option maxRecDepth 100000 in
theorem cell_in {H : Type} {enc : TypeId × Value → H} {W : World} {fuel : Nat} {cs : List Value} {x : DataW H × List MemPlace}
    (hf : DataW.trod enc Tryz.prog W 0 (fun _ => true) true fuel 62 cs = some x) : ∃ c : Cd, cs = (cc c).toList ∧ c.ok := by
  obtain ⟨xs, n, _, _, hl, hxs, hel⟩ := DataW.trod_struct under43 hf
  rw [show Tryz.prog.cellsOf 62 = 10 by kernel_rfl] at hl
  have hx9 : xs.length = 9 := hxs
  have g0 : DataW.trod enc Tryz.prog W 0 (fun _ => true) true n 9 ((cs.drop 0).take (Tryz.prog.cellsOf 9)) = xs[0]? := hel 0 _ rfl
  have g1 : DataW.trod enc Tryz.prog W 0 (fun _ => true) true n 3 ((cs.drop 1).take (Tryz.prog.cellsOf 3)) = xs[1]? := hel 1 _ rfl
  have g2 : DataW.trod enc Tryz.prog W 0 (fun _ => true) true n 3 ((cs.drop 2).take (Tryz.prog.cellsOf 3)) = xs[2]? := hel 2 _ rfl
  have g3 : DataW.trod enc Tryz.prog W 0 (fun _ => true) true n 3 ((cs.drop 3).take (Tryz.prog.cellsOf 3)) = xs[3]? := hel 3 _ rfl
  have g4 : DataW.trod enc Tryz.prog W 0 (fun _ => true) true n 3 ((cs.drop 4).take (Tryz.prog.cellsOf 3)) = xs[4]? := hel 4 _ rfl
  have g5 : DataW.trod enc Tryz.prog W 0 (fun _ => true) true n 3 ((cs.drop 5).take (Tryz.prog.cellsOf 3)) = xs[5]? := hel 5 _ rfl
  have g6 : DataW.trod enc Tryz.prog W 0 (fun _ => true) true n 3 ((cs.drop 6).take (Tryz.prog.cellsOf 3)) = xs[6]? := hel 6 _ rfl
  have g7 : DataW.trod enc Tryz.prog W 0 (fun _ => true) true n 3 ((cs.drop 7).take (Tryz.prog.cellsOf 3)) = xs[7]? := hel 7 _ rfl
  have g8 : DataW.trod enc Tryz.prog W 0 (fun _ => true) true n 52 ((cs.drop 8).take (Tryz.prog.cellsOf 52)) = xs[8]? := hel 8 _ rfl
  rw [show Tryz.prog.cellsOf 3 = 1 by kernel_rfl] at g1 g2 g3 g4 g5 g6 g7
  rw [show Tryz.prog.cellsOf 9 = 1 by kernel_rfl] at g0
  rw [show Tryz.prog.cellsOf 52 = 2 by kernel_rfl] at g8
  rw [List.getElem?_eq_getElem (by omega)] at g0 g1 g2 g3 g4 g5 g6 g7 g8
  obtain ⟨s, h0, _, _⟩ := DataW.trod_string Tryz.underlying9 g0
  obtain ⟨a1, h1, _, w1⟩ := DataW.trod_int Tryz.underlying3 g1
  obtain ⟨a2, h2, _, w2⟩ := DataW.trod_int Tryz.underlying3 g2
  obtain ⟨a3, h3, _, w3⟩ := DataW.trod_int Tryz.underlying3 g3
  obtain ⟨a4, h4, _, w4⟩ := DataW.trod_int Tryz.underlying3 g4
  obtain ⟨a5, h5, _, w5⟩ := DataW.trod_int Tryz.underlying3 g5
  obtain ⟨a6, h6, _, w6⟩ := DataW.trod_int Tryz.underlying3 g6
  obtain ⟨a7, h7, _, w7⟩ := DataW.trod_int Tryz.underlying3 g7
  obtain ⟨a8, a9, h8, w8, w9⟩ := room_in g8
  refine ⟨⟨s, a1, a2, a3, a4, a5, a6, a7, a8, a9⟩, ?_, bounds_i64 w1, bounds_i64 w2, bounds_i64 w3, bounds_i64 w4, bounds_i64 w5, bounds_i64 w6, bounds_i64 w7, w8, w9⟩
  match cs, hl, h0, h1, h2, h3, h4, h5, h6, h7, h8 with
  | [c0, c1, c2, c3, c4, c5, c6, c7, c8, c9], _, h0, h1, h2, h3, h4, h5, h6, h7, h8 =>
    simp at h0 h1 h2 h3 h4 h5 h6 h7 h8
    rw [h0, h1, h2, h3, h4, h5, h6, h7, h8.1, h8.2]
    rfl
set_option maxRecDepth 100000 in
theorem cells_in {H : Type} {enc : TypeId × Value → H} {W : World} {fuel : Nat} {cs : List Value} {x : DataW H × List MemPlace}
    (hf : DataW.trod enc Tryz.prog W 0 (fun _ => true) true fuel 22 cs = some x) : ∃ (ao : Option Addr) (L : List Cd) (cap : Nat), cs = [.slice ao L.length cap] ∧ HasC W (.slice ao L.length cap) L ∧ L.length ≤ 9223372036854775807 ∧ (L = [] → .slice ao L.length cap = Value.slice none 0 0 ∨ ao ≠ none) := by
  rcases DataW.trod_slice Tryz.underlying22 hf with ⟨hcs, _⟩ | ⟨ad, len, cap, elems, rest, n, _, hcs, _, _, hl, hm, hlen, hel, _, _⟩
  · exact ⟨none, [], 0, hcs, ⟨none, 0, rfl, fun i x hx => by simp at hx, by simp⟩, by simp, fun _ => .inl rfl⟩
  · unfold maxLen at hm
    rw [show Tryz.prog.cellsOf 62 = 10 by kernel_rfl] at hel
    have each : ∀ i, ∃ c : Cd, i < len → (∀ j y, (cc c)[j]? = some y → W.cell? ((ad.add (i * 10)).add j) = some y) ∧ c.ok := fun i => by
      by_cases hi : i < len
      · have h := hel i hi
        rw [List.getElem?_eq_getElem (by omega), Option.bind_eq_some_iff] at h
        obtain ⟨cs, hc, ht⟩ := h
        obtain ⟨_, hcl, hcc⟩ := World.cells?_some hc
        obtain ⟨c, hx, hok⟩ := cell_in ht
        refine ⟨c, fun _ => ⟨fun j y hy => ?_, hok⟩⟩
        have hj : j < 10 := by have := (Array.getElem?_eq_some_iff.1 hy).1; simpa [cc] using this
        rw [hcc j hj, hx]
        simpa using hy
      · exact ⟨⟨⟨#[]⟩, 0, 0, 0, 0, 0, 0, 0, 0, 0⟩, fun h => absurd h hi⟩
    obtain ⟨f, hfz⟩ := Classical.skolem.1 each
    have hsp : 0 < len → ad.spot = none := fun h0 => by
      have h := (hfz 0 h0).1 0 _ rfl
      rw [Nat.zero_mul, show (ad.add 0).add 0 = ad from rfl] at h
      unfold World.cell? at h
      split at h
      · split at h
        · cases h
        · rename_i hs; simpa using hs
      · cases h
    refine ⟨some ad, (List.range len).map f, cap, by rw [hcs]; simp, ⟨some ad, cap, by simp, fun i c hi => ?_, fun c hc => ?_⟩, by simp; omega, fun _ => .inr (by simp)⟩
    · have hi' : i < len := by have := (List.getElem?_eq_some_iff.1 hi).1; simpa using this
      have hxf : c = f i := by simp [hi'] at hi; exact hi.symm
      subst hxf
      have hs := hsp (by omega)
      refine ⟨ad.block, ad.off, by rw [← hs], fun j y hy => ?_⟩
      have h2 := (hfz i hi').1 j y hy
      have e : (ad.add (i * 10)).add j = ⟨ad.block, ad.off + i * 10 + j, none⟩ := by
        obtain ⟨b, o, s⟩ := ad
        simp only at hs
        subst hs
        rw [addr_add, addr_add]
      rw [e] at h2
      exact h2
    · obtain ⟨i, hi, rfl⟩ := List.mem_map.1 hc
      exact (hfz i (List.mem_range.1 hi)).2
set_option maxRecDepth 100000 in
theorem merge_in {H : Type} {enc : TypeId × Value → H} {W : World} {fuel : Nat} {cs : List Value} {x : DataW H × List MemPlace}
    (hf : DataW.trod enc Tryz.prog W 0 (fun _ => true) true fuel 24 cs = some x) : ∃ (ao : Option Addr) (L : List Cd) (cap : Nat), cs = [.slice ao L.length cap] ∧ HasC W (.slice ao L.length cap) L ∧ L.length ≤ 9223372036854775807 ∧ (L = [] → .slice ao L.length cap = Value.slice none 0 0 ∨ ao ≠ none) := by
  obtain ⟨xs, n, _, _, hl, hxs, hel⟩ := DataW.trod_struct under24f hf
  rw [show Tryz.prog.cellsOf 24 = 1 by kernel_rfl] at hl
  have hx1 : xs.length = 1 := hxs
  have g0 : DataW.trod enc Tryz.prog W 0 (fun _ => true) true n 22 ((cs.drop 0).take (Tryz.prog.cellsOf 22)) = xs[0]? := hel 0 _ rfl
  rw [show Tryz.prog.cellsOf 22 = 1 by kernel_rfl, List.getElem?_eq_getElem (by omega)] at g0
  obtain ⟨ao, L, cap, h1, h2, h3, h4⟩ := cells_in g0
  refine ⟨ao, L, cap, ?_, h2, h3, h4⟩
  match cs, hl, h1 with
  | [c0], _, h1 => simpa using h1
end Go.Proofs.YtpenaeoodfgmpaaGreatDoor
