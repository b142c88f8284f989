/-
  A script of calls that came in.
-/
import Derived.Test.YthpelabmfpogbaaGreatDoorFrame
namespace Go.Proofs.YthpelabmfpogbaaGreatDoor
open Go.ChangeShapes Go.WideShapes Go.ChangeAt Go.RowKit Wire

structure OpD where
  kind : Int
  sec : Bool
  most : Nat
  n : Int

def opCells (x : OpD) : Array Value := #[.int .i64 x.kind, .bool x.sec, .int .u64 x.most, .int .i64 x.n]
def OpD.ok (x : OpD) : Prop := -9223372036854775808 ≤ x.n ∧ x.n ≤ 9223372036854775807

/-- A slice's value holds these calls. -/
def HasOps (w : World) (v : Value) (l : List OpD) : Prop :=
  ∃ ao cap, v = .slice ao l.length cap ∧ ∀ (i : Nat) (x : OpD), l[i]? = some x → x.ok ∧ ∃ g o, ao = some ⟨g, o, none⟩ ∧ ∀ j y, (opCells x)[j]? = some y → w.cell? ⟨g, o + i * 4 + j, none⟩ = some y

set_option maxRecDepth 100000 in
theorem op_in {H : Type} {enc : TypeId × Value → H} {W : World} {fuel : Nat} {cs : List Value} {x : DataW H × List MemPlace}
    (hf : DataW.trod enc Tryz.prog W 0 (fun _ => true) true fuel 66 cs = some x) : ∃ x : OpD, cs = (opCells x).toList ∧ x.ok := by
  obtain ⟨xs, n, _, _, hl, hxs, hel⟩ := DataW.trod_struct Tryz.underlying66 hf
  rw [show Tryz.prog.cellsOf 66 = 4 by kernel_rfl] at hl
  have hx4 : xs.length = 4 := hxs
  have g0 : DataW.trod enc Tryz.prog W 0 (fun _ => true) true n 3 ((cs.drop 0).take (Tryz.prog.cellsOf 3)) = xs[0]? := hel 0 _ rfl
  have g1 : DataW.trod enc Tryz.prog W 0 (fun _ => true) true n 4 ((cs.drop 1).take (Tryz.prog.cellsOf 4)) = xs[1]? := hel 1 _ rfl
  have g2 : DataW.trod enc Tryz.prog W 0 (fun _ => true) true n 23 ((cs.drop 2).take (Tryz.prog.cellsOf 23)) = xs[2]? := hel 2 _ rfl
  have g3 : DataW.trod enc Tryz.prog W 0 (fun _ => true) true n 3 ((cs.drop 3).take (Tryz.prog.cellsOf 3)) = xs[3]? := hel 3 _ rfl
  rw [show Tryz.prog.cellsOf 3 = 1 by kernel_rfl] at g0 g3
  rw [show Tryz.prog.cellsOf 4 = 1 by kernel_rfl] at g1
  rw [show Tryz.prog.cellsOf 23 = 1 by kernel_rfl] at g2
  rw [List.getElem?_eq_getElem (by omega)] at g0 g1 g2 g3
  obtain ⟨k, hk, _, _⟩ := DataW.trod_int Tryz.underlying3 g0
  obtain ⟨b, hb, _⟩ := DataW.trod_bool Tryz.underlying4 g1
  obtain ⟨mo, hmo, _, hmw⟩ := DataW.trod_int Tryz.underlying23 g2
  obtain ⟨nn, hnn, _, hnw⟩ := DataW.trod_int Tryz.underlying3 g3
  have hm0 := bounds_u64 hmw
  have hn0 := bounds_i64 hnw
  obtain ⟨mn, rfl⟩ : ∃ mn : Nat, mo = (mn : Int) := ⟨mo.toNat, by omega⟩
  refine ⟨⟨k, b, mn, nn⟩, ?_, hn0.1, hn0.2⟩
  obtain ⟨c0, c1, c2, c3, rfl⟩ : ∃ c0 c1 c2 c3, cs = [c0, c1, c2, c3] := by
    match cs, hl with
    | [c0, c1, c2, c3], _ => exact ⟨c0, c1, c2, c3, rfl⟩
  simp only [List.drop_zero, List.take_succ_cons, List.take_zero, List.drop_succ_cons, List.cons.injEq, and_true] at hk hb hmo hnn
  rw [hk, hb, hmo, hnn]; rfl
theorem addr_add (b o i : Nat) : (⟨b, o, none⟩ : Addr).add i = ⟨b, o + i, none⟩ := by
  cases i <;> simp [Addr.add]

set_option maxRecDepth 100000 in
theorem ops_in {H : Type} {enc : TypeId × Value → H} {W : World} {a : Option Addr} {len cap : Nat} {d : DataW H} {p : List MemPlace}
    (h : DataW.Trod enc Tryz.prog W 0 (fun _ => true) true 57 (.slice a len cap) d p) : ∃ L : List OpD, L.length = len ∧ HasOps W (.slice a len cap) L ∧ len ≤ 9223372036854775807 := by
  obtain ⟨fuel, hf⟩ := h
  rcases DataW.trod_slice Tryz.underlying57 hf with ⟨hcs, _⟩ | ⟨ad, len', cap', elems, rest, n, _, hcs, _, _, hl, hm, hlen, hel, _, _⟩
  · simp [Value.cells] at hcs
    obtain ⟨rfl, rfl, rfl⟩ := hcs
    exact ⟨[], rfl, ⟨none, 0, rfl, fun i x hx => by simp at hx⟩, by omega⟩
  · simp [Value.cells] at hcs
    obtain ⟨rfl, rfl, rfl⟩ := hcs
    unfold maxLen at hm
    rw [show Tryz.prog.cellsOf 66 = 4 by kernel_rfl] at hel
    have each : ∀ i, ∃ x : OpD, i < len → (∀ j y, (opCells x)[j]? = some y → W.cell? ((ad.add (i * 4)).add j) = some y) ∧ x.ok := fun i => by
      by_cases hi : i < len
      · have h := hel i hi
        rw [List.getElem?_eq_getElem (by omega), Option.bind_eq_some_iff] at h
        obtain ⟨cs, hc, ht⟩ := h
        obtain ⟨_, hcl, hcc⟩ := World.cells?_some hc
        obtain ⟨x, hx, r⟩ := op_in ht
        refine ⟨x, fun _ => ⟨fun j y hy => ?_, r⟩⟩
        have hj : j < 4 := by
          have := (Array.getElem?_eq_some_iff.1 hy).1
          simpa [opCells] using this
        rw [hcc j hj, hx]
        simpa using hy
      · exact ⟨⟨0, false, 0, 0⟩, fun h => absurd h hi⟩
    obtain ⟨f, hfz⟩ := Classical.skolem.1 each
    have hsp : 0 < len → ad.spot = none := fun h0 => by
      have h := (hfz 0 h0).1 0 _ rfl
      rw [Nat.zero_mul, show (ad.add 0).add 0 = ad from rfl] at h
      unfold World.cell? at h
      split at h
      · split at h
        · cases h
        · rename_i hs; simpa using hs
      · cases h
    refine ⟨(List.range len).map f, by simp, ⟨some ad, cap, by simp, fun i x hx => ?_⟩, by omega⟩
    have hi : i < len := by have := (List.getElem?_eq_some_iff.1 hx).1; simpa using this
    have hxf : x = f i := by simp [hi] at hx; exact hx.symm
    subst hxf
    obtain ⟨h1, r⟩ := hfz i hi
    have hs := hsp (by omega)
    refine ⟨r, ad.block, ad.off, by rw [← hs], fun j y hy => ?_⟩
    have h2 := h1 j y hy
    have e : (ad.add (i * 4)).add j = ⟨ad.block, ad.off + i * 4 + j, none⟩ := by
      obtain ⟨b, o, s⟩ := ad
      simp only at hs
      subst hs
      rw [addr_add, addr_add]
    rw [e] at h2
    exact h2
end Go.Proofs.YthpelabmfpogbaaGreatDoor
