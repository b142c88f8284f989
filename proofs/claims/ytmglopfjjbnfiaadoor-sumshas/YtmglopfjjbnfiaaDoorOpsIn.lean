/-
  A script of operations that came in.
-/
import Derived.Test.YtmglopfjjbnfiaaDoorFrame
import Derived.Test.YtmglopfjjbnfiaaDoorCount
namespace Go.Proofs.YtmglopfjjbnfiaaDoor
open Go.ChangeShapes Go.WideShapes Go.ChangeAt Go.RowKit

/-- A slice of bytes that came in, read off its cell. -/
theorem slice_in2 {H : Type} {enc : TypeId × Value → H} {W : World} {fuel : Nat} {cs : List Value} {x : DataW H × List MemPlace}
    (hf : DataW.trod enc Tryd.prog W 0 (fun _ => true) true fuel 43 cs = some x) : ∃ (v : Value) (l : List Nat), cs = [v] ∧ Has W v l ∧ Bytes l ∧ l.length ≤ 9223372036854775807 := by
  rcases open_ints Tryd.underlying43 Tryd.underlying5 (by kernel_rfl) hf with ⟨hcs, _⟩ | ⟨x, len, cap, zs, hcs, _, hl, hm, hz, _, hcell, hwz⟩
  · exact ⟨_, [], hcs, .inl ⟨rfl, rfl⟩, fun x hx => by simp at hx, by simp⟩
  · simp only [if_true] at hz
    unfold maxLen at hm
    have hlen : ((zs.take len).map Int.toNat).length = len := by simp; omega
    refine ⟨_, (zs.take len).map Int.toNat, hcs, .inr ⟨x, cap, by rw [hlen], by rw [hlen]; exact hl, fun i hi => ?_⟩, fun y hy => ?_, by rw [hlen]; omega⟩
    · rw [hlen] at hi
      rw [hcell i (by omega)]
      have hzi : i < zs.length := by omega
      have hb := bounds_u8 (hwz zs[i] (List.getElem_mem hzi))
      have : ((zs[i].toNat : Nat) : Int) = zs[i] := Int.toNat_of_nonneg hb.1
      simp [List.getD, hi, hzi, vb, this]
    · obtain ⟨z, hz', rfl⟩ := List.mem_map.1 hy
      have := bounds_u8 (hwz z (List.mem_of_mem_take hz'))
      omega

/-- An array of 32 bytes that came in, read off its cells. -/
theorem piece_in {H : Type} {enc : TypeId × Value → H} {W : World} {fuel : Nat} {cs : List Value} {x : DataW H × List MemPlace}
    (hf : DataW.trod enc Tryd.prog W 0 (fun _ => true) true fuel 41 cs = some x) : ∃ l : List Nat, cs = l.map vb ∧ l.length = 32 ∧ Bytes l := by
  obtain ⟨xs, m, _, _, hl, hxs, hel⟩ := DataW.trod_array Tryd.underlying41 hf
  have h1 : Tryd.prog.cellsOf 5 = 1 := by kernel_rfl
  have h2 : Tryd.prog.cellsOf 41 = 32 := by kernel_rfl
  rw [h2] at hl
  have each : ∀ i, ∃ z : Nat, i < 32 → cs[i]? = some (vb z) ∧ z < 256 := fun i => by
    by_cases hi : i < 32
    · have h := hel i hi
      rw [h1, Nat.mul_one, List.getElem?_eq_getElem (by omega)] at h
      obtain ⟨n, hn, _, hw⟩ := DataW.trod_int Tryd.underlying5 h
      have hb := bounds_u8 hw
      refine ⟨n.toNat, fun _ => ⟨?_, by omega⟩⟩
      have hc : (cs.drop i).take 1 = [Value.int .u8 n] := hn
      rw [List.take_one, List.head?_drop] at hc
      rw [List.getElem?_eq_getElem (by omega)] at hc ⊢
      simp only [Option.toList_some, List.cons.injEq, and_true] at hc
      rw [hc]
      unfold vb
      rw [Int.toNat_of_nonneg hb.1]
    · exact ⟨0, fun h => absurd h hi⟩
  obtain ⟨f, hfz⟩ := Classical.skolem.1 each
  refine ⟨(List.range 32).map f, ?_, by simp, fun x hx => ?_⟩
  · apply List.ext_getElem?
    intro i
    by_cases hi : i < 32
    · rw [(hfz i hi).1]; simp [hi]
    · rw [List.getElem?_eq_none (by omega), List.getElem?_eq_none (by simp; omega)]
  · obtain ⟨i, hi, rfl⟩ := List.mem_map.1 hx
    exact (hfz i (List.mem_range.1 hi)).2

theorem op_in {H : Type} {enc : TypeId × Value → H} {W : World} {fuel : Nat} {cs : List Value} {x : DataW H × List MemPlace}
    (hf : DataW.trod enc Tryd.prog W 0 (fun _ => true) true fuel 58 cs = some x) : ∃ x : OpD, cs = (opCells x.kind x.which x.bv x.pc).toList ∧ Has W x.bv x.ob ∧ Bytes x.ob ∧ x.pc.length = 32 ∧ Bytes x.pc ∧ x.ob.length ≤ 9223372036854775807 := by
  obtain ⟨xs, n, _, _, hl, hxs, hel⟩ := DataW.trod_struct Tryd.underlying58 hf
  rw [show Tryd.prog.cellsOf 58 = 35 by kernel_rfl] at hl
  have hx4 : xs.length = 4 := hxs
  have g0 : DataW.trod enc Tryd.prog W 0 (fun _ => true) true n 3 ((cs.drop 0).take (Tryd.prog.cellsOf 3)) = xs[0]? := hel 0 _ rfl
  have g1 : DataW.trod enc Tryd.prog W 0 (fun _ => true) true n 3 ((cs.drop 1).take (Tryd.prog.cellsOf 3)) = xs[1]? := hel 1 _ rfl
  have g2 : DataW.trod enc Tryd.prog W 0 (fun _ => true) true n 43 ((cs.drop 2).take (Tryd.prog.cellsOf 43)) = xs[2]? := hel 2 _ rfl
  have g3 : DataW.trod enc Tryd.prog W 0 (fun _ => true) true n 41 ((cs.drop 3).take (Tryd.prog.cellsOf 41)) = xs[3]? := hel 3 _ rfl
  rw [show Tryd.prog.cellsOf 3 = 1 by kernel_rfl] at g0 g1
  rw [show Tryd.prog.cellsOf 43 = 1 by kernel_rfl] at g2
  rw [show Tryd.prog.cellsOf 41 = 32 by kernel_rfl] at g3
  rw [List.getElem?_eq_getElem (by omega)] at g0 g1 g2 g3
  obtain ⟨k, hk, _, _⟩ := DataW.trod_int Tryd.underlying3 g0
  obtain ⟨wh, hwh, _, _⟩ := DataW.trod_int Tryd.underlying3 g1
  obtain ⟨bv, ob, hbv, hob, hobb, hobl⟩ := slice_in2 g2
  obtain ⟨pc, hpc, hpl, hpb⟩ := piece_in g3
  refine ⟨⟨k, wh, bv, ob, pc⟩, ?_, hob, hobb, hpl, hpb, hobl⟩
  obtain ⟨c0, c1, c2, r, hcr⟩ : ∃ c0 c1 c2 r, cs = c0 :: c1 :: c2 :: r := by
    cases cs with
    | nil => cases hl
    | cons c0 t0 =>
      cases t0 with
      | nil => cases hl
      | cons c1 t1 =>
        cases t1 with
        | nil => cases hl
        | cons c2 r => exact ⟨c0, c1, c2, r, rfl⟩
  subst hcr
  have hr : r.length = 32 := by simp only [List.length_cons] at hl; omega
  simp only [List.drop_zero, List.take_succ_cons, List.take_zero, List.drop_succ_cons, List.cons.injEq, and_true] at hk hwh hbv
  have hpc' : r.take 32 = pc.map vb := hpc
  rw [List.take_of_length_le (by omega)] at hpc'
  rw [hk, hwh, hbv, hpc']; rfl

theorem ops_in {H : Type} {enc : TypeId × Value → H} {W : World} {a : Option Addr} {len cap : Nat} {d : DataW H} {p : List MemPlace}
    (h : DataW.Trod enc Tryd.prog W 0 (fun _ => true) true 53 (.slice a len cap) d p) : ∃ L : List OpD, L.length = len ∧ HasOps W (.slice a len cap) L ∧ len ≤ 9223372036854775807 := by
  obtain ⟨fuel, hf⟩ := h
  rcases DataW.trod_slice Tryd.underlying53 hf with ⟨hcs, _⟩ | ⟨ad, len', cap', elems, rest, n, _, hcs, _, _, hl, hm, hlen, hel, _, _⟩
  · simp [Value.cells] at hcs
    obtain ⟨rfl, rfl, rfl⟩ := hcs
    exact ⟨[], rfl, ⟨none, 0, rfl, fun i x hx => by simp at hx⟩, by omega⟩
  · simp [Value.cells] at hcs
    obtain ⟨rfl, rfl, rfl⟩ := hcs
    unfold maxLen at hm
    rw [show Tryd.prog.cellsOf 58 = 35 by kernel_rfl] at hel
    have each : ∀ i, ∃ x : OpD, i < len → (∀ j y, (opCells x.kind x.which x.bv x.pc)[j]? = some y → W.cell? ((ad.add (i * 35)).add j) = some y) ∧ Has W x.bv x.ob ∧ Bytes x.ob ∧ x.pc.length = 32 ∧ Bytes x.pc ∧ x.ob.length ≤ 9223372036854775807 := fun i => by
      by_cases hi : i < len
      · have h := hel i hi
        rw [List.getElem?_eq_getElem (by omega), Option.bind_eq_some_iff] at h
        obtain ⟨cs, hc, ht⟩ := h
        obtain ⟨_, hcl, hcc⟩ := World.cells?_some hc
        obtain ⟨x, hx, r⟩ := op_in ht
        refine ⟨x, fun _ => ⟨fun j y hy => ?_, r⟩⟩
        have hj : j < 35 := by
          have := (Array.getElem?_eq_some_iff.1 hy).1
          have hs : (opCells x.kind x.which x.bv x.pc).size = cs.length := by rw [hx]; simp
          omega
        rw [hcc j hj, hx]
        simpa using hy
      · exact ⟨⟨0, 0, .slice none 0 0, [], []⟩, fun h => absurd h hi⟩
    obtain ⟨f, hfz⟩ := Classical.skolem.1 each
    have hsp : 0 < len → ad.spot = none := fun h0 => by
      have h := (hfz 0 h0).1 0 _ rfl
      rw [Nat.zero_mul, show (ad.add 0).add 0 = ad from rfl] at h
      unfold World.cell? at h
      split at h
      · split at h
        · cases h
        · rename_i hs; simpa using hs
      · cases h
    refine ⟨(List.range len).map f, by simp, ⟨some ad, cap, by simp, fun i x hx => ?_⟩, by omega⟩
    have hi : i < len := by have := (List.getElem?_eq_some_iff.1 hx).1; simpa using this
    have hxf : x = f i := by simp [hi] at hx; exact hx.symm
    subst hxf
    obtain ⟨h1, r⟩ := hfz i hi
    have hs := hsp (by omega)
    refine ⟨ad.block, ad.off, by rw [← hs], fun j y hy => ?_, r⟩
    have h2 := h1 j y hy
    have e : (ad.add (i * 35)).add j = ⟨ad.block, ad.off + i * 35 + j, none⟩ := by
      obtain ⟨b, o, s⟩ := ad
      simp only at hs
      subst hs
      rw [addr_add, addr_add]
    rw [e] at h2
    exact h2
end Go.Proofs.YtmglopfjjbnfiaaDoor
