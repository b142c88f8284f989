/-
  THE FRAME of the rows: the listed tables, the witness' world.
-/
import Derived.Test.YthioflehpifflaaGreatDoorCards
import Derived.Test.YthioflehpifflaaGreatDoorTie
import Derived.Test.YthioflehpifflaaGreatDoorApp
import Derived.Test.YthioflehpifflaaGreatDoorMrg
import Derived.ProofKit
import Derived.OpenShut
import Derived.ShutString
import Derived.ChangeOld
import Derived.Deep.DeepHandedRow
import Derived.LaidHandle
import Derived.LaidLaws
import Derived.MakeChecks
import Derived.Lib.LaidTab
import Derived.Lib.ItoaMem
namespace Go.Proofs.YthioflehpifflaaGreatDoor
open Go.ChangeShapes Go.WideShapes Go.ChangeAt Go.RowKit
open Go.ChangeMaps (open_string shut_string)

theorem own : ownKnob Tryz.prog.godebug = none := by kernel_rfl
theorem laidOut : laidOutB Tryz.prog = true := by kernel_rfl

def tab32 : List Int := [0, 1, 28, 2, 29, 14, 24, 3, 30, 22, 20, 15, 25, 17, 4, 8, 31, 27, 13, 23, 21, 19, 16, 7, 26, 12, 18, 6, 11, 5, 10, 9]
def tab64 : List Int := [0, 1, 56, 2, 57, 49, 28, 3, 61, 58, 42, 50, 38, 29, 17, 4, 62, 47, 59, 36, 45, 43, 51, 22, 53, 39, 33, 30, 24, 18, 12, 5, 63, 55, 48, 27, 60, 41, 37, 16, 46, 35, 44, 21, 52, 32, 23, 11, 54, 26, 40, 15, 34, 20, 31, 10, 25, 14, 19, 9, 13, 8, 7, 6]

def lay (c : Array Value) : Obj → Obj
  | .cells _ t frozen => .cells c t frozen
  | o => o

/-- A world for the witness: the settled one, the tables laid. -/
noncomputable def laidWorld (os : Os) : World :=
  { World.holding Tryz.prog os ⟨#[], #[], []⟩ with heap := (((World.holding Tryz.prog os ⟨#[], #[], []⟩).heap.modify 1 (lay (Lib.pow10Tab.map (Value.int .u64)).toArray)).modify 2 (lay (tab32.map (Value.int .u8)).toArray)).modify 3 (lay (tab64.map (Value.int .u8)).toArray) }

theorem laid3 (os : Os) (args : Array Value) : laidMetH Tryz.prog [("math/bits.deBruijn32tab", Rows.laid_math_bits_deBruijn32tab), ("math/bits.deBruijn64tab", Rows.laid_math_bits_deBruijn64tab), ("internal/strconv.uint64pow10", Rows.laid_internal_strconv_uint64pow10)] ((laidWorld os).forCall (fun _ _ => 0) ⟨#[], args, []⟩).memory := by
  rw [MakeChecks.laidMetH_plain _ _ _ (by kernel_rfl)]
  exact laidMet_of_run' 8 (by kernel_rfl) (by kernel_rfl)

theorem d10 : (Rows.laid_internal_strconv_uint64pow10 : DataW Unit) = Lib.tabData .u64 Lib.pow10Tab := by kernel_rfl
theorem g10 : Tryz.prog.globalNamed "internal/strconv.uint64pow10" = some 1 := by kernel_rfl
theorem t10 : (Tryz.prog.globals[1]?).map (·.type) = some 168 := by kernel_rfl

/-- What the third listed variable holds. -/
theorem tab10_of_laid {W : World} (h : laidMetH Tryz.prog [("math/bits.deBruijn32tab", Rows.laid_math_bits_deBruijn32tab), ("math/bits.deBruijn64tab", Rows.laid_math_bits_deBruijn64tab), ("internal/strconv.uint64pow10", Rows.laid_internal_strconv_uint64pow10)] W) : Lib.TabIs Tryz.prog W "internal/strconv.uint64pow10" .u64 Lib.pow10Tab := by
  rw [MakeChecks.laidMetH_plain _ _ _ (by kernel_rfl)] at h
  obtain ⟨ps, ⟨g0, t0, cs0, f0, p0, q0, hg0, ht0, hv0, hd0, ⟨g1, t1, cs1, f1, p1, q1, hg1, ht1, hv1, hd1, h2, _⟩, _⟩, _⟩ := h
  rw [d10] at h2
  obtain ⟨g2, t2, cs2, f2, p2, q2, hg2, ht2, hv2, hd2, _⟩ := h2
  obtain rfl := Option.some.inj (g10.symm.trans hg2)
  obtain rfl := Option.some.inj (t10.symm.trans ht2)
  unfold Lib.TabIs
  rw [hv2, ← Lib.cells_of_tab Tryz.underlying168 (e := 159) (k := .u64) (by kernel_rfl) (by kernel_rfl) (by kernel_rfl) hd2]
set_option maxRecDepth 100000 in
theorem sum_in {H : Type} {enc : TypeId × Value → H} {W : World} {fuel : Nat} {cs : List Value} {x : DataW H × List MemPlace}
    (hf : DataW.trod enc Tryz.prog W 0 (fun _ => true) true fuel 51 cs = some x) : ∃ l : List Nat, l.length = 32 ∧ cs = l.map vb := by
  obtain ⟨xs, m, _, _, hl, hxs, hel⟩ := DataW.trod_array Tryz.underlying51 hf
  rw [show Tryz.prog.cellsOf 51 = 32 by kernel_rfl] at hl
  rw [show Tryz.prog.cellsOf 5 = 1 by kernel_rfl] at hel
  have each : ∀ i, ∃ n : Nat, i < 32 → cs[i]? = some (vb n) := fun i => by
    by_cases hi : i < 32
    · have h := hel i hi
      rw [List.getElem?_eq_getElem (by omega)] at h
      obtain ⟨a, ha, _, wa⟩ := DataW.trod_int Tryz.underlying5 h
      have hb := bounds_u8 wa
      refine ⟨a.toNat, fun _ => ?_⟩
      have h2 : ((cs.drop (i * 1)).take 1)[0]? = some (.int .u8 a) := by rw [ha]; rfl
      rw [List.getElem?_take, if_pos (by omega), List.getElem?_drop, Nat.mul_one, Nat.add_zero] at h2
      rw [h2]
      have e : ((a.toNat : Nat) : Int) = a := Int.toNat_of_nonneg hb.1
      simp only [vb, e]
    · exact ⟨0, fun h => absurd h hi⟩
  obtain ⟨f, hf2⟩ := Classical.skolem.1 each
  refine ⟨(List.range 32).map f, by simp, List.ext_getElem? fun i => ?_⟩
  by_cases hi : i < 32
  · rw [hf2 i hi]; simp [hi]
  · rw [List.getElem?_eq_none (by omega), List.getElem?_eq_none (by simp; omega)]
set_option maxRecDepth 100000 in
theorem value_in {H : Type} {enc : TypeId × Value → H} {W : World} {fuel : Nat} {cs : List Value} {x : DataW H × List MemPlace}
    (hf : DataW.trod enc Tryz.prog W 0 (fun _ => true) true fuel 53 cs = some x) : ∃ v : Vd, cs = vx v := by
  obtain ⟨xs, n, _, _, hl, hxs, hel⟩ := DataW.trod_struct under53 hf
  rw [show Tryz.prog.cellsOf 53 = 35 by kernel_rfl] at hl
  have hx4 : xs.length = 4 := hxs
  have g0 : DataW.trod enc Tryz.prog W 0 (fun _ => true) true n 3 ((cs.drop 0).take (Tryz.prog.cellsOf 3)) = xs[0]? := hel 0 _ rfl
  have g1 : DataW.trod enc Tryz.prog W 0 (fun _ => true) true n 3 ((cs.drop 1).take (Tryz.prog.cellsOf 3)) = xs[1]? := hel 1 _ rfl
  have g2 : DataW.trod enc Tryz.prog W 0 (fun _ => true) true n 3 ((cs.drop 2).take (Tryz.prog.cellsOf 3)) = xs[2]? := hel 2 _ rfl
  have g3 : DataW.trod enc Tryz.prog W 0 (fun _ => true) true n 51 ((cs.drop 3).take (Tryz.prog.cellsOf 51)) = xs[3]? := hel 3 _ rfl
  rw [show Tryz.prog.cellsOf 3 = 1 by kernel_rfl] at g0 g1 g2
  rw [show Tryz.prog.cellsOf 51 = 32 by kernel_rfl] at g3
  rw [List.getElem?_eq_getElem (by omega)] at g0 g1 g2 g3
  obtain ⟨a0, h0, _, _⟩ := DataW.trod_int Tryz.underlying3 g0
  obtain ⟨a1, h1, _, _⟩ := DataW.trod_int Tryz.underlying3 g1
  obtain ⟨a2, h2, _, _⟩ := DataW.trod_int Tryz.underlying3 g2
  obtain ⟨l, hl2, h3⟩ := sum_in g3
  refine ⟨⟨a0, a1, a2, l, hl2⟩, ?_⟩
  match cs, hl, h0, h1, h2, h3 with
  | c0 :: c1 :: c2 :: r, hl, h0, h1, h2, h3 =>
    simp at h0 h1 h2 h3 hl
    rw [List.take_of_length_le (by omega)] at h3
    rw [h0, h1, h2, h3]
    rfl
set_option maxRecDepth 100000 in
theorem change_in {H : Type} {enc : TypeId × Value → H} {W : World} {fuel : Nat} {cs : List Value} {x : DataW H × List MemPlace}
    (hf : DataW.trod enc Tryz.prog W 0 (fun _ => true) true fuel 55 cs = some x) : ∃ c : Cd, cs = (cc c).toList ∧ c.path.size ≤ 9223372036854775807 := by
  obtain ⟨xs, n, _, _, hl, hxs, hel⟩ := DataW.trod_struct under55 hf
  rw [show Tryz.prog.cellsOf 55 = 71 by kernel_rfl] at hl
  have hx3 : xs.length = 3 := hxs
  have g0 : DataW.trod enc Tryz.prog W 0 (fun _ => true) true n 9 ((cs.drop 0).take (Tryz.prog.cellsOf 9)) = xs[0]? := hel 0 _ rfl
  have g1 : DataW.trod enc Tryz.prog W 0 (fun _ => true) true n 53 ((cs.drop 1).take (Tryz.prog.cellsOf 53)) = xs[1]? := hel 1 _ rfl
  have g2 : DataW.trod enc Tryz.prog W 0 (fun _ => true) true n 53 ((cs.drop 36).take (Tryz.prog.cellsOf 53)) = xs[2]? := hel 2 _ rfl
  rw [show Tryz.prog.cellsOf 9 = 1 by kernel_rfl] at g0
  rw [show Tryz.prog.cellsOf 53 = 35 by kernel_rfl] at g1 g2
  rw [List.getElem?_eq_getElem (by omega)] at g0 g1 g2
  obtain ⟨s, h0, _, hs⟩ := DataW.trod_string Tryz.underlying9 g0
  obtain ⟨v, h1⟩ := value_in g1
  obtain ⟨u, h2⟩ := value_in g2
  refine ⟨⟨s, v, u⟩, ?_, by unfold maxLen at hs; omega⟩
  match cs, hl, h0, h1, h2 with
  | c0 :: r, hl, h0, h1, h2 =>
    simp at h0 h1 h2 hl
    rw [List.take_of_length_le (l := r.drop 35) (by simp; omega)] at h2
    have e : r = r.take 35 ++ r.drop 35 := (List.take_append_drop 35 r).symm
    rw [h1, h2] at e
    rw [h0, e]
    simp [cc]
set_option maxRecDepth 100000 in
theorem changes_in {H : Type} {enc : TypeId × Value → H} {W : World} {base fuel : Nat} {v : Value} {x : DataW H × List MemPlace} (hval : Value.okWide Tryz.prog W .any base 22 v)
    (hf : DataW.trod enc Tryz.prog W 0 (fun _ => true) true fuel 22 v.cells.toList = some x) : ∃ (ao : Option Addr) (L : List Cd) (cap : Nat), v = .slice ao L.length cap ∧ HasA W (.slice ao L.length cap) L ∧ L.length ≤ 9223372036854775807 ∧ ∀ c ∈ L, c.path.size ≤ 9223372036854775807 := by
  obtain ⟨a, len, cap, rfl⟩ := okWide_slice Tryz.underlying22 hval
  have hc0 : (Value.slice a len cap).cells.toList = [.slice a len cap] := rfl
  rw [hc0] at hf
  rcases DataW.trod_slice Tryz.underlying22 hf with ⟨hcs, _⟩ | ⟨ad, len', cap', elems, rest, n, _, hcs, _, _, hl, hm, hlen, hel, _, _⟩
  · injection hcs with hcs _
    injection hcs with e1 e2 e3
    subst e1 e2 e3
    exact ⟨none, [], 0, rfl, .inl ⟨rfl, rfl⟩, by simp, by simp⟩
  · injection hcs with hcs _
    injection hcs with e1 e2 e3
    subst e1 e2 e3
    unfold maxLen at hm
    have hsp : ad.spot = none := by
      unfold Value.okWide at hval
      rw [Tryz.underlying22] at hval
      simp only at hval
      unfold Cell.okWide at hval
      rw [Tryz.underlying22] at hval
      simp only at hval
      unfold Cell.ok at hval
      rw [Tryz.underlying22] at hval
      exact hval.2.2.2.1
    obtain ⟨g, o, sp⟩ := ad
    simp only at hsp
    subst hsp
    rw [show Tryz.prog.cellsOf 55 = 71 by kernel_rfl] at hel
    have each : ∀ i, ∃ c : Cd, i < len → Lies W g (o + i * 71) (cc c) ∧ c.path.size ≤ 9223372036854775807 := fun i => by
      by_cases hi : i < len
      · have h := hel i hi
        rw [List.getElem?_eq_getElem (by omega), Option.bind_eq_some_iff] at h
        obtain ⟨cs, hc, ht⟩ := h
        obtain ⟨_, hcl, hcc⟩ := World.cells?_some hc
        obtain ⟨c, hx, hok⟩ := change_in ht
        refine ⟨c, fun _ => ⟨fun j y hy => ?_, hok⟩⟩
        have hj : j < 71 := by have := (Array.getElem?_eq_some_iff.1 hy).1; rwa [cc_size] at this
        have h2 := hcc j hj
        rw [addr_add, addr_add] at h2
        rw [h2, hx]
        simpa using hy
      · exact ⟨cz, fun h => absurd h hi⟩
    obtain ⟨f, hfz⟩ := Classical.skolem.1 each
    refine ⟨some ⟨g, o, none⟩, (List.range len).map f, cap, by simp, .inr ⟨g, o, cap, rfl, by simpa using hl, fun i c hi => ?_⟩, by simp; omega, fun c hc => ?_⟩
    · have hi' : i < len := by have := (List.getElem?_eq_some_iff.1 hi).1; simpa using this
      have hxf : c = f i := by simp [hi'] at hi; exact hi.symm
      subst hxf
      exact (hfz i hi').1
    · obtain ⟨i, hi, rfl⟩ := List.mem_map.1 hc
      exact (hfz i (List.mem_range.1 hi)).2
end Go.Proofs.YthioflehpifflaaGreatDoor
