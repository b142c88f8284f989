/-
  THE FRAME of the rows: the listed tables, the witness' world, a slice of bytes that came in.
-/
import Derived.Test.YtmglopfjjbnfiaaDoorCards
import Derived.Test.YtmglopfjjbnfiaaDoorTie
import Derived.Test.YtmglopfjjbnfiaaDoorBase
import Derived.ProofKit
import Derived.OpenShut
import Derived.ShutString
import Derived.ChangeOld
import Derived.Deep.DeepHandedRow
import Derived.LaidHandle
import Derived.LaidLaws
import Derived.MakeChecks
import Derived.Lib.LaidTab
namespace Go.Proofs.YtmglopfjjbnfiaaDoor
open Go.ChangeShapes Go.WideShapes Go.ChangeAt Go.RowKit
open Go.ChangeMaps (open_string shut_string)

theorem own : ownKnob Tryd.prog.godebug = none := by kernel_rfl
theorem laidOut : laidOutB Tryd.prog = true := by kernel_rfl
theorem gHalf : Tryd.prog.globalNamed "twine/sum.halfSums" = some 0 := by kernel_rfl
theorem gFirst : Tryd.prog.globalNamed "twine/sum.firstWords" = some 1 := by kernel_rfl
theorem gRound : Tryd.prog.globalNamed "twine/sum.roundWords" = some 2 := by kernel_rfl
theorem tHalf : (Tryd.prog.globals[0]?).map (·.type) = some 90 := by kernel_rfl
theorem tFirst : (Tryd.prog.globals[1]?).map (·.type) = some 94 := by kernel_rfl
theorem tRound : (Tryd.prog.globals[2]?).map (·.type) = some 148 := by kernel_rfl

def firstL : List Nat := [1779033703, 3144134277, 1013904242, 2773480762, 1359893119, 2600822924, 528734635, 1541459225]
theorem dHalf {H : Type} : (Rows.laid_twine_sum_halfSums : DataW H) = Lib.tabData .u32 (Crc.tab.map Int.ofNat) := rfl
theorem dFirst {H : Type} : (Rows.laid_twine_sum_firstWords : DataW H) = Lib.tabData .u32 (firstL.map Int.ofNat) := rfl
theorem dRound {H : Type} : (Rows.laid_twine_sum_roundWords : DataW H) = Lib.tabData .u32 (Sha.ks.map Int.ofNat) := rfl

theorem tab_cells {w : World} {n : String} {g : Nat} {t : TypeId} {len fuel : Nat} {zs : List Nat} {cs : Array Value} {p : List MemPlace} (hg : Tryd.prog.globalNamed n = some g) (hu : Tryd.prog.underlying t = some (.array len 49)) (hct : Tryd.prog.cellsOf t = len)
    (hv : w.var? Tryd.prog n = some cs) (hd : DataW.trod (fun _ => ()) Tryd.prog w 0 (fun _ => true) false fuel t cs.toList = some (Lib.tabData .u32 (zs.map Int.ofNat), p)) (i : Nat) (hi : i < zs.length) :
    w.cell? ⟨g, i, none⟩ = some (vw (zs.getD i 0)) := by
  have hc := Lib.cells_of_tab hu Tryd.underlying49 (by kernel_rfl) hct hd
  rw [World.var?_cell hg hv i, ← Array.getElem?_toList, hc]
  simp [List.getD, hi, vw]

/-- What the three listed variables hold. -/
theorem both_of_laid {W : World} (h : laidMetH Tryd.prog [("twine/sum.halfSums", Rows.laid_twine_sum_halfSums), ("twine/sum.firstWords", Rows.laid_twine_sum_firstWords), ("twine/sum.roundWords", Rows.laid_twine_sum_roundWords)] W) : Tabs W ∧ Half W := by
  rw [MakeChecks.laidMetH_plain _ _ _ (by kernel_rfl)] at h
  obtain ⟨ps, ⟨g0, t0, cs0, f0, p0, q0, hg0, ht0, hv0, hd0, ⟨g1, t1, cs1, f1, p1, q1, hg1, ht1, hv1, hd1, ⟨g2, t2, cs2, f2, p2, q2, hg2, ht2, hv2, hd2, _, _⟩, _⟩, _⟩, _, _⟩ := h
  obtain rfl := Option.some.inj (gHalf.symm.trans hg0)
  obtain rfl := Option.some.inj (gFirst.symm.trans hg1)
  obtain rfl := Option.some.inj (gRound.symm.trans hg2)
  obtain rfl := Option.some.inj (tHalf.symm.trans ht0)
  obtain rfl := Option.some.inj (tFirst.symm.trans ht1)
  obtain rfl := Option.some.inj (tRound.symm.trans ht2)
  rw [dHalf] at hd0
  rw [dFirst] at hd1
  rw [dRound] at hd2
  exact ⟨⟨fun i hi => tab_cells gFirst Tryd.underlying94 (by kernel_rfl) hv1 hd1 i hi, fun i hi => tab_cells gRound Tryd.underlying148 (by kernel_rfl) hv2 hd2 i hi⟩, ⟨fun i hi => tab_cells gHalf Tryd.underlying90 (by kernel_rfl) hv0 hd0 i hi⟩⟩

/-- What two listed variables hold. -/
theorem tabs_of_laid2 {W : World} (h : laidMetH Tryd.prog [("twine/sum.firstWords", Rows.laid_twine_sum_firstWords), ("twine/sum.roundWords", Rows.laid_twine_sum_roundWords)] W) : Tabs W := by
  rw [MakeChecks.laidMetH_plain _ _ _ (by kernel_rfl)] at h
  obtain ⟨ps, ⟨g1, t1, cs1, f1, p1, q1, hg1, ht1, hv1, hd1, ⟨g2, t2, cs2, f2, p2, q2, hg2, ht2, hv2, hd2, _, _⟩, _⟩, _, _⟩ := h
  obtain rfl := Option.some.inj (gFirst.symm.trans hg1)
  obtain rfl := Option.some.inj (gRound.symm.trans hg2)
  obtain rfl := Option.some.inj (tFirst.symm.trans ht1)
  obtain rfl := Option.some.inj (tRound.symm.trans ht2)
  rw [dFirst] at hd1
  rw [dRound] at hd2
  exact ⟨fun i hi => tab_cells gFirst Tryd.underlying94 (by kernel_rfl) hv1 hd1 i hi, fun i hi => tab_cells gRound Tryd.underlying148 (by kernel_rfl) hv2 hd2 i hi⟩

def lay (c : Array Value) : Obj → Obj
  | .cells _ t frozen => .cells c t frozen
  | o => o

/-- A world for the witness: the settled one, the tables laid. -/
noncomputable def laidWorld (os : Os) : World :=
  { World.holding Tryd.prog os ⟨#[], #[], []⟩ with heap := (((World.holding Tryd.prog os ⟨#[], #[], []⟩).heap.modify 0 (lay (Crc.tab.map vw).toArray)).modify 1 (lay (firstL.map vw).toArray)).modify 2 (lay (Sha.ks.map vw).toArray) }

theorem laid3 (os : Os) (args : Array Value) : laidMetH Tryd.prog [("twine/sum.halfSums", Rows.laid_twine_sum_halfSums), ("twine/sum.firstWords", Rows.laid_twine_sum_firstWords), ("twine/sum.roundWords", Rows.laid_twine_sum_roundWords)] ((laidWorld os).forCall (fun _ _ => 0) ⟨#[], args, []⟩).memory := by
  rw [MakeChecks.laidMetH_plain _ _ _ (by kernel_rfl)]
  exact laidMet_of_run' 8 (by kernel_rfl) (by kernel_rfl)

theorem laid2 (os : Os) (args : Array Value) : laidMetH Tryd.prog [("twine/sum.firstWords", Rows.laid_twine_sum_firstWords), ("twine/sum.roundWords", Rows.laid_twine_sum_roundWords)] ((laidWorld os).forCall (fun _ _ => 0) ⟨#[], args, []⟩).memory := by
  rw [MakeChecks.laidMetH_plain _ _ _ (by kernel_rfl)]
  exact laidMet_of_run' 8 (by kernel_rfl) (by kernel_rfl)

/-- A slice of bytes that came in. -/
theorem slice_in {H : Type} {enc : TypeId × Value → H} {W : World} {a : Option Addr} {len cap : Nat} {d : DataW H} {p : List MemPlace}
    (h : DataW.Trod enc Tryd.prog W 0 (fun _ => true) true 43 (.slice a len cap) d p) : ∃ l : List Nat, l.length = len ∧ Has W (.slice a len cap) l ∧ Bytes l ∧ len ≤ 9223372036854775807 := by
  obtain ⟨fuel, hf⟩ := h
  rcases open_ints Tryd.underlying43 Tryd.underlying5 (by kernel_rfl) hf with ⟨hcs, _⟩ | ⟨x, l, c, zs, hcs, _, hl, hm, hz, _, hcell, hwz⟩
  · simp [Value.cells] at hcs
    obtain ⟨rfl, rfl, rfl⟩ := hcs
    exact ⟨[], rfl, .inl ⟨rfl, rfl⟩, fun x hx => by simp at hx, by omega⟩
  · simp [Value.cells] at hcs
    obtain ⟨rfl, rfl, rfl⟩ := hcs
    simp only [if_true] at hz
    unfold maxLen at hm
    have hlen : ((zs.take len).map Int.toNat).length = len := by simp; omega
    refine ⟨(zs.take len).map Int.toNat, hlen, .inr ⟨x, cap, by rw [hlen], by rw [hlen]; exact hl, fun i hi => ?_⟩, fun y hy => ?_, by omega⟩
    · rw [hlen] at hi
      rw [hcell i (by omega)]
      have hzi : i < zs.length := by omega
      have hb := bounds_u8 (hwz zs[i] (List.getElem_mem hzi))
      have : ((zs[i].toNat : Nat) : Int) = zs[i] := Int.toNat_of_nonneg hb.1
      simp [List.getD, hi, hzi, vb, this]
    · obtain ⟨z, hz', rfl⟩ := List.mem_map.1 hy
      have := bounds_u8 (hwz z (List.mem_of_mem_take hz'))
      omega
end Go.Proofs.YtmglopfjjbnfiaaDoor
