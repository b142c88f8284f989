/-
  SumSHAs: the row, and its card.
-/
import Derived.Test.YtmglopfjjbnfiaaDoorOpsIn
import Derived.Test.YtmglopfjjbnfiaaDoorShasW
namespace Go.Proofs.YtmglopfjjbnfiaaDoor
open Go.ChangeShapes Go.WideShapes Go.ChangeAt Go.RowKit
/-- A slice of slices of bytes that came in. -/
theorem lists_in {H : Type} {enc : TypeId × Value → H} {W : World} {a : Option Addr} {len cap : Nat} {d : DataW H} {p : List MemPlace}
    (h : DataW.Trod enc Tryd.prog W 0 (fun _ => true) true 22 (.slice a len cap) d p) : ∃ L : List (List Nat), L.length = len ∧ HasL W (.slice a len cap) L ∧ (∀ q ∈ L, Bytes q) ∧ L.length ≤ 9223372036854775807 ∧ ∀ q ∈ L, q.length ≤ 9223372036854775807 := by
  obtain ⟨fuel, hf⟩ := h
  rcases DataW.trod_slice Tryd.underlying22 hf with ⟨hcs, _⟩ | ⟨ad, len', cap', elems, rest, n, _, hcs, _, _, hl, hm, hlen, hel, _, _⟩
  · simp [Value.cells] at hcs
    obtain ⟨rfl, rfl, rfl⟩ := hcs
    exact ⟨[], rfl, .inl ⟨rfl, rfl⟩, fun q hq => by simp at hq, by simp, fun q hq => by simp at hq⟩
  · simp [Value.cells] at hcs
    obtain ⟨rfl, rfl, rfl⟩ := hcs
    unfold maxLen at hm
    rw [show Tryd.prog.cellsOf 43 = 1 by kernel_rfl] at hel
    have each : ∀ i, ∃ q : List Nat, i < len → ∃ u, W.cell? (ad.add i) = some u ∧ Has W u q ∧ Bytes q ∧ q.length ≤ 9223372036854775807 := fun i => by
      by_cases hi : i < len
      · have h := hel i hi
        rw [List.getElem?_eq_getElem (by omega), Option.bind_eq_some_iff] at h
        obtain ⟨cs, hc, ht⟩ := h
        obtain ⟨_, hcl, hcc⟩ := World.cells?_some hc
        obtain ⟨v, l, hcs, r⟩ := slice_in2 ht
        refine ⟨l, fun _ => ⟨v, ?_, r⟩⟩
        have := hcc 0 (by decide)
        rw [hcs, Nat.mul_one, show (ad.add i).add 0 = ad.add i from by simp [Addr.add]] at this
        exact this
      · exact ⟨[], fun h => absurd h hi⟩
    obtain ⟨f, hfz⟩ := Classical.skolem.1 each
    have hmem : ∀ q ∈ (List.range len).map f, Bytes q ∧ q.length ≤ 9223372036854775807 := fun q hq => by
      obtain ⟨i, hi, rfl⟩ := List.mem_map.1 hq
      obtain ⟨u, _, _, r⟩ := hfz i (List.mem_range.1 hi)
      exact r
    refine ⟨(List.range len).map f, by simp, .inr ⟨ad, cap, by simp, by simpa using hl, fun i hi => ?_⟩, fun q hq => (hmem q hq).1, by simp; omega, fun q hq => (hmem q hq).2⟩
    have hi' : i < len := by simpa using hi
    obtain ⟨u, h1, h2, _⟩ := hfz i hi'
    exact ⟨u, h1, by simpa [List.getD, hi'] using h2⟩
end Go.Proofs.YtmglopfjjbnfiaaDoor
namespace Go.Proofs.YtmglopfjjbnfiaaDoor.ShasR
open Go.ChangeShapes Go.WideShapes Go.ChangeAt Go.RowKit
open Go.ChangeMaps (open_string shut_string)

set_option maxRecDepth 100000 in
theorem contract (H : Type) (enc : TypeId × Value → H) (W : World) (base : Nat) (args : Array Value) (ds gs : List (DataW H)) (before : List MemPlace)
    (hval : ∀ (j : Nat) t v, Tryd.f3.params[j]? = some t → args[j]? = some v → Value.okWide Tryd.prog W .any base t v)
    (hW : DataW.Whole enc Tryd.prog Tryd.f3.params.toList Rows.sumSHAsSpec.vars false W args.toList ds gs before) (hL : laidMetH Tryd.prog Rows.sumSHAsRow.laid W) :
    Calls Tryd.prog 3 args W fun e W' => ∃ v, e = .returned v ∧ Rows.sumSHAsSpec.post enc Tryd.prog Tryd.f3 false true false false W args v W' := by
  have hW' := hW
  obtain ⟨p, q, hA0, hV, rfl, hfz, hnd⟩ := hW
  have hA : DataW.TrodAll enc Tryd.prog W 0 (fun _ => true) true Tryd.f3.params.toList args.toList ds p := hA0
  rw [Tryd.params3] at hA hval
  obtain ⟨v0, vs0, d0, ds0, p0, q0, hargs, rfl, rfl, h0, r0⟩ := trodAll_cons hA
  obtain ⟨rfl, rfl, rfl⟩ := trodAll_nil r0
  obtain rfl : args = #[v0] := by cases args; simp_all
  obtain ⟨rfl, rfl⟩ := trodVars_none hV
  obtain ⟨a0, len0, cap0, rfl⟩ := okWide_slice Tryd.underlying22 (hval 0 22 v0 rfl rfl)
  have k0 := h0
  have lt0 : ∀ x ∈ p0, x.block < W.heap.size := by obtain ⟨m, hm⟩ := k0; exact DataW.trod_lt m _ _ _ hm
  obtain ⟨l0, rfl, hl0, hb0, hm0, hp0⟩ := lists_in h0
  clear hA0
  refine (shas_law a0 cap0 l0 W hl0 hb0 hm0 hp0 (tabs_of_laid2 hL)).mono fun e W' ⟨he, bel⟩ => ?_
  subst he
  exact ⟨_, rfl, _, _, _, [], _, [], hW', trodAll_mk1 (shut_bool Tryd.underlying4 _), (trodAll_cons_mk (Below.trod laidOut (by kernel_rfl) (of_decide_eq_true (by kernel_rfl)) k0 bel lt0) trodAll_mk0), rfl, bel.frame _, fun h => by cases h⟩

theorem laid_met (os : Os) : laidMetH Tryd.prog Rows.sumSHAsRow.laid ((laidWorld os).forCall (fun _ _ => 0) ⟨#[], #[.slice none 0 0], []⟩).memory := laid2 os _
theorem reads (os : Os) {H : Type} (enc : TypeId × Value → H) : ∃ places, DataW.whole enc Tryd.prog ((laidWorld os).forCall (fun _ _ => 0) ⟨#[], #[.slice none 0 0], []⟩).memory Tryd.f3.params.toList Rows.sumSHAsSpec.vars false #[Value.slice none 0 0].toList 8 = some ([.nil], [], places) :=
  ⟨[], by kernel_rfl⟩

set_option maxRecDepth 100000 in
theorem lifted (os : Os) (started : os.Started) (H : Type) (enc : TypeId × Value → H) (F : Stop.Interp) :
    ReturnsInHanded {} Tryd.checked os 3 .any ((OpenSpec.ofChange Rows.sumSHAsSpec).preRow enc Tryd.prog Tryd.f3 Rows.sumSHAsRow.domain false Rows.sumSHAsRow.laid) (((OpenSpec.ofChange Rows.sumSHAsSpec).at F).post enc Tryd.prog Tryd.f3 false true false false) := by
  obtain ⟨places, hx⟩ := reads os enc
  refine returnsInHanded_of_row (C := Tryd.checked) (s := OpenSpec.ofChange Rows.sumSHAsSpec) own started (by kernel_rfl) Tryd.func3
    (witness_row_at (enc := enc) (C := Tryd.checked) false (laidWorld os) #[.slice none 0 0] rfl (by kernel_rfl) (by kernel_rfl) (by kernel_rfl)
      (OpenSpec.preRow_of_cond 8 hx (by kernel_rfl) (fun k hk => by cases hk) (by kernel_rfl) (laid_met os))) ?_
  intro W base args ds gs before hval hW _ _ _ hL _ _
  exact contract H enc W base args ds gs before hval hW hL

theorem said : Rows.SumSHAsSaid :=
  OpenClaim.holds_of_cond 3 Tryd.f3 rfl rfl rfl rfl rfl rfl rfl ⟨rfl, rfl, rfl, rfl, rfl⟩ rfl rfl rfl rfl rfl (by kernel_rfl) Tryd.func3 (by kernel_rfl)
    (of_decide_eq_true (by kernel_rfl)) (by unfold Func.isWrapper; first | (rw [if_pos (by decide +kernel)]; kernel_rfl) | (rw [if_neg (by decide +kernel)]; exact ⟨rfl, rfl⟩))
    (fun os started H enc _ F => by rw [OpenClaim.pre_eq_preRow]; exact lifted os started H enc F)

theorem plain (f : FuncId) (fn : Func) (hf : Tryd.pinned.checked.prog.funcNamed "twine/twinelaw2.SumSHAs" = some f) (hfn : Tryd.pinned.checked.prog.funcs[f]? = some fn) :
    false = Tryd.pinned.checked.prog.looks [] ∧ ∀ (j : Nat) t, fn.params[j]? = some t → Tryd.pinned.checked.prog.wantsStandIn t = false := by
  obtain rfl : f = 3 := Option.some.inj ((show Tryd.prog.funcNamed "twine/twinelaw2.SumSHAs" = some 3 by kernel_rfl).symm.trans hf) |>.symm
  obtain rfl : fn = Tryd.f3 := (Option.some.inj (Tryd.func3.symm.trans hfn)).symm
  refine ⟨by kernel_rfl, fun j t ht => ?_⟩
  rw [Tryd.params3] at ht
  have h : t = 22 := by simpa using Array.mem_of_getElem? ht
  subst h
  exact (show Tryd.prog.wantsStandIn 22 = false by kernel_rfl)
end Go.Proofs.YtmglopfjjbnfiaaDoor.ShasR
namespace Go.Proofs.YtmglopfjjbnfiaaDoor
/-- The card. -/
theorem sumSHAs_card : Rows.SumSHAsCardSaid :=
  Claim7.holds_tied_plain_at .later [] _ _ _ _ ShasR.said (fun _ h => by cases h) (by kernel_rfl) (fun _ h => by cases h) sumSHAs_row_tie rfl ⟨rfl, rfl⟩ (by kernel_rfl) rfl ShasR.plain (by kernel_rfl)
#print axioms sumSHAs_card
end Go.Proofs.YtmglopfjjbnfiaaDoor
