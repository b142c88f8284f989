/-
  WirePlaces: the row, and its card.
-/
import Derived.Test.YthpelabmfpogbaaDoorFrame
import Derived.Test.YthpelabmfpogbaaDoorPlacesLast
import Derived.Lib.SmallJoins
namespace Go.Proofs.YthpelabmfpogbaaDoor.Places
open Go.ChangeShapes Go.WideShapes Go.ChangeAt Go.RowKit Wire
open Go.ChangeMaps (open_string shut_string)

theorem walk (ao : Option Addr) (cap : Nat) (b : List Int) (mo' : Option Addr) (capm : Nat) (m : List Int) (kind mo n : Int) (sec : Bool) (w : World) (hbl : b.length ≤ 9223372036854775807) (hml : m.length ≤ 9223372036854775807) (h0 : (Lit.int .i64 n).wf = true)
    (hb : Has w (.slice ao b.length cap) b) (hB : Bytes b) (hm : Has w (.slice mo' m.length capm) m) (hM : Bytes m)
    (hg0 : w.cell? ⟨0, 0, none⟩ = some (.iface 84 (.agg #[.pointer (some ⟨1, 33, none⟩)]))) :
    Calls Tryd.prog 5 #[.slice ao b.length cap, .slice mo' m.length capm, .agg #[.int .i64 kind, .bool sec, .int .u64 mo, .int .i64 n]] w fun e w' => e = .returned (.bool true) ∧ Below w.heap.size w w' := by
  have hn := bounds_i64 h0
  by_cases h : 65536 < b.length ∨ 65536 < m.length ∨ 65536 < n
  · exact places_long ao cap b mo' capm m kind mo n sec w hbl hml h hg0
  have hb' : b.length ≤ 65536 := by omega
  have hm' : m.length ≤ 65536 := by omega
  have hn' : -9223372036854775808 ≤ n ∧ n ≤ 65536 := by omega
  by_cases h11 : (oneS b kind n).fe = 11
  · exact places_form ao cap b mo' capm m kind mo n sec w hb' hm' hn' hb hB hm hM hg0 h11
  by_cases h10 : (oneS b kind n).fe = 10
  · rcases place_kind h10 with rfl | rfl | rfl | rfl
    · exact places_byte ao cap b mo' capm m mo n sec w hb' hm' hn' hb hB hm hg0 h10
    · exact places_uint ao cap b mo' capm m mo n sec w hb' hm' hn' hb hB hm hg0 h10
    · exact places_text ao cap b mo' capm m mo n sec w hb' hm' hn' hb hB hm hg0 h10
    · refine places_raw ao cap b mo' capm m mo n sec w hb' hm' hn' hb hB hm hg0 h10 ?_
      rcases Nat.lt_or_ge b.length n.toNat with hlt | hge
      · omega
      · exfalso
        have e : oneS b 4 n = rawS b ⟨0, 0, 0⟩ n := by simp [oneS]
        rw [e] at h10
        simp only [rawS, ne_eq, not_true_eq_false, if_false, Nat.zero_add] at h10
        rw [if_neg (by omega)] at h10
        simp at h10
  · exact places_other ao cap b mo' capm m kind mo n sec w hb' hm' hn' hb hB hm hg0 h11 h10

set_option maxRecDepth 100000 in
theorem op_in {H : Type} {enc : TypeId × Value → H} {W : World} {b0 : Nat} {v : Value} {d : DataW H} {p : List MemPlace} (hv : Value.okWide Tryd.prog W .any b0 40 v)
    (h : DataW.Trod enc Tryd.prog W 0 (fun _ => true) true 40 v d p) : ∃ (kind mo n : Int) (sec : Bool), v = .agg #[.int .i64 kind, .bool sec, .int .u64 mo, .int .i64 n] ∧ (Lit.int .i64 n).wf = true := by
  obtain ⟨v0, v1, v2, v3, y0, y1, y2, y3, k, rfl, _, _, h0, h1, h2, h3⟩ := Go.Joins.open_agg4 Tryd.underlying40 (by kernel_rfl) (by kernel_rfl) hv h
  obtain ⟨n0, e0, _, _⟩ := DataW.trod_int Tryd.underlying3 h0
  obtain ⟨n1, e1, _⟩ := DataW.trod_bool Tryd.underlying4 h1
  obtain ⟨n2, e2, _, _⟩ := DataW.trod_int Tryd.underlying22 h2
  obtain ⟨n3, e3, _, w3⟩ := DataW.trod_int Tryd.underlying3 h3
  simp at e0 e1 e2 e3
  subst e0 e1 e2 e3
  exact ⟨n0, n2, n3, n1, rfl, w3⟩

set_option maxRecDepth 100000 in
theorem contract (H : Type) (enc : TypeId × Value → H) (W : World) (base : Nat) (args : Array Value) (ds gs : List (DataW H)) (before : List MemPlace)
    (hval : ∀ (j : Nat) t v, Tryd.f5.params[j]? = some t → args[j]? = some v → Value.okWide Tryd.prog W .any base t v)
    (hW : DataW.Whole enc Tryd.prog Tryd.f5.params.toList Rows.wirePlacesSpec.vars false W args.toList ds gs before) (hL : laidMetH Tryd.prog Rows.wirePlacesRow.laid W) :
    Calls Tryd.prog 5 args W fun e W' => ∃ v, e = .returned v ∧ Rows.wirePlacesSpec.post enc Tryd.prog Tryd.f5 false true false false W args v W' := by
  have hW' := hW
  obtain ⟨p, q, hA0, hV, rfl, hfz, hnd⟩ := hW
  have hA : DataW.TrodAll enc Tryd.prog W 0 (fun _ => true) true Tryd.f5.params.toList args.toList ds p := hA0
  rw [Tryd.params5] at hA hval
  obtain ⟨v0, vs0, d0, ds0, p0, q0, hargs, rfl, rfl, h0, r0⟩ := trodAll_cons hA
  obtain ⟨v1, vs1, d1, ds1, p1, q1, rfl, rfl, rfl, h1, r1⟩ := trodAll_cons r0
  obtain ⟨v2, vs2, d2, ds2, p2, q2, rfl, rfl, rfl, h2, r2⟩ := trodAll_cons r1
  obtain ⟨rfl, rfl, rfl⟩ := trodAll_nil r2
  obtain rfl : args = #[v0, v1, v2] := by cases args; simp_all
  obtain ⟨rfl, rfl⟩ := trodVars_none hV
  obtain ⟨a0, len0, cap0, rfl⟩ := okWide_slice Tryd.underlying23 (hval 0 23 v0 rfl rfl)
  obtain ⟨a1, len1, cap1, rfl⟩ := okWide_slice Tryd.underlying23 (hval 1 23 v1 rfl rfl)
  obtain ⟨kind, mo, n, sec, rfl, hn⟩ := op_in (hval 2 40 v2 rfl rfl) h2
  have k0 := h0
  have k1 := h1
  have k2 := h2
  have lt0 : ∀ x ∈ p0, x.block < W.heap.size := by obtain ⟨m, hm⟩ := k0; exact DataW.trod_lt m _ _ _ hm
  have lt1 : ∀ x ∈ p1, x.block < W.heap.size := by obtain ⟨m, hm⟩ := k1; exact DataW.trod_lt m _ _ _ hm
  have lt2 : ∀ x ∈ p2, x.block < W.heap.size := by obtain ⟨m, hm⟩ := k2; exact DataW.trod_lt m _ _ _ hm
  obtain ⟨l, rfl, hl, hB, hml⟩ := slice_in h0
  obtain ⟨l1, rfl, hl1, hB1, hml1⟩ := slice_in h1
  clear hA0
  refine (walk a0 cap0 l a1 cap1 l1 kind mo n sec W hml hml1 hn hl hB hl1 hB1 (handle_of_laid hL)).mono fun e W' ⟨he, bel⟩ => ?_
  subst he
  exact ⟨_, rfl, _, _, _, [], _, [], hW', trodAll_mk1 (shut_bool Tryd.underlying4 _), (trodAll_cons_mk (Below.trod laidOut (by kernel_rfl) (of_decide_eq_true (by kernel_rfl)) k0 bel lt0) (trodAll_cons_mk (Below.trod laidOut (by kernel_rfl) (of_decide_eq_true (by kernel_rfl)) k1 bel lt1) (trodAll_cons_mk (Below.trod laidOut (by kernel_rfl) (of_decide_eq_true (by kernel_rfl)) k2 bel lt2) trodAll_mk0))), rfl, bel.frame _, fun h => by cases h⟩

theorem laid_met (os : Os) : laidMetH Tryd.prog Rows.wirePlacesRow.laid ((laidWorld os).forCall (fun _ _ => 0) ⟨#[], #[.slice none 0 0, .slice none 0 0, .agg #[.int .i64 0, .bool false, .int .u64 0, .int .i64 0]], []⟩).memory :=
  laidMetH_of_parts (laidMet_nil _ _) (by kernel_rfl)
theorem reads (os : Os) {H : Type} (enc : TypeId × Value → H) : ∃ places, DataW.whole enc Tryd.prog ((laidWorld os).forCall (fun _ _ => 0) ⟨#[], #[.slice none 0 0, .slice none 0 0, .agg #[.int .i64 0, .bool false, .int .u64 0, .int .i64 0]], []⟩).memory Tryd.f5.params.toList Rows.wirePlacesSpec.vars false #[Value.slice none 0 0, .slice none 0 0, .agg #[.int .i64 0, .bool false, .int .u64 0, .int .i64 0]].toList 8 = some ([.nil, .nil, .agg [.lit (.int .i64 0), .lit (.bool false), .lit (.int .u64 0), .lit (.int .i64 0)]], [], places) :=
  ⟨[], by kernel_rfl⟩

set_option maxRecDepth 100000 in
theorem lifted (os : Os) (started : os.Started) (H : Type) (enc : TypeId × Value → H) (F : Stop.Interp) :
    ReturnsInHanded {} Tryd.checked os 5 .any ((OpenSpec.ofChange Rows.wirePlacesSpec).preRow enc Tryd.prog Tryd.f5 Rows.wirePlacesRow.domain false Rows.wirePlacesRow.laid) (((OpenSpec.ofChange Rows.wirePlacesSpec).at F).post enc Tryd.prog Tryd.f5 false true false false) := by
  obtain ⟨places, hx⟩ := reads os enc
  refine returnsInHanded_of_row (C := Tryd.checked) (s := OpenSpec.ofChange Rows.wirePlacesSpec) own started (by kernel_rfl) Tryd.func5
    (witness_row_at (enc := enc) (C := Tryd.checked) false (laidWorld os) #[.slice none 0 0, .slice none 0 0, .agg #[.int .i64 0, .bool false, .int .u64 0, .int .i64 0]] rfl (by kernel_rfl) (by kernel_rfl) (by kernel_rfl)
      (OpenSpec.preRow_of_cond 8 hx (by kernel_rfl) (fun k hk => by cases hk) (by kernel_rfl) (laid_met os))) ?_
  intro W base args ds gs before hval hW _ _ _ hL _ _
  exact contract H enc W base args ds gs before hval hW hL

theorem said : Rows.WirePlacesSaid :=
  OpenClaim.holds_of_cond 5 Tryd.f5 rfl rfl rfl rfl rfl rfl rfl ⟨rfl, rfl, rfl, rfl, rfl⟩ rfl rfl rfl rfl rfl (by kernel_rfl) Tryd.func5 (by kernel_rfl)
    (of_decide_eq_true (by kernel_rfl)) (by unfold Func.isWrapper; first | (rw [if_pos (by decide +kernel)]; kernel_rfl) | (rw [if_neg (by decide +kernel)]; exact ⟨rfl, rfl⟩))
    (fun os started H enc _ F => by rw [OpenClaim.pre_eq_preRow]; exact lifted os started H enc F)

theorem plain (f : FuncId) (fn : Func) (hf : Tryd.pinned.checked.prog.funcNamed "twine/twinelaw1.WirePlaces" = some f) (hfn : Tryd.pinned.checked.prog.funcs[f]? = some fn) :
    true = Tryd.pinned.checked.prog.looks [] ∧ ∀ (j : Nat) t, fn.params[j]? = some t → Tryd.pinned.checked.prog.wantsStandIn t = false := by
  obtain rfl : f = 5 := Option.some.inj ((show Tryd.prog.funcNamed "twine/twinelaw1.WirePlaces" = some 5 by kernel_rfl).symm.trans hf) |>.symm
  obtain rfl : fn = Tryd.f5 := (Option.some.inj (Tryd.func5.symm.trans hfn)).symm
  refine ⟨by kernel_rfl, fun j t ht => ?_⟩
  rw [Tryd.params5] at ht
  have h : t = 23 ∨ t = 23 ∨ t = 40 := by simpa using Array.mem_of_getElem? ht
  rcases h with rfl | rfl | rfl
  · exact (show Tryd.prog.wantsStandIn 23 = false by kernel_rfl)
  · exact (show Tryd.prog.wantsStandIn 23 = false by kernel_rfl)
  · exact (show Tryd.prog.wantsStandIn 40 = false by kernel_rfl)
end Go.Proofs.YthpelabmfpogbaaDoor.Places
namespace Go.Proofs.YthpelabmfpogbaaDoor
/-- The card. -/
theorem wirePlaces_card : Rows.WirePlacesCardSaid :=
  Claim7.holds_tied_plain_at .later [] _ _ _ _ Places.said (fun _ h => by cases h) (by kernel_rfl) (fun _ h => by cases h) wirePlaces_row_tie rfl ⟨rfl, rfl⟩ (by kernel_rfl) rfl Places.plain (by kernel_rfl)
#print axioms wirePlaces_card
end Go.Proofs.YthpelabmfpogbaaDoor
