/-
  PathOrders: the walk, and the row.
-/
import Derived.Test.YtadkdjgffnpgcaaFrame
import Derived.Test.YtadkdjgffnpgcaaRefAbove
namespace Go.Proofs.Ytadkdjgffnpgcaa.OrdersR
open Go.ChangeShapes Go.WideShapes Go.ChangeAt Go.RowKit
open Go.ChangeMaps (open_string shut_string)

set_option maxHeartbeats 1000000 in
set_option maxRecDepth 100000 in
theorem short (a b : ByteArray) (w : World) (ha : a.size ≤ 20000) (hb : b.size ≤ 20000) :
    Calls Try.prog 4 #[.string a, .string b] w fun e w' => e = .returned (.bool true) ∧ Below w.heap.size w w' := by
  have i1 : ¬ ((20000 : Int) < (a.size : Int)) := by omega
  have i2 : ¬ ((20000 : Int) < (b.size : Int)) := by omega
  have A1 := above_any a w (by omega)
  have A2 := fun W => refAbove_any a W (by omega)
  have C1 := fun W => compare_any a b W (by omega) (by omega)
  have C2 := fun W => refCompare_any a b W (by omega) (by omega)
  have U1 := fun W => under_any a b W (by omega) (by omega)
  have U2 := fun W => refUnder_any a b W (by omega) (by omega)
  have U3 := fun W => under_any b a W (by omega) (by omega)
  have U4 := fun W => refUnder_any b a W (by omega) (by omega)
  generalize cmpL (tl a) (tl b) = z at *
  generalize underB (tl a) (tl b) = q1 at *
  generalize underB (tl b) (tl a) = q2 at *
  have t1 : ∀ q : Bool, (q == q) = true := fun q => by simp
  go_enter Try.func4, Try.ntmps4
  go_wp2_with fail
  refine A1.mono ?_
  rintro e w1 ⟨⟨u, v, rfl, r1⟩, d1⟩
  go_wp2_with fail
  refine (A2 _).mono ?_
  rintro e w2 ⟨⟨u', v', rfl, r2⟩, b2⟩
  obtain ⟨e1, e2⟩ := r1.one r2
  have e3 := ext_of _ _ e1
  have e4 := ext_of _ _ e2
  subst e3 e4
  have B2 : Hid (Below w.heap.size w w2) := Below.up d1.below b2
  clear d1 b2 r1 r2 e1 e2 A1 A2
  go_wp2_with fail
  refine (C1 _).mono ?_
  rintro e w3 ⟨rfl, d3⟩
  have B3 : Hid (Below w.heap.size w w3) := Below.drews B2.out d3
  clear d3
  go_wp2_with fail
  refine (C2 _).mono ?_
  rintro e w4 ⟨rfl, d4⟩
  have B4 : Hid (Below w.heap.size w w4) := Below.up B3.out d4
  clear d4
  go_wp2_with fail
  refine (U1 _).mono ?_
  rintro e w5 ⟨rfl, e5⟩
  have B5 : Hid (Below w.heap.size w w5) := by rw [e5]; exact B4.out
  clear e5
  go_wp2_with fail
  refine (U2 _).mono ?_
  rintro e w6 ⟨rfl, d6⟩
  have B6 : Hid (Below w.heap.size w w6) := Below.up B5.out d6
  clear d6
  go_wp2_with fail
  refine (U3 _).mono ?_
  rintro e w7 ⟨rfl, e7⟩
  have B7 : Hid (Below w.heap.size w w7) := by rw [e7]; exact B6.out
  clear e7
  go_wp2_with fail
  refine (U4 _).mono ?_
  rintro e w8 ⟨rfl, d8⟩
  have B8 : Hid (Below w.heap.size w w8) := Below.up B7.out d8
  clear d8
  go_wp2
  go_ret
  exact ⟨by simp, B8.out⟩

set_option maxHeartbeats 400000 in
set_option maxRecDepth 100000 in
theorem long (a b : ByteArray) (w : World) (h : 20000 < a.size ∨ 20000 < b.size) :
    Calls Try.prog 4 #[.string a, .string b] w fun e w' => e = .returned (.bool true) ∧ Below w.heap.size w w' := by
  by_cases h1 : 20000 < a.size
  · have i1 : (20000 : Int) < (a.size : Int) := by omega
    go_enter Try.func4, Try.ntmps4
    go_wp2
    go_ret
    exact ⟨rfl, Below.refl _ _⟩
  · have i1 : ¬ ((20000 : Int) < (a.size : Int)) := by omega
    have i2 : (20000 : Int) < (b.size : Int) := by omega
    go_enter Try.func4, Try.ntmps4
    go_wp2
    go_ret
    exact ⟨rfl, Below.refl _ _⟩

theorem walk (a b : ByteArray) (w : World) (_ : a.size ≤ maxLen) (_ : b.size ≤ maxLen) :
    Calls Try.prog 4 #[.string a, .string b] w fun e w' => e = .returned (.bool true) ∧ Below w.heap.size w w' := by
  by_cases h : 20000 < a.size ∨ 20000 < b.size
  · exact long a b w h
  · exact short a b w (by omega) (by omega)
set_option maxRecDepth 100000 in
theorem contract (H : Type) (enc : TypeId × Value → H) (W : World) (base : Nat) (args : Array Value) (ds gs : List (DataW H)) (before : List MemPlace)
    (hval : ∀ (j : Nat) t v, Try.f4.params[j]? = some t → args[j]? = some v → Value.okWide Try.prog W .any base t v)
    (hW : DataW.Whole enc Try.prog Try.f4.params.toList Rows.pathOrdersSpec.vars false W args.toList ds gs before) :
    Calls Try.prog 4 args W fun e W' => ∃ v, e = .returned v ∧ Rows.pathOrdersSpec.post enc Try.prog Try.f4 false true false false W args v W' := by
  have hW' := hW
  obtain ⟨p, q, hA0, hV, rfl, hfz, hnd⟩ := hW
  have hA : DataW.TrodAll enc Try.prog W 0 (fun _ => true) true Try.f4.params.toList args.toList ds p := hA0
  rw [Try.params4] at hA hval
  obtain ⟨v0, vs0, d0, ds0, p0, q0, hargs, rfl, rfl, h0, r0⟩ := trodAll_cons hA
  obtain ⟨v1, vs1, d1, ds1, p1, q1, rfl, rfl, rfl, h1, r1⟩ := trodAll_cons r0
  obtain ⟨rfl, rfl, rfl⟩ := trodAll_nil r1
  obtain rfl : args = #[v0, v1] := by cases args; simp_all
  obtain ⟨rfl, rfl⟩ := trodVars_none hV
  obtain ⟨a0, rfl, rfl, rfl, w0⟩ := open_string Try.underlying9 (hval 0 9 v0 rfl rfl) h0
  obtain ⟨a1, rfl, rfl, rfl, w1⟩ := open_string Try.underlying9 (hval 1 9 v1 rfl rfl) h1
  clear hA0
  refine (walk a0 a1 W w0 w1).mono fun e W' ⟨he, bel⟩ => ?_
  subst he
  exact ⟨_, rfl, _, _, _, [], _, [], hW', trodAll_mk1 (shut_bool Try.underlying4 _), (trodAll_cons_mk (shut_string Try.underlying9 w0) (trodAll_cons_mk (shut_string Try.underlying9 w1) trodAll_mk0)), rfl, bel.frame _, fun h => by cases h⟩

noncomputable def aWorld (os : Os) : World := World.holding Try.prog os ⟨#[], #[], []⟩
theorem laid_met (os : Os) : laidMetH Try.prog Rows.pathOrdersRow.laid ((aWorld os).forCall (fun _ _ => 0) ⟨#[], #[.string ByteArray.empty, .string ByteArray.empty], []⟩).memory :=
  laidMetH_of_parts (laidMet_nil _ _) (by kernel_rfl)
theorem reads (os : Os) {H : Type} (enc : TypeId × Value → H) : ∃ places, DataW.whole enc Try.prog ((aWorld os).forCall (fun _ _ => 0) ⟨#[], #[.string ByteArray.empty, .string ByteArray.empty], []⟩).memory Try.f4.params.toList Rows.pathOrdersSpec.vars false #[Value.string ByteArray.empty, .string ByteArray.empty].toList 8 = some ([.lit (.string []), .lit (.string [])], [], places) :=
  ⟨[], by kernel_rfl⟩

set_option maxRecDepth 100000 in
theorem lifted (os : Os) (started : os.Started) (H : Type) (enc : TypeId × Value → H) (F : Stop.Interp) :
    ReturnsInHanded {} Try.checked os 4 .any ((OpenSpec.ofChange Rows.pathOrdersSpec).preRow enc Try.prog Try.f4 Rows.pathOrdersRow.domain false Rows.pathOrdersRow.laid) (((OpenSpec.ofChange Rows.pathOrdersSpec).at F).post enc Try.prog Try.f4 false true false false) := by
  obtain ⟨places, hx⟩ := reads os enc
  refine returnsInHanded_of_row (C := Try.checked) (s := OpenSpec.ofChange Rows.pathOrdersSpec) own started (by kernel_rfl) Try.func4
    (witness_row_at (enc := enc) (C := Try.checked) false (aWorld os) #[.string ByteArray.empty, .string ByteArray.empty] rfl (by kernel_rfl) (by kernel_rfl) (by kernel_rfl)
      (OpenSpec.preRow_of_cond 8 hx (by kernel_rfl) (fun k hk => by cases hk) (by kernel_rfl) (laid_met os))) ?_
  intro W base args ds gs before hval hW _ _ _ hL _ _
  exact contract H enc W base args ds gs before hval hW

theorem said : Rows.PathOrdersSaid :=
  OpenClaim.holds_of_cond 4 Try.f4 rfl rfl rfl rfl rfl rfl rfl ⟨rfl, rfl, rfl, rfl, rfl⟩ rfl rfl rfl rfl rfl (by kernel_rfl) Try.func4 (by kernel_rfl)
    (of_decide_eq_true (by kernel_rfl)) (by unfold Func.isWrapper; first | (rw [if_pos (by decide +kernel)]; kernel_rfl) | (rw [if_neg (by decide +kernel)]; exact ⟨rfl, rfl⟩))
    (fun os started H enc _ F => by rw [OpenClaim.pre_eq_preRow]; exact lifted os started H enc F)
end Go.Proofs.Ytadkdjgffnpgcaa.OrdersR
namespace Go.Proofs.Ytadkdjgffnpgcaa
theorem pathOrders_holds : Rows.PathOrdersSaid := OrdersR.said
#print axioms pathOrders_holds
end Go.Proofs.Ytadkdjgffnpgcaa
