/-
  PathJoins: the walk, and the row.
-/
import Derived.Test.YtnhnggnldhmepaaFrame2
import Derived.Test.YtnhnggnldhmepaaRefAbove
import Derived.Test.YtnhnggnldhmepaaJoin
import Derived.Test.YtnhnggnldhmepaaSame
import Derived.Test.YtnhnggnldhmepaaRoomHold
import Derived.Test.YtnhnggnldhmepaaRoomLay
namespace Go.Proofs.Ytnhnggnldhmepaa.JoinsR
open Go.ChangeShapes Go.WideShapes Go.ChangeAt Go.RowKit
open Go.ChangeMaps (open_string shut_string)

theorem wsum_set : ∀ {L : List ByteArray} {k : Nat} {x y : ByteArray}, L[k]? = some x → wsum (L.set k y) + x.size = wsum L + y.size
  | [], k, x, y, h => by simp at h
  | z :: L, 0, x, y, h => by simp at h; subst h; simp [wsum]; omega
  | z :: L, k + 1, x, y, h => by
    have := wsum_set (L := L) (k := k) (x := x) (y := y) (by simpa using h)
    simp [wsum]; omega
theorem add_g (g i : Nat) : (⟨g, 0, none⟩ : Addr).add i = ⟨g, i, none⟩ := by
  unfold Addr.add; split
  · rename_i e; rw [e]
  · simp
theorem cellG {w : World} {g n c : Nat} {M : List ByteArray} (h : HasT w (.slice (some ⟨g, 0, none⟩) n c) M) {k : Nat} {x : ByteArray} (hk : M[k]? = some x) : w.cell? ⟨g, k, none⟩ = some (.string x) := by
  obtain ⟨a, cap, hv, hc⟩ := h.at hk
  simp at hv
  obtain ⟨rfl, _, _⟩ := hv
  rw [add_g] at hc
  exact hc
theorem setG {w : World} {g n c k : Nat} {M : List ByteArray} {x y : ByteArray} (h : HasT w (.slice (some ⟨g, 0, none⟩) n c) M) (hk : M[k]? = some x) : HasT (w.setCell ⟨g, k, none⟩ (.string y)) (.slice (some ⟨g, 0, none⟩) n c) (M.set k y) := by
  have hck := cellG h hk
  rcases h with ⟨q, _⟩ | ⟨a, cap, hv, hc, hcell⟩
  · simp at q
  · simp at hv
    obtain ⟨rfl, rfl, rfl⟩ := hv
    refine .inr ⟨⟨g, 0, none⟩, c, by simp, by simpa using hc, fun i s hi => ?_⟩
    rw [add_g]
    by_cases e : i = k
    · subst e
      rw [List.getElem?_set_self (List.getElem?_eq_some_iff.1 hk).1] at hi
      cases hi
      exact World.cell?_setCell_same _ _ _ hck
    · rw [List.getElem?_set_ne (fun q => e q.symm)] at hi
      have := hcell i s hi
      rw [add_g] at this
      exact (World.cell?_setCell_other _ _ _ _ (by simp <;> omega)).trans this

/-- the block of a new Room -/
def roomObj : Obj := .cells #[Value.slice none 0 0, Value.slice none 0 0, Value.slice none 0 0, Value.slice none 0 0, Value.slice none 0 0, Value.slice none 0 0, Value.slice none 0 0, Value.slice none 0 0, Value.slice none 0 0, Value.slice none 0 0, Value.slice none 0 0, Value.slice none 0 0, Value.slice none 0 0, Value.slice none 0 0, Value.slice none 0 0, Value.slice none 0 0, Value.slice none 0 0, Value.slice none 0 0, Value.slice none 0 0, Value.slice none 0 0, Value.slice none 0 0, Value.slice none 0 0, Value.slice none 0 0, Value.slice none 0 0, Value.slice none 0 0, Value.slice none 0 0] 45
theorem room_new (w : World) : (∀ i, i < 26 → (w.alloc roomObj).cell? ⟨w.heap.size, i, none⟩ = some (.slice none 0 0)) ∧ ∀ o, (w.alloc roomObj).frozen? ⟨w.heap.size, o, none⟩ = false := by
  have h := World.alloc_heap_new w roomObj
  constructor
  · intro i hi
    have e : roomObj = .cells (List.replicate 26 (Value.slice none 0 0)).toArray 45 := rfl
    rw [e] at h
    simp only [World.cell?, e, h]
    show (List.replicate 26 (Value.slice none 0 0)).toArray[i]? = _
    rw [List.getElem?_toArray, List.getElem?_replicate, if_pos hi]
  · intro o
    simp only [World.frozen?, h]
    simp [roomObj]

set_option maxHeartbeats 2000000 in
set_option maxRecDepth 100000 in
theorem walk0 (ao : Option Addr) (cap : Nat) (L : List ByteArray) (w : World) (hv : HasT w (.slice ao L.length cap) L) (hL : ∀ s ∈ L, s.size ≤ 9223372036854775807) (hLl : L.length ≤ 9223372036854775807) :
    Calls Try.prog 4 #[.slice ao L.length cap] w fun e w' => e = .returned (.bool true) ∧ Below w.heap.size w w' := by
  have C10 := few_any _ L w hv hL hLl
  have HV : Hid (HasT w (.slice ao L.length cap) L) := hv
  clear hv hL
  go_enter Try.func4, Try.ntmps4
  go_wp2_with fail
  refine C10.mono ?_
  rintro e w1 ⟨⟨q, rfl, hq⟩, b1⟩
  have B1 : Hid (Below w.heap.size w w1) := b1
  have HQ : Hid (q = true → wsum L ≤ 30000) := hq
  clear b1 hq C10
  cases q with
  | false =>
    go_wp2
    go_ret
    exact ⟨rfl, B1.out⟩
  | true =>
    have hws : wsum L ≤ 30000 := HQ.out rfl
    obtain ⟨hf1, hf2, _⟩ := wsum_facts (L := L)
    have hn : L.length ≤ 30000 := by omega
    have hs1 := B1.out.size
    have HV1 : Hid (HasT w1 (.slice ao L.length cap) L) := HV.out.below B1.out
    clear HQ hLl
    go_wp2_with fail
    refine (roomTexts_any w.heap.size w1.heap.size (.slice ao L.length cap) L (w1.alloc roomObj) hs1 (by simp) (room_new w1).1 (room_new w1).2 (HV1.out.below ((Below.refl _ _).alloc (Nat.le_refl _) _)) (by omega)).mono ?_
    rintro e w2 ⟨g, rfl, hg, hT, hRm, b2⟩
    have B2 : Hid (Below w.heap.size w w2) := (B1.out.alloc hs1 roomObj).trans b2
    have HT2 : Hid (HasT w2 (.slice (some ⟨g, 0, none⟩) L.length (L.length + 40)) L) := hT
    have HR2 : Hid (RoomT w2 w1.heap.size g L.length) := hRm
    obtain ⟨R, hR⟩ : ∃ R, w1.heap.size = R := ⟨_, rfl⟩
    rw [hR] at HR2 ⊢
    clear hT hRm b2 HV1 B1 hR hs1
    obtain ⟨z, hz⟩ : ∃ z, ofB (joinL (L.map tl)) = z := ⟨_, rfl⟩
    have C12 := join_any _ L w2 HT2.out (by omega) (by omega)
    have C13 := fun W hW => refJoin_any (.slice ao L.length cap) L W (HV.out.below hW) (by omega) (by omega)
    rw [hz] at C12
    have C13' : ∀ W, Below w.heap.size w W → Calls Try.prog 13 #[.slice ao L.length cap] W fun e w' => e = .returned (.string z) ∧ w' = W := fun W hW => by rw [← hz]; exact C13 W hW
    have hzz : (z.toList != z.toList) = false := by simp
    clear C13 hz
    go_wp2_with fail
    refine C12.mono ?_
    rintro e w3 ⟨rfl, b3⟩
    have B3 : Hid (Below w.heap.size w w3) := Below.up B2.out b3
    have HT3 : Hid (HasT w3 (.slice (some ⟨g, 0, none⟩) L.length (L.length + 40)) L) := HT2.out.below b3
    have HR3 : Hid (RoomT w3 R g L.length) := HR2.out.below b3
    have C13 := C13' w3 B3.out
    have C14 := same_any _ _ L L w3 HT3.out (HV.out.below B3.out) (by omega) (by omega)
    rw [decide_eq_true rfl] at C14
    clear b3 C12 B2 HT2 HR2 C13'
    go_wp2_with (go_at_call 13; refine C13.mono ?_; rintro e w4 ⟨rfl, e4⟩; subst e4)
    refine C14.mono ?_
    rintro e w5 ⟨rfl, d5⟩
    have B5 : Hid (Below w.heap.size w w5) := Below.drews B3.out d5
    have HT5 : Hid (HasT w5 (.slice (some ⟨g, 0, none⟩) L.length (L.length + 40)) L) := HT3.out.below d5.below
    have HR5 : Hid (RoomT w5 R g L.length) := HR3.out.below d5.below
    have C15 := roomHold_any R g L.length w5 HR5.out (by omega)
    clear d5 C13 C14 B3 HT3 HR3
    go_wp2_with (go_at_call 15; refine C15.mono ?_; rintro e w6 ⟨rfl, e6⟩; subst e6)
    clear C15
    go_loopw [5] (fun i wr => ∃ (k : Nat) (M : List ByteArray), i = .int .i64 k ∧ k ≤ L.length ∧ M.length = L.length ∧ Hid (wsum M ≤ 30000 + 2 * k) ∧ Hid (HasT wr (.slice (some ⟨g, 0, none⟩) L.length (L.length + 40)) M) ∧ Hid (RoomT wr R g L.length) ∧ Hid (Below w.heap.size w wr)) (fun i _ => L.length - iOf i)
    case atStart => exact ⟨0, L, rfl, Nat.zero_le _, rfl, hws, HT5, HR5, B5⟩
    case round =>
      clear HT5 HR5 B5
      obtain ⟨k, M, rfl, hk, hM, HW, HT, HR, HB⟩ := hrel
      by_cases hlt : k < L.length
      · have i1 : (k : Int) < (L.length : Int) := by omega
        obtain ⟨x, hx⟩ : ∃ x, M[k]? = some x := ⟨_, List.getElem?_eq_getElem (by omega)⟩
        have hcx := cellG HT.out hx
        have hfx := HR.out.fz k hlt
        have hxs : x.size ≤ 100000 := by
          have := (wsum_facts (L := M)).2.2 x (List.mem_of_getElem? hx)
          have := HW.out
          omega
        have a1 : x.size + 2 ≤ 9223372036854775807 := by omega
        have HW2 : Hid (wsum (M.set k (x ++ ⟨#[47, 120]⟩)) ≤ 30000 + 2 * (k + 1)) := by
          have h1 := wsum_set (y := x ++ ⟨#[47, 120]⟩) hx
          have h2 : (x ++ (⟨#[47, 120]⟩ : ByteArray)).size = x.size + 2 := by rw [ByteArray.size_append]; rfl
          have h3 := HW.out
          show _ ≤ _
          omega
        have HT2 : Hid (HasT (wr.setCell ⟨g, k, none⟩ (.string (x ++ ⟨#[47, 120]⟩))) (.slice (some ⟨g, 0, none⟩) L.length (L.length + 40)) (M.set k (x ++ ⟨#[47, 120]⟩))) := setG HT.out hx
        have HR2 : Hid (RoomT (wr.setCell ⟨g, k, none⟩ (.string (x ++ ⟨#[47, 120]⟩))) R g L.length) := HR.out.set hlt _
        have HB2 : Hid (Below w.heap.size w (wr.setCell ⟨g, k, none⟩ (.string (x ++ ⟨#[47, 120]⟩)))) := HB.out.setCell (p := ⟨g, k, none⟩) hg _
        have hM2 : (M.set k (x ++ ⟨#[47, 120]⟩)).length = L.length := by rw [List.length_set]; exact hM
        clear HW HT HR HB hx
        go_wp2
        go_roundw
        case rel => exact ⟨k + 1, _, by go_num, by omega, hM2, HW2, HT2, HR2, HB2⟩
        case measure => simp; omega
      · have i1 : ¬ ((k : Int) < (L.length : Int)) := by omega
        have hwm := HW.out
        obtain ⟨hm1, hm2, _⟩ := wsum_facts (L := M)
        obtain ⟨y, hy⟩ : ∃ y, ofB (joinL (M.map tl)) = y := ⟨_, rfl⟩
        have C12 := join_any _ M wr HT.out (by omega) (by omega)
        have C13 := fun W hW => refJoin_any _ M W (HT.out.below hW) (by omega) (by omega)
        rw [hy] at C12
        have C13' : ∀ W, Below wr.heap.size wr W → Calls Try.prog 13 #[.slice (some ⟨g, 0, none⟩) L.length (L.length + 40)] W fun e w' => e = .returned (.string y) ∧ w' = W := fun W hW => by rw [← hy]; exact C13 W hW
        have hyy : (y.toList == y.toList) = true := by simp
        clear C13 hy
        go_wp2_with fail
        refine C12.mono ?_
        rintro e w7 ⟨rfl, b7⟩
        have B7 : Hid (Below w.heap.size w w7) := Below.up HB.out b7
        have C13 := C13' w7 b7
        have C15 := roomHold_any R g L.length w7 (HR.out.below b7) (by omega)
        clear b7 C12 C13' HW HT HR HB
        go_wp2_with (first
          | (go_at_call 13; refine C13.mono ?_; rintro e w8 ⟨rfl, e8⟩; subst e8)
          | (go_at_call 15; refine C15.mono ?_; rintro e w9 ⟨rfl, e9⟩; subst e9))
        go_ret
        exact ⟨rfl, B7.out⟩

theorem walk (ao : Option Addr) (cap : Nat) (L : List ByteArray) (w : World) (hL : InT w (.slice ao L.length cap) L) :
    Calls Try.prog 4 #[.slice ao L.length cap] w fun e w' => e = .returned (.bool true) ∧ Below w.heap.size w w' :=
  walk0 ao cap L w hL.1 hL.2.1 hL.2.2
set_option maxRecDepth 100000 in
theorem contract (H : Type) (enc : TypeId × Value → H) (W : World) (base : Nat) (args : Array Value) (ds gs : List (DataW H)) (before : List MemPlace)
    (hval : ∀ (j : Nat) t v, Try.f4.params[j]? = some t → args[j]? = some v → Value.okWide Try.prog W .any base t v)
    (hW : DataW.Whole enc Try.prog Try.f4.params.toList Rows.pathJoinsSpec.vars false W args.toList ds gs before) :
    Calls Try.prog 4 args W fun e W' => ∃ v, e = .returned v ∧ Rows.pathJoinsSpec.post enc Try.prog Try.f4 false true false false W args v W' := by
  have hW' := hW
  obtain ⟨p, q, hA0, hV, rfl, hfz, hnd⟩ := hW
  have hA : DataW.TrodAll enc Try.prog W 0 (fun _ => true) true Try.f4.params.toList args.toList ds p := hA0
  rw [Try.params4] at hA hval
  obtain ⟨v0, vs0, d0, ds0, p0, q0, hargs, rfl, rfl, h0, r0⟩ := trodAll_cons hA
  obtain ⟨rfl, rfl, rfl⟩ := trodAll_nil r0
  obtain rfl : args = #[v0] := by cases args; simp_all
  obtain ⟨rfl, rfl⟩ := trodVars_none hV
  obtain ⟨a0, len0, cap0, rfl⟩ := okWide_slice Try.underlying27 (hval 0 27 v0 rfl rfl)
  have k0 := h0
  have lt0 : ∀ x ∈ p0, x.block < W.heap.size := by obtain ⟨m, hm⟩ := k0; exact DataW.trod_lt m _ _ _ hm
  obtain ⟨l0, rfl, hl0⟩ := texts_in h0
  clear hA0
  refine (walk a0 cap0 l0 W hl0).mono fun e W' ⟨he, bel⟩ => ?_
  subst he
  exact ⟨_, rfl, _, _, _, [], _, [], hW', trodAll_mk1 (shut_bool Try.underlying4 _), (trodAll_cons_mk (Below.trod laidOut (by kernel_rfl) (of_decide_eq_true (by kernel_rfl)) k0 bel lt0) trodAll_mk0), rfl, bel.frame _, fun h => by cases h⟩

noncomputable def aWorld (os : Os) : World := World.holding Try.prog os ⟨#[], #[], []⟩
theorem laid_met (os : Os) : laidMetH Try.prog Rows.pathJoinsRow.laid ((aWorld os).forCall (fun _ _ => 0) ⟨#[], #[.slice none 0 0], []⟩).memory :=
  laidMetH_of_parts (laidMet_nil _ _) (by kernel_rfl)
theorem reads (os : Os) {H : Type} (enc : TypeId × Value → H) : ∃ places, DataW.whole enc Try.prog ((aWorld os).forCall (fun _ _ => 0) ⟨#[], #[.slice none 0 0], []⟩).memory Try.f4.params.toList Rows.pathJoinsSpec.vars false #[Value.slice none 0 0].toList 8 = some ([.nil], [], places) :=
  ⟨[], by kernel_rfl⟩

set_option maxRecDepth 100000 in
theorem lifted (os : Os) (started : os.Started) (H : Type) (enc : TypeId × Value → H) (F : Stop.Interp) :
    ReturnsInHanded {} Try.checked os 4 .any ((OpenSpec.ofChange Rows.pathJoinsSpec).preRow enc Try.prog Try.f4 Rows.pathJoinsRow.domain false Rows.pathJoinsRow.laid) (((OpenSpec.ofChange Rows.pathJoinsSpec).at F).post enc Try.prog Try.f4 false true false false) := by
  obtain ⟨places, hx⟩ := reads os enc
  refine returnsInHanded_of_row (C := Try.checked) (s := OpenSpec.ofChange Rows.pathJoinsSpec) own started (by kernel_rfl) Try.func4
    (witness_row_at (enc := enc) (C := Try.checked) false (aWorld os) #[.slice none 0 0] rfl (by kernel_rfl) (by kernel_rfl) (by kernel_rfl)
      (OpenSpec.preRow_of_cond 8 hx (by kernel_rfl) (fun k hk => by cases hk) (by kernel_rfl) (laid_met os))) ?_
  intro W base args ds gs before hval hW _ _ _ hL _ _
  exact contract H enc W base args ds gs before hval hW

theorem said : Rows.PathJoinsSaid :=
  OpenClaim.holds_of_cond 4 Try.f4 rfl rfl rfl rfl rfl rfl rfl ⟨rfl, rfl, rfl, rfl, rfl⟩ rfl rfl rfl rfl rfl (by kernel_rfl) Try.func4 (by kernel_rfl)
    (of_decide_eq_true (by kernel_rfl)) (by unfold Func.isWrapper; first | (rw [if_pos (by decide +kernel)]; kernel_rfl) | (rw [if_neg (by decide +kernel)]; exact ⟨rfl, rfl⟩))
    (fun os started H enc _ F => by rw [OpenClaim.pre_eq_preRow]; exact lifted os started H enc F)
end Go.Proofs.Ytnhnggnldhmepaa.JoinsR
namespace Go.Proofs.Ytnhnggnldhmepaa
theorem pathJoins_holds : Rows.PathJoinsSaid := JoinsR.said
#print axioms pathJoins_holds
end Go.Proofs.Ytnhnggnldhmepaa
