/-
  the reference's matches.
-/
import Derived.Test.YtpngnhpnjkepjaaGreatDoorRefFits
namespace Go.Proofs.YtpngnhpnjkepjaaGreatDoor
open Go.RowKit

theorem HasK.set {w : World} {v x : Value} {K : List Sg} {B k : Nat} (h : HasK w v K) (hb : ∀ g, v.ownBlock = some g → g ≠ B) : HasK (w.setCell ⟨B, k, none⟩ x) v K := by
  rcases h with h | ⟨g, cap, hv, h⟩
  · exact .inl h
  · refine .inr ⟨g, cap, hv, fun i s hi j u hu => ?_⟩
    rw [World.cell?_setCell_other _ _ _ _ (fun e => hb g (by rw [hv]; rfl) (congrArg Addr.block e).symm)]
    exact h i s hi j u hu
theorem Row.below {w w' : World} {B n : Nat} {f : Nat → Bool} (h : Row w B n f) (hb : Below w.heap.size w w') : Row w' B n f := World.rowIs.of_block h (hb.block _ (World.rowIs.lt h))
theorem starP_at {L : List ByteArray} {i : Nat} {x : ByteArray} (h : L[i]? = some x) : ((L.map tl).map starP)[i]? = some (if x.toList = [42, 42] then none else some (tl x)) := by
  simp only [List.getElem?_map, h, Option.map_some]
  rfl

set_option maxHeartbeats 4000000 in
set_option maxRecDepth 100000 in
theorem matches_any (v u : Value) (L M : List ByteArray) (w : World) (hv : HasT w v L) (hu : HasT w u M) (hLn : L.length ≤ 1048577) (hMn : M.length ≤ 1048577)
    (hL : ∀ x ∈ L, x.size ≤ 1048576 ∧ ∃ K, signsOf (tl x) = some K) (hM : ∀ x ∈ M, x.size ≤ 1048576) :
    Calls Tryz.prog 43 #[v, u] w fun e w' => e = .returned (.bool (matchN (L.map tl) (M.map tl))) ∧ Below w.heap.size w w' := by
  have hmk := make71 M.length (by omega)
  have HV : Hid (HasT w v L) := hv
  have HU : Hid (HasT w u M) := hu
  have HL : Hid (∀ x ∈ L, x.size ≤ 1048576 ∧ ∃ K, signsOf (tl x) = some K) := hL
  have HM : Hid (∀ x ∈ M, x.size ≤ 1048576) := hM
  have C58 := fun x W h => refSigns_any x W h
  have C59 := fun v K s W h1 h2 h3 => fits_any v K s W h1 h2 h3
  obtain ⟨ao, cap, rfl, _⟩ := hv.form
  obtain ⟨bo, cap2, rfl, _⟩ := hu.form
  clear hv hu hL hM
  obtain ⟨F, HF⟩ : ∃ F : Nat → Nat → Bool, Hid (F = tabF matchB ((L.map tl).map starP) (M.map tl)) := ⟨_, rfl⟩
  have hln : (M.map tl).length = M.length := List.length_map _
  have hll : ((L.map tl).map starP).length = L.length := by simp
  have c0 : (w.alloc (.cells (madeCells #[.bool false] (M.length + 1)) 4)).cell? ⟨w.heap.size, M.length, none⟩ = some (.bool false) := (Row.made w M.length).cell (Nat.le_refl _)
  have f0 := (Row.made w M.length).frozen M.length
  have HR0 : Hid (Row ((w.alloc (.cells (madeCells #[.bool false] (M.length + 1)) 4)).setCell ⟨w.heap.size, M.length, none⟩ (.bool true)) w.heap.size M.length (F L.length)) := by
    refine ((Row.made w M.length).set M.length true).congr (fun j hj => ?_)
    rw [HF.out, ← hll, tabF_last (by rw [hln]; exact hj), hln]
    by_cases e : j = M.length <;> simp [e]
  have HB0 : Hid (Below w.heap.size w ((w.alloc (.cells (madeCells #[.bool false] (M.length + 1)) 4)).setCell ⟨w.heap.size, M.length, none⟩ (.bool true))) := ((Below.refl _ w).alloc (Nat.le_refl _) _).setCell (p := ⟨w.heap.size, M.length, none⟩) (by simp) _
  have E0 : (w.alloc (.cells (madeCells #[.bool false] (M.length + 1)) 4)).setCell ⟨w.heap.size, M.length, none⟩ (.bool true) = w.alloc (.cells ((madeCells #[.bool false] (M.length + 1)).setIfInBounds M.length (.bool true)) 4) := World.setCell_alloc_new _ _ _ _
  rw [E0] at HR0 HB0
  clear E0
  have HLN : Hid ((M.map tl).length = M.length ∧ ((L.map tl).map starP).length = L.length) := ⟨hln, hll⟩
  clear hln hll
  go_enter Tryz.func43, Tryz.ntmps43
  go_wp2
  clear c0 f0
  go_loopw [5, 6] (fun t x wr => ∃ (A m : Nat), t = .slice (some ⟨A, 0, none⟩) (M.length + 1) (M.length + 1) ∧ x = .int .i64 ((m : Int) - 1) ∧ m ≤ L.length ∧ w.heap.size ≤ A ∧ Hid (Row wr A M.length (F m)) ∧ Hid (Below w.heap.size w wr)) (fun _ x _ => iN x)
  case atStart => exact ⟨_, L.length, rfl, rfl, Nat.le_refl _, Nat.le_refl _, HR0, HB0⟩
  case round =>
    clear HR0 HB0
    obtain ⟨A, m, rfl, rfl, hm, hA, HR, HB⟩ := hrel
    cases m with
    | zero =>
      have c0 := HR.out.cell (Nat.zero_le _)
      have HE : Hid (F 0 0 = matchN (L.map tl) (M.map tl)) := by show _ = _; rw [HF.out, tabF_zero]; rfl
      have hz : ((0 : Nat) : Int) - 1 = -1 := rfl
      clear HF
      rw [hz]
      go_wp2
      go_ret
      exact ⟨congrArg (fun b => Ending.returned (.bool b)) HE.out, HB.out⟩
    | succ i =>
      have hz : ((i + 1 : Nat) : Int) - 1 = (i : Int) := by omega
      have z0 : (0 : Int) ≤ (i : Int) := by omega
      have hbs := HB.out.size
      have HA1 : Hid (Row (wr.alloc (.cells (madeCells #[.bool false] (M.length + 1)) 4)) A M.length (F (i + 1))) := World.rowIs.alloc HR.out _
      have HN1 : Hid (Row (wr.alloc (.cells (madeCells #[.bool false] (M.length + 1)) 4)) wr.heap.size M.length (fun j => if M.length + 1 ≤ j then F i j else false)) := (Row.made wr M.length).congr (fun j hj => by rw [if_neg (by omega)])
      have HB1 : Hid (Below w.heap.size w (wr.alloc (.cells (madeCells #[.bool false] (M.length + 1)) 4))) := HB.out.alloc hbs _
      have hAB : A < wr.heap.size := World.rowIs.lt HR.out
      obtain ⟨x, hx⟩ : ∃ x, L[i]? = some x := ⟨_, List.getElem?_eq_getElem (by omega)⟩
      obtain ⟨a0, _, hva, hca⟩ := (HV.out.below HB1.out).at hx
      simp at hva
      obtain ⟨rfl, rfl⟩ := hva
      obtain ⟨hxs, K, hK⟩ := HL.out x (List.mem_of_getElem? hx)
      have HK : Hid (signsOf (tl x) = some K) := hK
      have HX : Hid (L[i]? = some x) := hx
      have CX := C58 x (wr.alloc (.cells (madeCells #[.bool false] (M.length + 1)) 4)) hxs
      rw [hz]
      clear hz hK hx HR HB
      go_wp2_with fail
      refine CX.mono ?_
      rintro e w1 ⟨⟨vx, K', hK', rfl, hown, hKl⟩ | ⟨hno, rfl⟩, b1⟩
      rotate_left
      · rw [HK.out] at hno; cases hno
      have hKe : K' = K := by have := HK.out; rw [hK'] at this; exact Option.some.inj this
      subst hKe
      have HA2 : Hid (Row w1 A M.length (F (i + 1))) := HA1.out.below b1
      have HN2 : Hid (Row w1 wr.heap.size M.length (fun j => if M.length + 1 ≤ j then F i j else false)) := HN1.out.below b1
      have HB2 : Hid (Below w.heap.size w w1) := Below.up HB1.out b1
      have HO2 : Hid (HasK w1 vx K') := hown.has
      have HG : Hid (∀ g, vx.ownBlock = some g → g ≠ wr.heap.size) := by
        intro g hg
        have := (World.ownsRow.lt hown g hg).1
        simp at this
        omega
      obtain ⟨co, cap3, hvx⟩ := hown.has.form
      subst hvx
      obtain ⟨B, hB⟩ : ∃ B, wr.heap.size = B := ⟨_, rfl⟩
      have hwB : w.heap.size ≤ B := by omega
      rw [hB] at HN2 HG hAB ⊢
      clear HA1 HN1 HB1 b1 hown hK' CX hca hbs hB C58
      go_wp2
      go_loopw [10] (fun y wj => ∃ (m : Nat), y = .int .i64 ((m : Int) - 1) ∧ m ≤ M.length + 1 ∧ Hid (Row wj A M.length (F (i + 1))) ∧ Hid (Row wj B M.length (fun j => if m ≤ j then F i j else false)) ∧ Hid (Below w.heap.size w wj) ∧ Hid (HasK wj (.slice co K'.length cap3) K')) (fun y _ => iN y)
      case atStart => exact ⟨M.length + 1, by simp, Nat.le_refl _, HA2, HN2, HB2, HO2⟩
      case round =>
        clear HA2 HN2 HB2 HO2
        obtain ⟨m, rfl, hms, HA1, HN1, HB1, HO1⟩ := hrel
        cases m with
        | zero =>
          have hz : ((0 : Nat) : Int) - 1 = -1 := rfl
          have HR2 : Hid (Row wr B M.length (F i)) := HN1.out.congr (fun j _ => by rw [if_pos (Nat.zero_le _)])
          rw [hz]
          clear HN1 HA1
          go_wp2
          go_roundw
          case rel => exact ⟨B, i, rfl, rfl, by omega, hwB, HR2, HB1⟩
          case measure => simp
        | succ k =>
          have hz : ((k + 1 : Nat) : Int) - 1 = (k : Int) := by omega
          have z1 : (0 : Int) ≤ (k : Int) := by omega
          rw [hz]
          clear hz
          have hca : wr.cell? (a0.add i) = some (.string x) := by
            obtain ⟨a1, _, hva, hca⟩ := (HV.out.below HB1.out).at HX.out
            simp at hva
            obtain ⟨rfl, rfl⟩ := hva
            exact hca
          have n1 := HA1.out.cell (k := k) (by omega)
          obtain ⟨b2, n2⟩ : ∃ b, wr.cell? ⟨B, k, none⟩ = some (.bool b) := ⟨_, HN1.out.cell (k := k) (by omega)⟩
          have n3 := HN1.out.frozen k
          have STEP : Hid (∀ b W, F i k = b → Below wr.heap.size wr W → Hid (Row (W.setCell ⟨B, k, none⟩ (.bool b)) A M.length (F (i + 1))) ∧ Hid (Row (W.setCell ⟨B, k, none⟩ (.bool b)) B M.length (fun j => if k ≤ j then F i j else false)) ∧ Hid (Below w.heap.size w (W.setCell ⟨B, k, none⟩ (.bool b))) ∧ Hid (HasK (W.setCell ⟨B, k, none⟩ (.bool b)) (.slice co K'.length cap3) K')) :=
            fun b W hb hW => ⟨World.rowIs.setOther (HA1.out.below hW) (by show A ≠ B; omega) _, (HN1.out.below hW).step hb, (Below.up HB1.out hW).setCell (p := ⟨B, k, none⟩) (by show w.heap.size ≤ B; exact hwB) _, (HO1.out.below hW).set HG.out⟩
          by_cases hst : x.toList = [42, 42]
          · have b0 : (x.toList == [42, 42]) = true := by rw [hst]; rfl
            have hkk := starP_at HX.out
            rw [if_pos hst] at hkk
            clear hst
            by_cases hkn : k < M.length
            · have z2 : (k : Int) < (M.length : Int) := by omega
              have n4 : wr.cell? ⟨B, k + 1, none⟩ = some (.bool (F i (k + 1))) := by
                have := HN1.out.cell (k := k + 1) (by omega)
                rw [if_pos (Nat.le_refl _)] at this; exact this
              have HS := STEP.out _ wr ((congrFun (congrFun HF.out i) k).trans (tabF_star hkk (by rw [HLN.out.1]; omega))) (Below.refl _ _)
              rw [← HF.out] at HS
              clear STEP HA1 HN1 HB1 HV HF hkk HO1 C59
              cases hf : F (i + 1) k <;> rw [hf] at HS n1
              · rw [Bool.false_or] at HS
                have HS2 : Hid _ := HS
                clear HS hf
                go_wp2
                go_roundw
                case rel => exact ⟨k, rfl, by omega, HS2.out.1, HS2.out.2.1, HS2.out.2.2.1, HS2.out.2.2.2⟩
                case measure => simp
              · rw [Bool.true_or] at HS
                have HS2 : Hid _ := HS
                clear HS hf
                go_wp2
                go_roundw
                case rel => exact ⟨k, rfl, by omega, HS2.out.1, HS2.out.2.1, HS2.out.2.2.1, HS2.out.2.2.2⟩
                case measure => simp
            · have z2 : ¬ ((k : Int) < (M.length : Int)) := by omega
              have hke : k = M.length := by omega
              have HS := STEP.out (F (i + 1) k) wr (by rw [HF.out, hke, ← HLN.out.1]; exact tabF_star_end hkk) (Below.refl _ _)
              clear STEP HA1 HN1 HB1 HV HF hke hkk HO1 C59
              cases hf : F (i + 1) k <;> rw [hf] at HS n1
              · have HS2 : Hid _ := HS
                clear HS hf
                go_wp2
                go_roundw
                case rel => exact ⟨k, rfl, by omega, HS2.out.1, HS2.out.2.1, HS2.out.2.2.1, HS2.out.2.2.2⟩
                case measure => simp
              · have HS2 : Hid _ := HS
                clear HS hf
                go_wp2
                go_roundw
                case rel => exact ⟨k, rfl, by omega, HS2.out.1, HS2.out.2.1, HS2.out.2.2.1, HS2.out.2.2.2⟩
                case measure => simp
          · have b0 : (x.toList == [42, 42]) = false := by rw [beq_eq_false_iff_ne]; exact hst
            have hkk := starP_at HX.out
            rw [if_neg hst] at hkk
            clear hst
            by_cases hkn : k < M.length
            · have z2 : (k : Int) < (M.length : Int) := by omega
              have n4 := HA1.out.cell (k := k + 1) (by omega)
              obtain ⟨y, hy⟩ : ∃ y, M[k]? = some y := ⟨_, List.getElem?_eq_getElem hkn⟩
              have hy2 : (M.map tl)[k]? = some (tl y) := by rw [List.getElem?_map, hy]; rfl
              obtain ⟨a1, _, hvb, hcb⟩ := (HU.out.below HB1.out).at hy
              simp at hvb
              obtain ⟨rfl, rfl⟩ := hvb
              have hys := HM.out y (List.mem_of_getElem? hy)
              have hmb : matchB (tl x) (tl y) = fitG okB K' (tl y) := by unfold matchB; rw [HK.out]
              have HS := fun W hW => STEP.out _ W ((congrFun (congrFun HF.out i) k).trans (tabF_lit hkk hy2)) hW
              rw [← HF.out, hmb] at HS
              have CF := C59 (.slice co K'.length cap3) K' y wr HO1.out hys (by omega)
              obtain ⟨d, hd⟩ : ∃ d, fitG okB K' (tl y) = d := ⟨_, rfl⟩
              rw [hd] at CF HS
              have HN3 : Hid (∀ W, Below wr.heap.size wr W → (∃ b, W.cell? ⟨B, k, none⟩ = some (.bool b)) ∧ W.frozen? ⟨B, k, none⟩ = false) := fun W hW => ⟨⟨_, (HN1.out.below hW).cell (k := k) (by omega)⟩, (HN1.out.below hW).frozen k⟩
              clear STEP HA1 HN1 HB1 HV HF hkk HO1 C59 hy hy2 hmb hd
              cases hf : F (i + 1) (k + 1) <;> rw [hf] at HS n4
              · rw [Bool.and_false] at HS
                have HS2 : Hid _ := HS wr (Below.refl _ _)
                clear HS hf
                go_wp2
                go_roundw
                case rel => exact ⟨k, rfl, by omega, HS2.out.1, HS2.out.2.1, HS2.out.2.2.1, HS2.out.2.2.2⟩
                case measure => simp
              · rw [Bool.and_true] at HS
                have HS1 : Hid _ := HS
                clear HS hf
                go_wp2_with (go_at_call 72; refine CF.mono ?_; rintro e w2 ⟨rfl, b3⟩; obtain ⟨⟨b4, n5⟩, n6⟩ := HN3.out w2 b3; have HS2 : Hid _ := HS1.out w2 b3; clear b3)
                go_roundw
                case rel => exact ⟨k, rfl, by omega, HS2.out.1, HS2.out.2.1, HS2.out.2.2.1, HS2.out.2.2.2⟩
                case measure => simp
            · have z2 : ¬ ((k : Int) < (M.length : Int)) := by omega
              have hke : k = M.length := by omega
              have HS := STEP.out false wr (by rw [HF.out, hke, ← HLN.out.1]; exact tabF_lit_end hkk) (Below.refl _ _)
              have HS2 : Hid _ := HS
              clear STEP HA1 HN1 HB1 HV HF hke HS hkk HO1 C59
              go_wp2
              go_roundw
              case rel => exact ⟨k, rfl, by omega, HS2.out.1, HS2.out.2.1, HS2.out.2.2.1, HS2.out.2.2.2⟩
              case measure => simp
end Go.Proofs.YtpngnhpnjkepjaaGreatDoor
