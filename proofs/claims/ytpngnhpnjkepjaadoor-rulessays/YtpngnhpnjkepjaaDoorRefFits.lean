/-
  the reference's fits.
-/
import Derived.Test.YtpngnhpnjkepjaaDoorTab
import Derived.BigRegion
namespace Go.Proofs.YtpngnhpnjkepjaaDoor
open Go.RowKit

theorem Tryd.info4 : (Tryd.prog.info? 4).map (fun i => (i.zero, i.size, i.bytes)) = some (some (.bool false), 1, 1) := by kernel_rfl
theorem make71 (n : Nat) (hn : n ≤ 1048577) (w : World) : (Instr.makeSlice 108 (.int .i64 ((n : Int) + 1)) (.int .i64 ((n : Int) + 1))).run Tryd.prog w = .ok (.slice (some ⟨w.heap.size, 0, none⟩) (n + 1) (n + 1)) (w.alloc (.cells (madeCells #[.bool false] (n + 1)) 4)) :=
  run_make_row' (P := Tryd.prog) 108 4 (.bool false) 1 Tryd.underlying108 Tryd.info4 rfl .i64 .i64 (n + 1) (by omega) (by omega) w

/-- a number that falls to -1, as a measure -/
def iN (v : Value) : Nat := match v with | .int _ i => (i + 1).toNat | _ => 0
@[simp] theorem iN_int (k : IntKind) (i : Int) : iN (.int k i) = (i + 1).toNat := rfl

set_option maxHeartbeats 4000000 in
set_option maxRecDepth 100000 in
theorem fits_any (v : Value) (K : List Sg) (s : ByteArray) (w : World) (hv : HasK w v K) (hs : s.size ≤ 1048576) (hK : K.length ≤ 1048576) :
    Calls Tryd.prog 64 #[v, .string s] w fun e w' => e = .returned (.bool (fitG okB K (tl s))) ∧ Below w.heap.size w w' := by
  have hlen := tl_len s
  have hmk := make71 s.size (by omega)
  have HV : Hid (HasK w v K) := hv
  obtain ⟨ao, cap, rfl⟩ := hv.form
  clear hv
  obtain ⟨F, HF⟩ : ∃ F : Nat → Nat → Bool, Hid (F = tabF okB K (tl s)) := ⟨_, rfl⟩
  have c0 : (w.alloc (.cells (madeCells #[.bool false] (s.size + 1)) 4)).cell? ⟨w.heap.size, s.size, none⟩ = some (.bool false) := (Row.made w s.size).cell (Nat.le_refl _)
  have f0 := (Row.made w s.size).frozen s.size
  have HR0 : Hid (Row ((w.alloc (.cells (madeCells #[.bool false] (s.size + 1)) 4)).setCell ⟨w.heap.size, s.size, none⟩ (.bool true)) w.heap.size s.size (F K.length)) := by
    refine ((Row.made w s.size).set s.size true).congr (fun j hj => ?_)
    rw [HF.out, tabF_last (by rw [hlen]; exact hj), hlen]
    by_cases e : j = s.size <;> simp [e]
  have HB0 : Hid (Below w.heap.size w ((w.alloc (.cells (madeCells #[.bool false] (s.size + 1)) 4)).setCell ⟨w.heap.size, s.size, none⟩ (.bool true))) := ((Below.refl _ w).alloc (Nat.le_refl _) _).setCell (p := ⟨w.heap.size, s.size, none⟩) (by simp) _
  have E0 : (w.alloc (.cells (madeCells #[.bool false] (s.size + 1)) 4)).setCell ⟨w.heap.size, s.size, none⟩ (.bool true) = w.alloc (.cells ((madeCells #[.bool false] (s.size + 1)).setIfInBounds s.size (.bool true)) 4) := World.setCell_alloc_new _ _ _ _
  rw [E0] at HR0 HB0
  clear E0
  go_enter Tryd.func64, Tryd.ntmps64
  go_wp2
  clear c0 f0
  go_loopw [5, 6] (fun t x wr => ∃ (A m : Nat), t = .slice (some ⟨A, 0, none⟩) (s.size + 1) (s.size + 1) ∧ x = .int .i64 ((m : Int) - 1) ∧ m ≤ K.length ∧ w.heap.size ≤ A ∧ Hid (Row wr A s.size (F m)) ∧ Hid (Below w.heap.size w wr)) (fun _ x _ => iN x)
  case atStart => exact ⟨_, K.length, rfl, rfl, Nat.le_refl _, Nat.le_refl _, HR0, HB0⟩
  case round =>
    clear HR0 HB0
    obtain ⟨A, m, rfl, rfl, hm, hA, HR, HB⟩ := hrel
    cases m with
    | zero =>
      have c0 := HR.out.cell (Nat.zero_le _)
      have HE : Hid (F 0 0 = fitG okB K (tl s)) := by show _ = _; rw [HF.out, tabF_zero]
      have hz : ((0 : Nat) : Int) - 1 = -1 := rfl
      clear HF
      rw [hz]
      go_wp2
      go_ret
      exact ⟨congrArg (fun b => Ending.returned (.bool b)) HE.out, HB.out⟩
    | succ i =>
      have hz : ((i + 1 : Nat) : Int) - 1 = (i : Int) := by omega
      have z0 : (0 : Int) ≤ (i : Int) := by omega
      rw [hz]
      clear hz
      go_wp2
      have hbs := HB.out.size
      have HA1 : Hid (Row (wr.alloc (.cells (madeCells #[.bool false] (s.size + 1)) 4)) A s.size (F (i + 1))) := World.rowIs.alloc HR.out _
      have HN1 : Hid (Row (wr.alloc (.cells (madeCells #[.bool false] (s.size + 1)) 4)) wr.heap.size s.size (fun j => if s.size + 1 ≤ j then F i j else false)) := (Row.made wr s.size).congr (fun j hj => by rw [if_neg (by omega)])
      have HB1 : Hid (Below w.heap.size w (wr.alloc (.cells (madeCells #[.bool false] (s.size + 1)) 4))) := HB.out.alloc hbs _
      obtain ⟨B, hB⟩ : ∃ B, wr.heap.size = B := ⟨_, rfl⟩
      have hAB : A < B := by rw [← hB]; exact World.rowIs.lt HR.out
      have hwB : w.heap.size ≤ B := by omega
      generalize wr.alloc (.cells (madeCells #[.bool false] (s.size + 1)) 4) = wi at *
      rw [hB] at HN1 ⊢
      clear HR HB hB hbs
      go_loopw [8] (fun y wj => ∃ (m : Nat), y = .int .i64 ((m : Int) - 1) ∧ m ≤ s.size + 1 ∧ Hid (Row wj A s.size (F (i + 1))) ∧ Hid (Row wj B s.size (fun j => if m ≤ j then F i j else false)) ∧ Hid (Below w.heap.size w wj)) (fun y _ => iN y)
      case atStart => exact ⟨s.size + 1, by simp, Nat.le_refl _, HA1, HN1, HB1⟩
      case round =>
        clear HA1 HN1 HB1
        obtain ⟨m, rfl, hms, HA1, HN1, HB1⟩ := hrel
        cases m with
        | zero =>
          have hz : ((0 : Nat) : Int) - 1 = -1 := rfl
          have HR2 : Hid (Row wr B s.size (F i)) := HN1.out.congr (fun j _ => by rw [if_pos (Nat.zero_le _)])
          rw [hz]
          clear HN1 HA1
          go_wp2
          go_roundw
          case rel => exact ⟨B, i, rfl, rfl, by omega, hwB, HR2, HB1⟩
          case measure => simp
        | succ k =>
          have hz : ((k + 1 : Nat) : Int) - 1 = (k : Int) := by omega
          have z1 : (0 : Int) ≤ (k : Int) := by omega
          rw [hz]
          clear hz
          obtain ⟨kk, hkk⟩ : ∃ kk, K[i]? = some kk := ⟨_, List.getElem?_eq_getElem (by omega)⟩
          obtain ⟨a0, _, hva, hca⟩ := (HV.out.below HB1.out).at hkk
          simp at hva
          obtain ⟨rfl, rfl⟩ := hva
          have n1 := HA1.out.cell (k := k) (by omega)
          have n2 : ∃ b, wr.cell? ⟨B, k, none⟩ = some (.bool b) := ⟨_, HN1.out.cell (k := k) (by omega)⟩
          obtain ⟨b2, n2⟩ := n2
          have n3 := HN1.out.frozen k
          have STEP : Hid (∀ b, F i k = b → Row (wr.setCell ⟨B, k, none⟩ (.bool b)) A s.size (F (i + 1)) ∧ Row (wr.setCell ⟨B, k, none⟩ (.bool b)) B s.size (fun j => if k ≤ j then F i j else false) ∧ Below w.heap.size w (wr.setCell ⟨B, k, none⟩ (.bool b))) :=
            fun b hb => ⟨World.rowIs.setOther HA1.out (by show A ≠ B; omega) _, HN1.out.step hb, HB1.out.setCell (p := ⟨B, k, none⟩) (by show w.heap.size ≤ B; exact hwB) _⟩
          rcases kk with _ | kk
          · have s0 : wr.cell? ⟨a0, i * 3, none⟩ = some (.bool true) := hca 0 _ rfl
            clear hca
            by_cases hkn : k < s.size
            · have z2 : (k : Int) < (s.size : Int) := by omega
              have n4 : wr.cell? ⟨B, k + 1, none⟩ = some (.bool (F i (k + 1))) := by
                have := HN1.out.cell (k := k + 1) (by omega)
                rw [if_pos (Nat.le_refl _)] at this; exact this
              have HS := STEP.out _ ((congrFun (congrFun HF.out i) k).trans (tabF_star hkk (by omega)))
              rw [← HF.out] at HS
              clear STEP HA1 HN1 HB1 HV HF
              cases hf : F (i + 1) k <;> rw [hf] at HS n1
              · rw [Bool.false_or] at HS
                have HS2 : Hid _ := HS
                clear HS hf
                go_wp2
                go_roundw
                case rel => exact ⟨k, rfl, by omega, HS2.out.1, HS2.out.2.1, HS2.out.2.2⟩
                case measure => simp
              · rw [Bool.true_or] at HS
                have HS2 : Hid _ := HS
                clear HS hf
                go_wp2
                go_roundw
                case rel => exact ⟨k, rfl, by omega, HS2.out.1, HS2.out.2.1, HS2.out.2.2⟩
                case measure => simp
            · have z2 : ¬ ((k : Int) < (s.size : Int)) := by omega
              have hke : k = s.size := by omega
              have HS := STEP.out (F (i + 1) k) (by rw [HF.out, hke, ← hlen]; exact tabF_star_end hkk)
              clear STEP HA1 HN1 HB1 HV HF hke
              cases hf : F (i + 1) k <;> rw [hf] at HS n1
              · have HS2 : Hid _ := HS
                clear HS hf
                go_wp2
                go_roundw
                case rel => exact ⟨k, rfl, by omega, HS2.out.1, HS2.out.2.1, HS2.out.2.2⟩
                case measure => simp
              · have HS2 : Hid _ := HS
                clear HS hf
                go_wp2
                go_roundw
                case rel => exact ⟨k, rfl, by omega, HS2.out.1, HS2.out.2.1, HS2.out.2.2⟩
                case measure => simp
          · have s0 : wr.cell? ⟨a0, i * 3, none⟩ = some (.bool false) := by rcases kk with _ | c <;> exact hca 0 _ rfl
            by_cases hkn : k < s.size
            · have z2 : (k : Int) < (s.size : Int) := by omega
              have n4 := HA1.out.cell (k := k + 1) (by omega)
              have hx := tl_at s k hkn
              have HS := STEP.out _ ((congrFun (congrFun HF.out i) k).trans (tabF_lit hkk hx))
              rw [← HF.out] at HS
              clear STEP HA1 HN1 HB1 HV HF hx
              cases hf : F (i + 1) (k + 1) <;> rw [hf] at HS n4
              · rw [Bool.and_false] at HS
                have HS2 : Hid _ := HS
                clear HS hf hca
                go_wp2_with fail
                go_region
                all_goals
                  go_wp2
                  go_roundw
                  case rel => exact ⟨k, rfl, by omega, HS2.out.1, HS2.out.2.1, Below.drews HS2.out.2.2 ⟨1, rfl⟩⟩
                  case measure => simp
              · rw [Bool.and_true] at HS
                rcases kk with _ | c
                · have s1 : wr.cell? ⟨a0, i * 3 + 1, none⟩ = some (.bool true) := hca 1 _ rfl
                  rw [show okB none s[k] = true from rfl] at HS
                  have HS2 : Hid _ := HS
                  clear HS hf hca
                  go_wp2_with fail
                  go_region
                  all_goals
                    go_wp2
                    go_roundw
                    case rel => exact ⟨k, rfl, by omega, HS2.out.1, HS2.out.2.1, Below.drews HS2.out.2.2 ⟨1, rfl⟩⟩
                    case measure => simp
                · have s1 : wr.cell? ⟨a0, i * 3 + 1, none⟩ = some (.bool false) := hca 1 _ rfl
                  have s2 : wr.cell? ⟨a0, i * 3 + 2, none⟩ = some (.int .u8 (c.toNat : Int)) := hca 2 _ rfl
                  obtain ⟨d, hd⟩ : ∃ d, okB (some c) s[k] = d := ⟨_, rfl⟩
                  have hd2 : ((c.toNat : Int) == ((s[k]'hkn).toNat : Int)) = d := by
                    rw [← hd]
                    show _ = (c == s[k])
                    by_cases e : c = s[k]
                    · rw [e]; simp
                    · rw [beq_eq_false_iff_ne.2 e, beq_eq_false_iff_ne]
                      intro q; exact e (UInt8.toNat_inj.1 (by omega))
                  rw [hd] at HS
                  clear hd
                  have HS2 : Hid _ := HS
                  clear HS hf hca
                  go_wp2_with fail
                  go_region
                  all_goals
                    go_wp2
                    go_roundw
                    case rel => exact ⟨k, rfl, by omega, HS2.out.1, HS2.out.2.1, Below.drews HS2.out.2.2 ⟨1, rfl⟩⟩
                    case measure => simp
            · have z2 : ¬ ((k : Int) < (s.size : Int)) := by omega
              have hke : k = s.size := by omega
              have HS := STEP.out false (by rw [HF.out, hke, ← hlen]; exact tabF_lit_end hkk)
              have HS2 : Hid _ := HS
              clear STEP HA1 HN1 HB1 HV HF hke HS hca
              go_wp2_with fail
              go_region
              all_goals
                go_wp2
                go_roundw
                case rel => exact ⟨k, rfl, by omega, HS2.out.1, HS2.out.2.1, Below.drews HS2.out.2.2 ⟨1, rfl⟩⟩
                case measure => simp
end Go.Proofs.YtpngnhpnjkepjaaDoor
