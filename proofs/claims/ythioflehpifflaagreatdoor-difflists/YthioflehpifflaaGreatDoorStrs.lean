/-
  What package strings does for package path: Count, Contains, TrimPrefix of one byte.
-/
import Derived.Test.YthioflehpifflaaGreatDoorRefPieces
import Derived.Lib.Bytealg
namespace Go.Proofs.YthioflehpifflaaGreatDoor
open Go.RowKit

set_option maxHeartbeats 1000000 in
set_option maxRecDepth 100000 in
theorem count_any (s : ByteArray) (w : World) :
    Calls Tryz.prog 124 #[.string s, .string ⟨#[47]⟩] w fun e w' => e = .returned (.int .i64 ((tl s).count 47 : Nat)) ∧ w' = w := by
  rw [show (tl s).count 47 = Lib.countByte s.data.toList (47 : Int).toNat.toUInt8 by rw [tl, ByteArray.toList_eq]; rfl]
  go_enter Tryz.func124, Tryz.ntmps124
  go_wp2
  rw [run_callFunc_extern Tryz.func131 (by kernel_rfl) (by kernel_rfl) (by kernel_rfl) (e := Extern.BytealgCount.count) (by kernel_rfl), Lib.run_countString]
  simp only [Result.andThen]
  rw [Oper.upon_value]
  go_wp2
  go_ret
  exact ⟨rfl, rfl⟩

set_option maxHeartbeats 1000000 in
set_option maxRecDepth 100000 in
theorem countPieces_any (s : ByteArray) (w : World) (hs : s.size ≤ 1152921504606846976) :
    Calls Tryz.prog 85 #[.string s] w fun e w' => e = .returned (.int .i64 ((pieces (tl s)).length : Nat)) ∧ w' = w := by
  have C := fun W => count_any s W
  have hc : (tl s).count 47 ≤ s.size := by rw [← tl_len]; exact List.count_le_length
  by_cases h0 : s.toList = []
  · have b0 : s.toList.isEmpty = true := by simpa using h0
    rw [show pieces (tl s) = [] by unfold pieces; rw [if_pos h0]]
    go_enter Tryz.func85, Tryz.ntmps85
    go_wp2
    go_ret
    exact ⟨rfl, rfl⟩
  · have b0 : s.toList.isEmpty = false := by simpa using h0
    rw [show (pieces (tl s)).length = (tl s).count 47 + 1 by unfold pieces; rw [if_neg h0, cuts_len]]
    generalize (tl s).count 47 = z at *
    go_enter Tryz.func85, Tryz.ntmps85
    go_wp2_with (go_at_call 124; refine (C _).mono ?_; rintro e w' ⟨rfl, rfl⟩)
    go_ret
    exact ⟨rfl, rfl⟩
end Go.Proofs.YthioflehpifflaaGreatDoor
