/-
  What package strings does for package path: Count, Contains, TrimPrefix of one byte.
-/
import Derived.Test.YtpngnhpnjkepjaaDoorUnder
import Derived.Lib.Bytealg
namespace Go.Proofs.YtpngnhpnjkepjaaDoor
open Go.RowKit

set_option maxHeartbeats 1000000 in
set_option maxRecDepth 100000 in
theorem count_any (s : ByteArray) (w : World) :
    Calls Tryd.prog 60 #[.string s, .string ⟨#[47]⟩] w fun e w' => e = .returned (.int .i64 ((tl s).count 47 : Nat)) ∧ w' = w := by
  rw [show (tl s).count 47 = Lib.countByte s.data.toList (47 : Int).toNat.toUInt8 by rw [tl, ByteArray.toList_eq]; rfl]
  go_enter Tryd.func60, Tryd.ntmps60
  go_wp2
  rw [run_callFunc_extern Tryd.func78 (by kernel_rfl) (by kernel_rfl) (by kernel_rfl) (e := Extern.BytealgCount.count) (by kernel_rfl), Lib.run_countString]
  simp only [Result.andThen]
  rw [Oper.upon_value]
  go_wp2
  go_ret
  exact ⟨rfl, rfl⟩

set_option maxHeartbeats 1000000 in
set_option maxRecDepth 100000 in
theorem indexByte_any (s : ByteArray) (w : World) :
    Calls Tryd.prog 94 #[.string s, .int .u8 47] w fun e w' => e = .returned (.int .i64 (Lib.indexByte s.data.toList (47 : Int).toNat.toUInt8)) ∧ w' = w := by
  go_enter Tryd.func94, Tryd.ntmps94
  go_wp2
  rw [run_callFunc_extern Tryd.func104 (by kernel_rfl) (by kernel_rfl) (by kernel_rfl) (e := Extern.BytealgIndexByte.indexByte) (by kernel_rfl), Lib.run_indexByteString]
  simp only [Result.andThen]
  rw [Oper.upon_value]
  go_wp2
  go_ret
  exact ⟨rfl, rfl⟩
theorem indexByte_iff : ∀ l : By, 0 ≤ Lib.indexByte l 47 ↔ (47 : UInt8) ∈ l
  | [] => by simp [Lib.indexByte]
  | x :: l => by
    have ih := indexByte_iff l
    have hge := Lib.indexByte_ge l 47
    unfold Lib.indexByte
    by_cases h : x = 47
    · subst h; simp
    · rw [if_neg (by simpa using h)]
      have h' : ¬ (47 : UInt8) = x := fun e => h e.symm
      simp only [List.mem_cons, h', false_or]
      rw [← ih]
      split
      · rename_i q; simp at q; rw [q]
      · rename_i q; simp at q; omega
set_option maxHeartbeats 1000000 in
set_option maxRecDepth 100000 in
theorem sIndex_any (s : ByteArray) (w : World) :
    Calls Tryd.prog 80 #[.string s, .string ⟨#[47]⟩] w fun e w' => e = .returned (.int .i64 (Lib.indexByte s.data.toList 47)) ∧ w' = w := by
  have C := fun W => indexByte_any s W
  rw [show (47 : Int).toNat.toUInt8 = (47 : UInt8) from rfl] at C
  go_enter Tryd.func80, Tryd.ntmps80
  go_wp2_with (go_at_call 94; refine (C _).mono ?_; rintro e w' ⟨rfl, rfl⟩)
  · have h : ([47] == s.toList) = true := by assumption
    go_ret
    refine ⟨?_, rfl⟩
    have e : s.data.toList = [47] := by rw [← ByteArray.toList_eq]; exact (beq_iff_eq.1 h).symm
    rw [e]
    simp [Lib.indexByte]
  · go_ret
    exact ⟨rfl, rfl⟩
set_option maxHeartbeats 1000000 in
set_option maxRecDepth 100000 in
theorem anchored_any (s : ByteArray) (w : World) :
    Calls Tryd.prog 70 #[.string s] w fun e w' => e = .returned (.bool (decide ((47 : UInt8) ∈ tl s))) ∧ w' = w := by
  have C := fun W => sIndex_any s W
  have h := indexByte_iff s.data.toList
  have e : decide ((47 : UInt8) ∈ tl s) = decide (0 ≤ Lib.indexByte s.data.toList 47) := by
    rw [tl, ByteArray.toList_eq]
    exact decide_eq_decide.2 h.symm
  rw [e]
  clear e h
  generalize Lib.indexByte s.data.toList 47 = z at *
  go_enter Tryd.func70, Tryd.ntmps70
  go_wp2_with (first
    | (go_at_call 80; refine (C _).mono ?_; rintro e w' ⟨rfl, rfl⟩)
    | go_in)
  go_ret
  exact ⟨rfl, rfl⟩
set_option maxHeartbeats 1000000 in
set_option maxRecDepth 100000 in
theorem countPieces_any (s : ByteArray) (w : World) (hs : s.size ≤ 1152921504606846976) :
    Calls Tryd.prog 40 #[.string s] w fun e w' => e = .returned (.int .i64 ((pieces (tl s)).length : Nat)) ∧ w' = w := by
  have C := fun W => count_any s W
  have hc : (tl s).count 47 ≤ s.size := by rw [← tl_len]; exact List.count_le_length
  by_cases h0 : s.toList = []
  · have b0 : s.toList.isEmpty = true := by simpa using h0
    rw [show pieces (tl s) = [] by unfold pieces; rw [if_pos h0]]
    go_enter Tryd.func40, Tryd.ntmps40
    go_wp2
    go_ret
    exact ⟨rfl, rfl⟩
  · have b0 : s.toList.isEmpty = false := by simpa using h0
    rw [show (pieces (tl s)).length = (tl s).count 47 + 1 by unfold pieces; rw [if_neg h0, cuts_len]]
    generalize (tl s).count 47 = z at *
    go_enter Tryd.func40, Tryd.ntmps40
    go_wp2_with (go_at_call 60; refine (C _).mono ?_; rintro e w' ⟨rfl, rfl⟩)
    go_ret
    exact ⟨rfl, rfl⟩
/-- a pattern without the '/' at its beginning -/
def trimmed (l : By) : By := match l with | [] => [] | x :: xs => if x = 47 then xs else x :: xs
set_option maxHeartbeats 1000000 in
set_option maxRecDepth 100000 in
theorem trim_any (s : ByteArray) (w : World) (hs : s.size ≤ 1152921504606846976) :
    Calls Tryd.prog 83 #[.string s, .string ⟨#[47]⟩] w fun e w' => (∃ t : ByteArray, e = .returned (.string t) ∧ tl t = trimmed (tl s)) ∧ w' = w := by
  by_cases h : ∃ r, tl s = tl ⟨#[47]⟩ ++ r
  · obtain ⟨r, hr⟩ := h
    have C := fun W => hasPrefix_yes s ⟨#[47]⟩ r W hs hr
    have h1 := congrArg List.length hr
    rw [List.length_append, tl_len, tl_len, show ByteArray.size ⟨#[47]⟩ = 1 from rfl] at h1
    have i1 : (1 : Int) ≤ (s.size : Int) := by omega
    have HT : Hid (tl (s.extract 1 s.size) = trimmed (tl s)) := by
      show _ = _
      rw [tl_extract, hr]
      simp [tl, ByteArray.toList_eq, trimmed]
      rw [List.take_of_length_le (by omega)]
    clear hr h1
    go_enter Tryd.func83, Tryd.ntmps83
    go_wp2_with (first
      | (go_at_call 98; refine (C _).mono ?_; rintro e w' ⟨rfl, rfl⟩)
      | go_in)
    go_ret
    exact ⟨⟨_, rfl, HT.out⟩, rfl⟩
  · have C := fun W => hasPrefix_no s ⟨#[47]⟩ W hs (by show 1 ≤ _; omega) (fun r q => h ⟨r, q⟩)
    have HT : Hid (tl s = trimmed (tl s)) := by
      show _ = _
      cases e : tl s with
      | nil => rfl
      | cons x xs =>
        unfold trimmed
        by_cases hx : x = 47
        · subst hx; exact absurd ⟨xs, by rw [e]; simp [tl, ByteArray.toList_eq]⟩ h
        · simp [hx]
    clear h
    go_enter Tryd.func83, Tryd.ntmps83
    go_wp2_with (first
      | (go_at_call 98; refine (C _).mono ?_; rintro e w' ⟨rfl, rfl⟩)
      | go_in)
    go_ret
    exact ⟨⟨_, rfl, HT.out⟩, rfl⟩
end Go.Proofs.YtpngnhpnjkepjaaDoor
