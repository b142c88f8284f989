/-
  What package strings does for package path: Count, Contains, TrimPrefix of one byte.
-/
import Derived.Test.YtpngnhpnjkepjaaGreatDoorBase
import Derived.Lib.Bytealg
namespace Go.Proofs.YtpngnhpnjkepjaaGreatDoor
open Go.RowKit

/-- is p root, or below it? -/
noncomputable def underB (p root : By) : Bool := @decide (underL p root) (Classical.propDecidable _)
theorem underB_iff {p root : By} : underB p root = true ↔ underL p root := by unfold underB; simp

theorem hasPrefix_yes (a p : ByteArray) (r : By) (w : World) (_ha : a.size ≤ 1152921504606846976) (h : tl a = tl p ++ r) :
    Calls Tryz.prog 150 #[.string a, .string p] w fun e w' => e = .returned (.bool true) ∧ w' = w := by
  have h1 := congrArg List.length h
  rw [List.length_append, tl_len, tl_len] at h1
  have i1 : (p.size : Int) ≤ (a.size : Int) := by omega
  have e1 : (a.extract 0 p.size).toList = p.toList := by
    have := tl_extract a 0 p.size
    rw [h] at this
    simp only [tl] at this
    rw [this]
    have hl := tl_len p
    simp only [tl] at hl
    simp [List.drop_zero, ← hl]
  have e2 : ((a.extract 0 p.size).toList == p.toList) = true := by simpa using e1
  go_enter Tryz.func150, Tryz.ntmps150
  go_wp2
  go_ret
  exact ⟨rfl, rfl⟩
theorem hasPrefix_no (a p : ByteArray) (w : World) (_ha : a.size ≤ 1152921504606846976) (_hp : p.size ≤ 1152921504606846976) (h : ∀ r, tl a ≠ tl p ++ r) :
    Calls Tryz.prog 150 #[.string a, .string p] w fun e w' => e = .returned (.bool false) ∧ w' = w := by
  by_cases hl : p.size ≤ a.size
  · have i1 : (p.size : Int) ≤ (a.size : Int) := by omega
    have e1 : (a.extract 0 p.size).toList ≠ p.toList := by
      intro e
      have h2 := tl_extract a 0 p.size
      simp only [tl] at h2
      rw [e] at h2
      refine h ((tl a).drop p.size) ?_
      have : tl p = (tl a).take p.size := by simp only [tl]; rw [h2]; simp
      rw [this, List.take_append_drop]
    have e2 : ((a.extract 0 p.size).toList == p.toList) = false := by simpa using e1
    go_enter Tryz.func150, Tryz.ntmps150
    go_wp2
    go_ret
    exact ⟨rfl, rfl⟩
  · have i1 : ¬ ((p.size : Int) ≤ (a.size : Int)) := by omega
    go_enter Tryz.func150, Tryz.ntmps150
    go_wp2
    go_ret
    exact ⟨rfl, rfl⟩
set_option maxHeartbeats 400000 in
theorem cutPrefix_yes (a p : ByteArray) (r : By) (w : World) (ha : a.size ≤ 1152921504606846976) (h : tl a = tl p ++ r) :
    Calls Tryz.prog 83 #[.string a, .string p] w fun e w' => e = .returned (.tuple #[.string (a.extract p.size a.size), .bool true]) ∧ w' = w := by
  have C := fun W => hasPrefix_yes a p r W ha h
  have h1 := congrArg List.length h
  rw [List.length_append, tl_len, tl_len] at h1
  have i1 : (p.size : Int) ≤ (a.size : Int) := by omega
  clear h h1
  go_enter Tryz.func83, Tryz.ntmps83
  go_wp2_with (first
    | (go_at_call 150; refine (C _).mono ?_; rintro e w1 ⟨rfl, rfl⟩)
    | go_in)
  go_ret2
  exact ⟨rfl, rfl⟩
set_option maxHeartbeats 400000 in
theorem cutPrefix_no (a p : ByteArray) (w : World) (ha : a.size ≤ 1152921504606846976) (hp : p.size ≤ 1152921504606846976) (h : ∀ r, tl a ≠ tl p ++ r) :
    Calls Tryz.prog 83 #[.string a, .string p] w fun e w' => e = .returned (.tuple #[.string a, .bool false]) ∧ w' = w := by
  have C := fun W => hasPrefix_no a p W ha hp h
  clear h
  go_enter Tryz.func83, Tryz.ntmps83
  go_wp2_with (first
    | (go_at_call 150; refine (C _).mono ?_; rintro e w1 ⟨rfl, rfl⟩)
    | go_in)
  go_ret2
  exact ⟨rfl, rfl⟩
end Go.Proofs.YtpngnhpnjkepjaaGreatDoor
namespace Go.Proofs.YtpngnhpnjkepjaaGreatDoor
open Go.RowKit

set_option maxHeartbeats 1000000 in
set_option maxRecDepth 100000 in
theorem count_any (s : ByteArray) (w : World) :
    Calls Tryz.prog 81 #[.string s, .string ⟨#[47]⟩] w fun e w' => e = .returned (.int .i64 ((tl s).count 47 : Nat)) ∧ w' = w := by
  rw [show (tl s).count 47 = Lib.countByte s.data.toList (47 : Int).toNat.toUInt8 by rw [tl, ByteArray.toList_eq]; rfl]
  go_enter Tryz.func81, Tryz.ntmps81
  go_wp2
  rw [run_callFunc_extern Tryz.func126 (by kernel_rfl) (by kernel_rfl) (by kernel_rfl) (e := Extern.BytealgCount.count) (by kernel_rfl), Lib.run_countString]
  simp only [Result.andThen]
  rw [Oper.upon_value]
  go_wp2
  go_ret
  exact ⟨rfl, rfl⟩

set_option maxHeartbeats 1000000 in
set_option maxRecDepth 100000 in
theorem indexByte_any (s : ByteArray) (w : World) :
    Calls Tryz.prog 146 #[.string s, .int .u8 47] w fun e w' => e = .returned (.int .i64 (Lib.indexByte s.data.toList (47 : Int).toNat.toUInt8)) ∧ w' = w := by
  go_enter Tryz.func146, Tryz.ntmps146
  go_wp2
  rw [run_callFunc_extern Tryz.func159 (by kernel_rfl) (by kernel_rfl) (by kernel_rfl) (e := Extern.BytealgIndexByte.indexByte) (by kernel_rfl), Lib.run_indexByteString]
  simp only [Result.andThen]
  rw [Oper.upon_value]
  go_wp2
  go_ret
  exact ⟨rfl, rfl⟩
theorem indexByte_iff : ∀ l : By, 0 ≤ Lib.indexByte l 47 ↔ (47 : UInt8) ∈ l
  | [] => by simp [Lib.indexByte]
  | x :: l => by
    have ih := indexByte_iff l
    have hge := Lib.indexByte_ge l 47
    unfold Lib.indexByte
    by_cases h : x = 47
    · subst h; simp
    · rw [if_neg (by simpa using h)]
      have h' : ¬ (47 : UInt8) = x := fun e => h e.symm
      simp only [List.mem_cons, h', false_or]
      rw [← ih]
      split
      · rename_i q; simp at q; rw [q]
      · rename_i q; simp at q; omega
set_option maxHeartbeats 1000000 in
set_option maxRecDepth 100000 in
theorem sIndex_any (s : ByteArray) (w : World) :
    Calls Tryz.prog 127 #[.string s, .string ⟨#[47]⟩] w fun e w' => e = .returned (.int .i64 (Lib.indexByte s.data.toList 47)) ∧ w' = w := by
  have C := fun W => indexByte_any s W
  rw [show (47 : Int).toNat.toUInt8 = (47 : UInt8) from rfl] at C
  go_enter Tryz.func127, Tryz.ntmps127
  go_wp2_with (go_at_call 146; refine (C _).mono ?_; rintro e w' ⟨rfl, rfl⟩)
  · have h : ([47] == s.toList) = true := by assumption
    go_ret
    refine ⟨?_, rfl⟩
    have e : s.data.toList = [47] := by rw [← ByteArray.toList_eq]; exact (beq_iff_eq.1 h).symm
    rw [e]
    simp [Lib.indexByte]
  · go_ret
    exact ⟨rfl, rfl⟩
set_option maxHeartbeats 1000000 in
set_option maxRecDepth 100000 in
theorem anchored_any (s : ByteArray) (w : World) :
    Calls Tryz.prog 87 #[.string s] w fun e w' => e = .returned (.bool (decide ((47 : UInt8) ∈ tl s))) ∧ w' = w := by
  have C := fun W => sIndex_any s W
  have h := indexByte_iff s.data.toList
  have e : decide ((47 : UInt8) ∈ tl s) = decide (0 ≤ Lib.indexByte s.data.toList 47) := by
    rw [tl, ByteArray.toList_eq]
    exact decide_eq_decide.2 h.symm
  rw [e]
  clear e h
  generalize Lib.indexByte s.data.toList 47 = z at *
  go_enter Tryz.func87, Tryz.ntmps87
  go_wp2_with (first
    | (go_at_call 127; refine (C _).mono ?_; rintro e w' ⟨rfl, rfl⟩)
    | go_in)
  go_ret
  exact ⟨rfl, rfl⟩
set_option maxHeartbeats 1000000 in
set_option maxRecDepth 100000 in
theorem countPieces_any (s : ByteArray) (w : World) (hs : s.size ≤ 1152921504606846976) :
    Calls Tryz.prog 134 #[.string s] w fun e w' => e = .returned (.int .i64 ((pieces (tl s)).length : Nat)) ∧ w' = w := by
  have C := fun W => count_any s W
  have hc : (tl s).count 47 ≤ s.size := by rw [← tl_len]; exact List.count_le_length
  by_cases h0 : s.toList = []
  · have b0 : s.toList.isEmpty = true := by simpa using h0
    rw [show pieces (tl s) = [] by unfold pieces; rw [if_pos h0]]
    go_enter Tryz.func134, Tryz.ntmps134
    go_wp2
    go_ret
    exact ⟨rfl, rfl⟩
  · have b0 : s.toList.isEmpty = false := by simpa using h0
    rw [show (pieces (tl s)).length = (tl s).count 47 + 1 by unfold pieces; rw [if_neg h0, cuts_len]]
    generalize (tl s).count 47 = z at *
    go_enter Tryz.func134, Tryz.ntmps134
    go_wp2_with (go_at_call 81; refine (C _).mono ?_; rintro e w' ⟨rfl, rfl⟩)
    go_ret
    exact ⟨rfl, rfl⟩
/-- a pattern without the '/' at its beginning -/
def trimmed (l : By) : By := match l with | [] => [] | x :: xs => if x = 47 then xs else x :: xs
set_option maxHeartbeats 1000000 in
set_option maxRecDepth 100000 in
theorem trim_any (s : ByteArray) (w : World) (hs : s.size ≤ 1152921504606846976) :
    Calls Tryz.prog 130 #[.string s, .string ⟨#[47]⟩] w fun e w' => (∃ t : ByteArray, e = .returned (.string t) ∧ tl t = trimmed (tl s)) ∧ w' = w := by
  by_cases h : ∃ r, tl s = tl ⟨#[47]⟩ ++ r
  · obtain ⟨r, hr⟩ := h
    have C := fun W => hasPrefix_yes s ⟨#[47]⟩ r W hs hr
    have h1 := congrArg List.length hr
    rw [List.length_append, tl_len, tl_len, show ByteArray.size ⟨#[47]⟩ = 1 from rfl] at h1
    have i1 : (1 : Int) ≤ (s.size : Int) := by omega
    have HT : Hid (tl (s.extract 1 s.size) = trimmed (tl s)) := by
      show _ = _
      rw [tl_extract, hr]
      simp [tl, ByteArray.toList_eq, trimmed]
      rw [List.take_of_length_le (by omega)]
    clear hr h1
    go_enter Tryz.func130, Tryz.ntmps130
    go_wp2_with (first
      | (go_at_call 150; refine (C _).mono ?_; rintro e w' ⟨rfl, rfl⟩)
      | go_in)
    go_ret
    exact ⟨⟨_, rfl, HT.out⟩, rfl⟩
  · have C := fun W => hasPrefix_no s ⟨#[47]⟩ W hs (by show 1 ≤ _; omega) (fun r q => h ⟨r, q⟩)
    have HT : Hid (tl s = trimmed (tl s)) := by
      show _ = _
      cases e : tl s with
      | nil => rfl
      | cons x xs =>
        unfold trimmed
        by_cases hx : x = 47
        · subst hx; exact absurd ⟨xs, by rw [e]; simp [tl, ByteArray.toList_eq]⟩ h
        · simp [hx]
    clear h
    go_enter Tryz.func130, Tryz.ntmps130
    go_wp2_with (first
      | (go_at_call 150; refine (C _).mono ?_; rintro e w' ⟨rfl, rfl⟩)
      | go_in)
    go_ret
    exact ⟨⟨_, rfl, HT.out⟩, rfl⟩
end Go.Proofs.YtpngnhpnjkepjaaGreatDoor
