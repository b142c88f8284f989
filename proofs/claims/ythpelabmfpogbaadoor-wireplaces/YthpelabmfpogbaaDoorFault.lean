/-
  fault: the place and number of one reading's fault.
-/
import Derived.Test.YthpelabmfpogbaaDoorRaw
namespace Go.Proofs.YthpelabmfpogbaaDoor
open Go.RowKit Wire

/-- What 'fault' tells of a state. -/
def tellS (s : St) : Value := .tuple #[.int .i64 (if s.fe = 0 then 0 else s.fa), .int .i64 s.fe, .bool true]

set_option maxHeartbeats 1600000 in
set_option maxRecDepth 100000 in
theorem fault_any (v : Value) (l : List Int) (kind mo n : Int) (sec : Bool) (w : World) (hv : Has w v l) (hl : l.length ≤ 1048576) (hB : Bytes l) (hn : -9223372036854775808 ≤ n ∧ n ≤ 9223372036854775807) :
    Calls Tryd.prog 16 #[v, .agg #[.int .i64 kind, .bool sec, .int .u64 mo, .int .i64 n]] w fun e w' => e = .returned (tellS (oneS l kind n)) ∧ Below w.heap.size w w' := by
  have hN : w.heap.size ≤ w.heap.size := Nat.le_refl _
  have h63 : (-9223372036854775808 : Int) ≤ 4611686018427387904 ∧ (4611686018427387904 : Int) ≤ 9223372036854775807 := by decide
  have hbox : Below w.heap.size w (w.alloc (.cells #[.int .i64 kind, .bool sec, .int .u64 mo, .int .i64 n] 40)) := (Below.refl _ _).alloc (Nat.le_refl _) _
  have HV : Hid (Has w v l) := hv
  clear hv
  obtain ⟨st, hst⟩ : ∃ st, oneS l kind n = st := ⟨_, rfl⟩
  rw [hst]
  have HST : Hid (oneS l kind n = st) := hst
  clear hst
  by_cases h1 : kind = 1
  · subst h1
    go_enter Tryd.func16, Tryd.ntmps16
    go_wp2_with fail
    refine (read_any _ l _ (HV.out.below hbox) hl).mono ?_
    rintro e w2 ⟨X, rfl, hX, hx, hb2⟩
    have hXN : w.heap.size ≤ X := Nat.le_trans hbox.size hX
    have hcK : w2.cell? ⟨w.heap.size, 0, none⟩ = some (.int .i64 1) := (hb2.cell (by simp)).trans (by simp)
    replace hb2 := Below.up hbox hb2
    replace hx : RdS w2 _ X l ⟨0, 0, 0⟩ := hx
    clear hX
    go_wp2_with fail
    refine (byte_any _ X l _ _ hx).mono ?_
    rintro e w3 ⟨rfl, hx3, hg3⟩
    have e1 : (byteS l ⟨0, 0, 0⟩).2 = st := by rw [← HST.out]; simp [oneS]
    rw [e1] at hx3
    have hb3 := below_grown hb2 hN hg3 hXN
    clear hx hb2 hg3 hcK e1
    go_wp2_with fail
    refine (err_told _ X l st _ hx3).mono ?_
    rintro e w4 ⟨ev, rfl, hb4, ht⟩
    have HT : Hid (Calls Tryd.prog 21 #[ev] w4 fun x w5 => x = .returned (.tuple #[.int .i64 (if st.fe = 0 then 0 else st.fa), .int .i64 st.fe, .bool true]) ∧ Below w3.heap.size w3 w5) := ht
    have HQ : Hid (tellS st = .tuple #[.int .i64 (if st.fe = 0 then 0 else st.fa), .int .i64 st.fe, .bool true]) := rfl
    clear ht hb4 hx3
    generalize (if st.fe = 0 then 0 else st.fa) = q at *
    go_wp2_with fail
    refine HT.out.mono ?_
    rintro e w5 ⟨rfl, hb5⟩
    have hb6 := below_read hb3 hN hb5
    clear HT hb5 hb3
    go_wp2
    go_ret3
    exact ⟨by rw [HQ.out]; rfl, hb6⟩
  by_cases h2 : kind = 2
  · subst h2
    go_enter Tryd.func16, Tryd.ntmps16
    go_wp2_with fail
    refine (read_any _ l _ (HV.out.below hbox) hl).mono ?_
    rintro e w2 ⟨X, rfl, hX, hx, hb2⟩
    have hXN : w.heap.size ≤ X := Nat.le_trans hbox.size hX
    have hcK : w2.cell? ⟨w.heap.size, 0, none⟩ = some (.int .i64 2) := (hb2.cell (by simp)).trans (by simp)
    replace hb2 := Below.up hbox hb2
    replace hx : RdS w2 _ X l ⟨0, 0, 0⟩ := hx
    clear hX
    go_wp2_with fail
    refine (uint_any _ X 18446744073709551615 l _ _ hx hB).mono ?_
    rintro e w3 ⟨rfl, hx3, hg3⟩
    have e1 : (uintS l ⟨0, 0, 0⟩ 18446744073709551615).2 = st := by rw [← HST.out]; simp [oneS]
    rw [e1] at hx3
    have hb3 := below_grown hb2 hN hg3 hXN
    clear hx hb2 hg3 hcK e1
    go_wp2_with fail
    refine (err_told _ X l st _ hx3).mono ?_
    rintro e w4 ⟨ev, rfl, hb4, ht⟩
    have HT : Hid (Calls Tryd.prog 21 #[ev] w4 fun x w5 => x = .returned (.tuple #[.int .i64 (if st.fe = 0 then 0 else st.fa), .int .i64 st.fe, .bool true]) ∧ Below w3.heap.size w3 w5) := ht
    have HQ : Hid (tellS st = .tuple #[.int .i64 (if st.fe = 0 then 0 else st.fa), .int .i64 st.fe, .bool true]) := rfl
    clear ht hb4 hx3
    generalize (if st.fe = 0 then 0 else st.fa) = q at *
    go_wp2_with fail
    refine HT.out.mono ?_
    rintro e w5 ⟨rfl, hb5⟩
    have hb6 := below_read hb3 hN hb5
    clear HT hb5 hb3
    go_wp2
    go_ret3
    exact ⟨by rw [HQ.out]; rfl, hb6⟩
  by_cases h3 : kind = 3
  · subst h3
    go_enter Tryd.func16, Tryd.ntmps16
    go_wp2_with fail
    refine (read_any _ l _ (HV.out.below hbox) hl).mono ?_
    rintro e w2 ⟨X, rfl, hX, hx, hb2⟩
    have hXN : w.heap.size ≤ X := Nat.le_trans hbox.size hX
    have hcK : w2.cell? ⟨w.heap.size, 0, none⟩ = some (.int .i64 3) := (hb2.cell (by simp)).trans (by simp)
    replace hb2 := Below.up hbox hb2
    replace hx : RdS w2 _ X l ⟨0, 0, 0⟩ := hx
    clear hX
    go_wp2_with fail
    refine (text_any _ X 4611686018427387904 l _ _ hx hB h63).mono ?_
    rintro e w3 ⟨rfl, hx3, hg3⟩
    have e1 : (textS l ⟨0, 0, 0⟩ 4611686018427387904).2 = st := by rw [← HST.out]; simp [oneS]
    rw [e1] at hx3
    have hb3 := below_grown hb2 hN hg3 hXN
    clear hx hb2 hg3 hcK e1
    go_wp2_with fail
    refine (err_told _ X l st _ hx3).mono ?_
    rintro e w4 ⟨ev, rfl, hb4, ht⟩
    have HT : Hid (Calls Tryd.prog 21 #[ev] w4 fun x w5 => x = .returned (.tuple #[.int .i64 (if st.fe = 0 then 0 else st.fa), .int .i64 st.fe, .bool true]) ∧ Below w3.heap.size w3 w5) := ht
    have HQ : Hid (tellS st = .tuple #[.int .i64 (if st.fe = 0 then 0 else st.fa), .int .i64 st.fe, .bool true]) := rfl
    clear ht hb4 hx3
    generalize (if st.fe = 0 then 0 else st.fa) = q at *
    go_wp2_with fail
    refine HT.out.mono ?_
    rintro e w5 ⟨rfl, hb5⟩
    have hb6 := below_read hb3 hN hb5
    clear HT hb5 hb3
    go_wp2
    go_ret3
    exact ⟨by rw [HQ.out]; rfl, hb6⟩
  by_cases h4 : kind = 4
  · subst h4
    go_enter Tryd.func16, Tryd.ntmps16
    go_wp2_with fail
    refine (read_any _ l _ (HV.out.below hbox) hl).mono ?_
    rintro e w2 ⟨X, rfl, hX, hx, hb2⟩
    have hXN : w.heap.size ≤ X := Nat.le_trans hbox.size hX
    have hcK : w2.cell? ⟨w.heap.size, 0, none⟩ = some (.int .i64 4) := (hb2.cell (by simp)).trans (by simp)
    have hcN : w2.cell? ⟨w.heap.size, 3, none⟩ = some (.int .i64 n) := (hb2.cell (by simp)).trans (by simp)
    replace hb2 := Below.up hbox hb2
    replace hx : RdS w2 _ X l ⟨0, 0, 0⟩ := hx
    clear hX
    go_wp2_with fail
    refine (raw_go _ X n l 0 0 _ hx hn).mono ?_
    rintro e w3 ⟨v3, rfl, hx3, hg3⟩
    have e1 : rawS l ⟨0, 0, 0⟩ n = st := by rw [← HST.out]; simp [oneS]
    rw [e1] at hx3
    have hb3 := below_grown hb2 hN hg3 hXN
    clear hx hb2 hg3 hcK e1
    go_wp2_with fail
    refine (err_told _ X l st _ hx3).mono ?_
    rintro e w4 ⟨ev, rfl, hb4, ht⟩
    have HT : Hid (Calls Tryd.prog 21 #[ev] w4 fun x w5 => x = .returned (.tuple #[.int .i64 (if st.fe = 0 then 0 else st.fa), .int .i64 st.fe, .bool true]) ∧ Below w3.heap.size w3 w5) := ht
    have HQ : Hid (tellS st = .tuple #[.int .i64 (if st.fe = 0 then 0 else st.fa), .int .i64 st.fe, .bool true]) := rfl
    clear ht hb4 hx3
    generalize (if st.fe = 0 then 0 else st.fa) = q at *
    go_wp2_with fail
    refine HT.out.mono ?_
    rintro e w5 ⟨rfl, hb5⟩
    have hb6 := below_read hb3 hN hb5
    clear HT hb5 hb3
    go_wp2
    go_ret3
    exact ⟨by rw [HQ.out]; rfl, hb6⟩
  · have b1 : (kind == 1) = false := by simpa using h1
    have b2 : (kind == 2) = false := by simpa using h2
    have b3 : (kind == 3) = false := by simpa using h3
    have b4 : (kind == 4) = false := by simpa using h4
    go_enter Tryd.func16, Tryd.ntmps16
    go_wp2_with fail
    refine (read_any _ l _ (HV.out.below hbox) hl).mono ?_
    rintro e w2 ⟨X, rfl, hX, hx, hb2⟩
    have hXN : w.heap.size ≤ X := Nat.le_trans hbox.size hX
    have hcK : w2.cell? ⟨w.heap.size, 0, none⟩ = some (.int .i64 kind) := (hb2.cell (by simp)).trans (by simp)
    replace hb2 := Below.up hbox hb2
    replace hx : RdS w2 _ X l ⟨0, 0, 0⟩ := hx
    clear hX
    have e1 : (⟨0, 0, 0⟩ : St) = st := by rw [← HST.out]; simp [oneS, h1, h2, h3, h4]
    clear h1 h2 h3 h4
    have hx3 := hx
    rw [e1] at hx3
    have hb3 := hb2
    clear hx hb2 e1
    go_wp2_with fail
    refine (err_told _ X l st _ hx3).mono ?_
    rintro e w4 ⟨ev, rfl, hb4, ht⟩
    have HT : Hid (Calls Tryd.prog 21 #[ev] w4 fun x w5 => x = .returned (.tuple #[.int .i64 (if st.fe = 0 then 0 else st.fa), .int .i64 st.fe, .bool true]) ∧ Below w2.heap.size w2 w5) := ht
    have HQ : Hid (tellS st = .tuple #[.int .i64 (if st.fe = 0 then 0 else st.fa), .int .i64 st.fe, .bool true]) := rfl
    clear ht hb4 hx3
    generalize (if st.fe = 0 then 0 else st.fa) = q at *
    go_wp2_with fail
    refine HT.out.mono ?_
    rintro e w5 ⟨rfl, hb5⟩
    have hb6 := below_read hb3 hN hb5
    clear HT hb5 hb3
    go_wp2
    go_ret3
    exact ⟨by rw [HQ.out]; rfl, hb6⟩
end Go.Proofs.YthpelabmfpogbaaDoor
