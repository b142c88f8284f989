/-
  What the reference's loops reckon, in Lean alone; the Room's count.
-/
import Derived.Test.YtpngnhpnjkepjaaDoorRMirL
import Derived.Test.YtpngnhpnjkepjaaDoorTRul
namespace Go.Proofs.YtpngnhpnjkepjaaDoor
open Go.RowKit

theorem prefR_snoc (M : List Ru) (r : Ru) (p : By) (h : r.1 = 1 ∨ r.1 = 2 ∨ r.1 = 3) : prefR (M ++ [r]) p = if r.1 = 1 then prefR M p else if (matchV r.2 p).1 = true then r.1 - 1 else prefR M p := by
  unfold prefR
  by_cases h1 : r.1 = 1
  · have e : prefsOf (M ++ [r]) = prefsOf M := by simp [prefsOf, List.filter_append, h1]
    rw [e, if_pos h1]
  · have e : prefsOf (M ++ [r]) = prefsOf M ++ [(r.1 - 1, r.2)] := by simp [prefsOf, List.filter_append, h1]
    rw [e, if_neg h1, List.reverse_append, List.reverse_cons, List.reverse_nil, List.nil_append, List.singleton_append, List.map_cons, firstNZ_cons]
    have e2 : sideR (r.1 - 1, r.2) p = if (matchV r.2 p).1 = true then r.1 - 1 else 0 := rfl
    rw [e2]
    by_cases hm : (matchV r.2 p).1 = true
    · rw [if_pos hm, if_pos hm, if_neg (by omega)]
    · rw [if_neg hm, if_neg hm, if_pos rfl]
theorem prefR_nil (p : By) : prefR [] p = 0 := rfl
theorem take_snoc {α : Type} {L : List α} {n : Nat} {r : α} (h : L[n]? = some r) : L.take (n + 1) = L.take n ++ [r] := by
  rw [List.take_add_one, h]; rfl
theorem prefR_le (L : List Ru) (p : By) (h : ∀ r ∈ L, r.1 = 1 ∨ r.1 = 2 ∨ r.1 = 3) : prefR L p ≤ 2 := by
  have := prefR_mir h p
  omega
theorem hits_snoc (M : List Ru) (r : Ru) (q : By) : hits (skipsOf (M ++ [r])) q = (hits (skipsOf M) q || (decide (r.1 = 1) && (matchV r.2 q).1)) := by
  unfold hits skipsOf
  by_cases h1 : r.1 = 1
  · simp [List.filter_append, h1]
  · simp [List.filter_append, h1]
theorem mirR_snoc (M : List Ru) (r : Ru) : mirR (M ++ [r]) = mirR M ++ [(mirK r.1, r.2)] := by simp [mirR]
theorem skipR_yes {L : List Ru} {p : By} {k : Nat} (h : splitE p 64 = 0) (hk : k < (pieces p).length) (hh : hits (skipsOf L) (joinL ((pieces p).take (k + 1))) = true) : skipR L p = true := by
  unfold skipR
  rw [h]
  simp only [decide_true, Bool.true_and]
  exact List.any_eq_true.2 ⟨k, List.mem_range.2 hk, hh⟩
theorem skipR_none {L : List Ru} {p : By} (hh : ∀ k, k < (pieces p).length → hits (skipsOf L) (joinL ((pieces p).take (k + 1))) = false) : skipR L p = false := by
  unfold skipR
  have : ((List.range (pieces p).length).any fun k => hits (skipsOf L) (joinL ((pieces p).take (k + 1)))) = false := by
    rw [List.any_eq_false]
    intro k hk
    rw [hh k (List.mem_range.1 hk)]; simp
  rw [this, Bool.and_false]

set_option maxHeartbeats 1000000 in
set_option maxRecDepth 100000 in
/-- the Room's count of texts, from any number on -/
theorem textsN_any (v : Value) (L : List ByteArray) (n0 : Int) (cb : Nat) (w0 w : World) (hv : HasT w0 v L) (hL : ∀ s ∈ L, s.size ≤ 9223372036854775807) (hLl : L.length ≤ 9223372036854775807) (hw : Below w0.heap.size w0 w) (hB : w0.heap.size ≤ cb) (hn0 : n0 ≤ 30000) (hc : w.heap[cb]? = some (.cells #[.int .i64 n0] 50)) :
    Calls Tryd.prog 8 #[.pointer (some ⟨cb, 0, none⟩), v] w fun e w' => e = .returned (.tuple #[]) ∧ (∃ m : Int, w'.heap[cb]? = some (.cells #[.int .i64 m] 50) ∧ (0 ≤ m → 0 ≤ n0 ∧ wsum L ≤ n0)) ∧ Below w0.heap.size w0 w' := by
  have HV : Hid (HasT w0 v L) := hv
  have HLs : Hid (∀ s ∈ L, s.size ≤ 9223372036854775807) := hL
  obtain ⟨ao, cap, rfl, _⟩ := hv.form
  clear hv hL
  go_enter Tryd.func8, Tryd.ntmps8
  go_wp2
  go_loopw [4] (fun i wr => ∃ (k : Nat) (m : Int), i = .int .i64 k ∧ k ≤ L.length ∧ wr.heap[cb]? = some (.cells #[.int .i64 m] 50) ∧ m ≤ 30000 ∧ Hid (0 ≤ m → 0 ≤ n0 ∧ (wsum (L.take k) : Int) + m = n0) ∧ Hid (Below w0.heap.size w0 wr)) (fun i _ => L.length - iOf i)
  case atStart => exact ⟨0, n0, rfl, Nat.zero_le _, hc, hn0, fun h => ⟨h, by simp [wsum]⟩, hw⟩
  case round =>
    obtain ⟨k, m, rfl, hk, hcr, hm, HM, HB⟩ := hrel
    have c0 : wr.cell? ⟨cb, 0, none⟩ = some (.int .i64 m) := by simp [World.cell?, hcr]
    by_cases hlt : k < L.length
    · have i1 : (k : Int) < (L.length : Int) := by omega
      by_cases h0 : 0 ≤ m
      · obtain ⟨x, hx⟩ : ∃ x, L[k]? = some x := ⟨_, List.getElem?_eq_getElem hlt⟩
        have hxs := HLs.out x (List.mem_of_getElem? hx)
        have C := text60_any x m cb w0.heap.size wr hB hcr ⟨h0, hm⟩ hxs
        obtain ⟨a0, _, hva, hca⟩ := (HV.out.below HB.out).at hx
        simp at hva
        obtain ⟨rfl, rfl⟩ := hva
        have hws := wsum_take hx
        go_wp2_with (first
          | (go_at_call 7; refine C.mono ?_; rintro e w1 ⟨rfl, ⟨m1, d1, d2, d3, d4⟩, b1⟩)
          | go_in)
        have HB2 : Hid (Below w0.heap.size w0 w1) := HB.out.trans b1
        have HM2 : Hid (0 ≤ m1 → 0 ≤ n0 ∧ (wsum (L.take (k + 1)) : Int) + m1 = n0) := by
          intro q
          have := d3 q
          have := HM.out h0
          rw [hws]; omega
        go_roundw
        case rel => exact ⟨k + 1, m1, by go_num, by omega, d1, d2, HM2, HB2⟩
        case measure => simp; omega
      · have hneg : ¬ (0 ≤ m) := h0
        go_wp2
        go_end0
        exact ⟨rfl, ⟨m, hcr, fun q => by omega⟩, HB.out⟩
    · have i1 : ¬ ((k : Int) < (L.length : Int)) := by omega
      go_wp2
      go_end0
      refine ⟨rfl, ⟨m, hcr, fun q => ?_⟩, HB.out⟩
      have := HM.out q
      rw [List.take_of_length_le (by omega)] at this
      omega
end Go.Proofs.YtpngnhpnjkepjaaDoor
