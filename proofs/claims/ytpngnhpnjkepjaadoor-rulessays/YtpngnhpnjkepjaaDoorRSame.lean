/-
  sameRules by contract.
-/
import Derived.Test.YtpngnhpnjkepjaaDoorRText
import Derived.Test.YtpngnhpnjkepjaaDoorRPrefW
namespace Go.Proofs.YtpngnhpnjkepjaaDoor
open Go.RowKit

set_option maxRecDepth 100000 in
theorem neq54 (k : Int) (s : ByteArray) (w : World) : (binOp .neq 54 (.agg #[.int .i64 k, .string s]) (.agg #[.int .i64 k, .string s])).run Tryd.prog w = .ok (.bool false) w := by
  go_simp
set_option maxHeartbeats 2000000 in
set_option maxRecDepth 100000 in
theorem same_any (a b : Value) (L : List Ru) (w : World) (ha : HasR w a L) (hb : HasR w b L) (hn : L.length ≤ 1048576) :
    Calls Tryd.prog 21 #[a, b] w fun e w' => e = .returned (.bool true) ∧ Below w.heap.size w w' := by
  have HA : Hid (HasR w a L) := ha
  have HB : Hid (HasR w b L) := hb
  obtain ⟨oa, ca, hfa⟩ := ha.form
  obtain ⟨ob, cb, hfb⟩ := hb.form
  obtain ⟨N, hN⟩ : ∃ N, L.length = N := ⟨_, rfl⟩
  rw [hN] at hfa hfb hn
  have HN : Hid (L.length = N) := hN
  subst hfa hfb
  clear ha hb hN
  go_enter Tryd.func21, Tryd.ntmps21
  go_wp2
  go_loopw [5] (fun k wr => ∃ n : Nat, k = .int .i64 (n : Int) ∧ n ≤ N ∧ Hid (Below w.heap.size w wr)) (fun k wr => N - iOf k)
  case atStart => exact ⟨0, rfl, Nat.zero_le _, Below.refl _ _⟩
  case round =>
    obtain ⟨n, rfl, hnN, HS⟩ := hrel
    by_cases hlt : n < N
    · have i1 : (n : Int) < (N : Int) := by omega
      obtain ⟨r, hr⟩ : ∃ r, L[n]? = some r := ⟨_, List.getElem?_eq_getElem (by rw [HN.out]; exact hlt)⟩
      obtain ⟨ga, rfl, a0, a1⟩ : ∃ g, oa = some ⟨g, 0, none⟩ ∧ wr.cell? ⟨g, n * 2, none⟩ = some (.int .i64 (r.1 : Int)) ∧ wr.cell? ⟨g, n * 2 + 1, none⟩ = some (.string (ofB r.2)) := by
        rcases HA.out.up HS.out with ⟨_, e⟩ | ⟨_, g, cp, e, hg, hc⟩
        · rw [e] at hr; simp at hr
        · cases e; exact ⟨g, rfl, (hc n r hr).1, (hc n r hr).2⟩
      obtain ⟨gb, rfl, b0, b1⟩ : ∃ g, ob = some ⟨g, 0, none⟩ ∧ wr.cell? ⟨g, n * 2, none⟩ = some (.int .i64 (r.1 : Int)) ∧ wr.cell? ⟨g, n * 2 + 1, none⟩ = some (.string (ofB r.2)) := by
        rcases HB.out.up HS.out with ⟨_, e⟩ | ⟨_, g, cp, e, hg, hc⟩
        · rw [e] at hr; simp at hr
        · cases e; exact ⟨g, rfl, (hc n r hr).1, (hc n r hr).2⟩
      clear hr
      go_upto_region 6 with fail
      refine wp_region_N 100 (fun W => (W.cell? ⟨ga, n * 2, none⟩ = some (.int .i64 (r.1 : Int)) ∧ W.cell? ⟨ga, n * 2 + 1, none⟩ = some (.string (ofB r.2))) ∧ (W.cell? ⟨gb, n * 2, none⟩ = some (.int .i64 (r.1 : Int)) ∧ W.cell? ⟨gb, n * 2 + 1, none⟩ = some (.string (ofB r.2)))) ?_
      have hI : (wr.drew.cell? ⟨ga, n * 2, none⟩ = some (.int .i64 (r.1 : Int)) ∧ wr.drew.cell? ⟨ga, n * 2 + 1, none⟩ = some (.string (ofB r.2))) ∧ (wr.drew.cell? ⟨gb, n * 2, none⟩ = some (.int .i64 (r.1 : Int)) ∧ wr.drew.cell? ⟨gb, n * 2 + 1, none⟩ = some (.string (ofB r.2))) := ⟨⟨a0, a1⟩, b0, b1⟩
      have HW : Hid (Below w.heap.size w wr.drew) := HS.out.drew
      generalize wr.drew = w1 at *
      try simp only [Act.put, List.setIfInBounds_toArray, List.set_cons_zero, List.set_cons_succ]
      refine tN 0 17 (.slice (some ⟨ga, 0, none⟩) N ca) rfl (by kernel_rfl) hI (fun _ _ _ h => h) (fun wz hz => ?_) ?_
      · rfl
      try simp only [Act.put, List.setIfInBounds_toArray, List.set_cons_zero, List.set_cons_succ]
      refine tN 1 18 (.int .i64 (n : Int)) rfl (by kernel_rfl) hI (fun _ _ _ h => h) (fun wz hz => ?_) ?_
      · rfl
      try simp only [Act.put, List.setIfInBounds_toArray, List.set_cons_zero, List.set_cons_succ]
      refine tN 2 19 (.pointer (some ⟨ga, n * 2, none⟩)) rfl (by kernel_rfl) hI (fun _ _ _ h => h) (fun wz hz => ?_) ?_
      · go_simp
      try simp only [Act.put, List.setIfInBounds_toArray, List.set_cons_zero, List.set_cons_succ]
      refine tN 3 20 (.agg #[.int .i64 (r.1 : Int), .string (ofB r.2)]) rfl (by kernel_rfl) hI (fun _ _ _ h => h) (fun wz hz => ?_) ?_
      · obtain ⟨⟨z0, z1⟩, _⟩ := hz; go_simp
      try simp only [Act.put, List.setIfInBounds_toArray, List.set_cons_zero, List.set_cons_succ]
      refine tN 4 21 (.slice (some ⟨gb, 0, none⟩) N cb) rfl (by kernel_rfl) hI (fun _ _ _ h => h) (fun wz hz => ?_) ?_
      · rfl
      try simp only [Act.put, List.setIfInBounds_toArray, List.set_cons_zero, List.set_cons_succ]
      refine tN 5 22 (.int .i64 (n : Int)) rfl (by kernel_rfl) hI (fun _ _ _ h => h) (fun wz hz => ?_) ?_
      · rfl
      try simp only [Act.put, List.setIfInBounds_toArray, List.set_cons_zero, List.set_cons_succ]
      refine tN 6 23 (.pointer (some ⟨gb, n * 2, none⟩)) rfl (by kernel_rfl) hI (fun _ _ _ h => h) (fun wz hz => ?_) ?_
      · go_simp
      try simp only [Act.put, List.setIfInBounds_toArray, List.set_cons_zero, List.set_cons_succ]
      refine tN 7 24 (.agg #[.int .i64 (r.1 : Int), .string (ofB r.2)]) rfl (by kernel_rfl) hI (fun _ _ _ h => h) (fun wz hz => ?_) ?_
      · obtain ⟨_, z0, z1⟩ := hz; go_simp
      try simp only [Act.put, List.setIfInBounds_toArray, List.set_cons_zero, List.set_cons_succ]
      refine tN 8 25 (.bool false) rfl (by kernel_rfl) hI (fun _ _ _ h => h) (fun wz hz => ?_) ?_
      · have q := neq54 (r.1 : Int) (ofB r.2) wz; go_simp
      try simp only [Act.put, List.setIfInBounds_toArray, List.set_cons_zero, List.set_cons_succ]
      refine doneN (by kernel_rfl) ?_
      clear hI a0 a1 b0 b1
      go_wp2
      go_roundw
      case rel => exact ⟨n + 1, by go_num, by omega, HW⟩
      case measure => simp; omega
    · have hn2 : n = N := by omega
      subst hn2
      go_wp2
      go_ret
      exact ⟨rfl, HS.out⟩
end Go.Proofs.YtpngnhpnjkepjaaDoor
