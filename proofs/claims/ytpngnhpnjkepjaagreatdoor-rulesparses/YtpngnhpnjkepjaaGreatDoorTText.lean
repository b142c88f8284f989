/-
  The reference's Text by contract.
-/
import Derived.Test.YtpngnhpnjkepjaaGreatDoorRMir
import Derived.Test.YtpngnhpnjkepjaaGreatDoorRText
import Derived.Test.YtpngnhpnjkepjaaGreatDoorRN
import Derived.Deep.Cut
namespace Go.Proofs.YtpngnhpnjkepjaaGreatDoor

theorem take_snoc {α : Type} {L : List α} {n : Nat} {r : α} (h : L[n]? = some r) : L.take (n + 1) = L.take n ++ [r] := by
  rw [List.take_add_one, h]; rfl
theorem mirR_snoc (M : List Ru) (r : Ru) : mirR (M ++ [r]) = mirR M ++ [(mirK r.1, r.2)] := by simp [mirR]
end Go.Proofs.YtpngnhpnjkepjaaGreatDoor
namespace Go.Proofs.YtpngnhpnjkepjaaGreatDoor
open Go.RowKit

theorem joinR_snoc : ∀ (A : List By) (x : By), joinR (A ++ [x]) = if A = [] then x else joinR A ++ 10 :: x
  | [], x => rfl
  | [a], x => by simp [joinR]
  | a :: b :: t, x => by
    have ih := joinR_snoc (b :: t) x
    rw [if_neg (by simp)] at ih
    have e : a :: b :: t ++ [x] = a :: (b :: (t ++ [x])) := rfl
    rw [if_neg (by simp), e, joinR, joinR]
    have e2 : b :: (t ++ [x]) = b :: t ++ [x] := rfl
    rw [e2, ih]
    simp
theorem textR_snoc (M : List Ru) (r : Ru) : textR (M ++ [r]) = if M = [] then lineR r else textR M ++ 10 :: lineR r := by
  unfold textR
  rw [List.map_append, List.map_cons, List.map_nil, joinR_snoc]
  by_cases h : M = []
  · subst h; simp
  · rw [if_neg h, if_neg (by simpa using h)]
theorem wt_lines : ∀ {M : List Ru}, (∀ r ∈ M, r.2.length ≤ 4000) → wt (M.map lineR) ≤ M.length * 4010
  | [], _ => by simp [wt]
  | r :: M, h => by
    have ih := wt_lines (M := M) fun x hx => h x (by simp [hx])
    have h1 := h r (by simp)
    have h2 : (lineR r).length = (headB r.1).length + r.2.length := List.length_append
    have h3 : (headB r.1).length ≤ 9 := by unfold headB; split <;> simp
    have e : wt ((r :: M).map lineR) = (lineR r).length + 1 + wt (M.map lineR) := by simp [wt]
    rw [e, List.length_cons]
    omega
theorem textR_le {M : List Ru} (h : ∀ r ∈ M, r.2.length ≤ 4000) : (textR M).length ≤ M.length * 4010 := by
  by_cases e : M = []
  · subst e; simp [textR, joinR]
  · have h1 := joinR_len (L := M.map lineR) (by simpa using e)
    have h2 := wt_lines h
    unfold textR
    omega
set_option maxHeartbeats 4000000 in
set_option maxRecDepth 100000 in
theorem ttext_any (v : Value) (L : List Ru) (w : World) (hv : HasR w v L) (hL : ∀ r ∈ L, r.1 = 1 ∨ r.1 = 2 ∨ r.1 = 3) (hn : L.length ≤ 64) (hS : ∀ r ∈ L, r.2.length ≤ 4000) :
    Calls Tryz.prog 18 #[v] w fun e w' => e = .returned (.string (ofB (textR L))) ∧ Below w.heap.size w w' := by
  have HV : Hid (HasR w v L) := hv
  have HL : Hid (∀ r ∈ L, r.1 = 1 ∨ r.1 = 2 ∨ r.1 = 3) := hL
  obtain ⟨ao, cap, hvf⟩ := hv.form
  have HSS : Hid (∀ r ∈ L, r.2.length ≤ 4000) := hS
  clear hv hL hS
  obtain ⟨N, hN⟩ : ∃ N, L.length = N := ⟨_, rfl⟩
  rw [hN] at hvf hn
  have HN : Hid (L.length = N) := hN
  subst hvf
  clear hN
  obtain ⟨wB, hwB⟩ : ∃ wB, w.alloc (.cells #[.string ⟨#[]⟩, .string ⟨#[115, 107, 105, 112, 32]⟩, .string ⟨#[112, 114, 101, 102, 101, 114, 32, 97, 32]⟩, .string ⟨#[112, 114, 101, 102, 101, 114, 32, 98, 32]⟩] 9) = wB := ⟨_, rfl⟩
  have hb0 : Below w.heap.size w wB := by rw [← hwB]; exact (Below.refl _ w).alloc (Nat.le_refl _) _
  have hsz : w.heap.size < wB.heap.size := by rw [← hwB]; simp
  have h1 : wB.heap[w.heap.size]? = some (.cells #[.string ⟨#[]⟩, .string ⟨#[115, 107, 105, 112, 32]⟩, .string ⟨#[112, 114, 101, 102, 101, 114, 32, 97, 32]⟩, .string ⟨#[112, 114, 101, 102, 101, 114, 32, 98, 32]⟩] 9) := by rw [← hwB]; exact World.alloc_heap_new w _
  have HCL : Hid (∀ k : Nat, k = 1 ∨ k = 2 ∨ k = 3 → wB.cell? ⟨w.heap.size, k, none⟩ = some (.string (ofB (headB k)))) := fun k hk => by
    rcases hk with rfl | rfl | rfl <;> (unfold World.cell?; rw [h1]; rfl)
  have HB0 : Hid (Below w.heap.size w wB ∧ w.heap.size < wB.heap.size) := ⟨hb0, hsz⟩
  clear hb0 hsz h1
  go_enter Tryz.func18, Tryz.ntmps18
  go_wp2
  clear hwB
  go_loopw [4, 5] (fun t4 t5 wr => ∃ (n : Nat) (s : ByteArray), t4 = .string s ∧ t5 = .int .i64 (n : Int) ∧ n ≤ N ∧ Hid (s = ofB (textR (L.take n))) ∧ Hid (Below wB.heap.size wB wr)) (fun _ t5 wr => N - iOf t5)
  case atStart => exact ⟨0, _, rfl, rfl, Nat.zero_le _, by show _ = _; rfl, Below.refl _ _⟩
  case round =>
    obtain ⟨n, s, rfl, rfl, hnN, HS, HB⟩ := hrel
    by_cases hlt : n < N
    · have i1 : (n : Int) < (N : Int) := by omega
      obtain ⟨r, hr⟩ : ∃ r, L[n]? = some r := ⟨_, List.getElem?_eq_getElem (by rw [HN.out]; exact hlt)⟩
      have hBw : Below w.heap.size w wr := HB0.out.1.trans (HB.out.mono (Nat.le_of_lt HB0.out.2))
      obtain ⟨g, rfl, hc⟩ : ∃ g, ao = some ⟨g, 0, none⟩ ∧ ∀ i r, L[i]? = some r → wr.cell? ⟨g, i * 2, none⟩ = some (.int .i64 (r.1 : Int)) ∧ wr.cell? ⟨g, i * 2 + 1, none⟩ = some (.string (ofB r.2)) := by
        rcases HV.out.up hBw with ⟨_, h⟩ | ⟨_, g, c2, hv, _, h⟩
        · subst h; simp at hr
        · cases hv; exact ⟨g, rfl, h⟩
      obtain ⟨y0, y1⟩ := hc n r hr
      clear hc
      have hk := HL.out r (List.mem_of_getElem? hr)
      have hh : wr.cell? ⟨w.heap.size, r.1, none⟩ = some (.string (ofB (headB r.1))) := (HB.out.cell (p := ⟨w.heap.size, r.1, none⟩) HB0.out.2).trans (HCL.out r.1 hk)
      have hsn := textR_snoc (L.take n) r
      rw [← take_snoc hr] at hsn
      obtain ⟨k, p⟩ := r
      simp only at hk y0 y1 hh hsn
      have HY : Hid (wr.cell? ⟨g, n * 2, none⟩ = some (.int .i64 (k : Int)) ∧ wr.cell? ⟨g, n * 2 + 1, none⟩ = some (.string (ofB p)) ∧ wr.cell? ⟨w.heap.size, k, none⟩ = some (.string (ofB (headB k)))) := ⟨y0, y1, hh⟩
      have HPP := HSS.out (k, p) (List.mem_of_getElem? hr)
      simp only at HPP
      clear y0 y1 hh hr
      have hk4 : k < 4 := by omega
      have hsS : s.size ≤ 300000 := by
        have h1 := textR_le (M := L.take n) fun x hx => HSS.out x (List.mem_of_mem_take hx)
        rw [List.length_take, HN.out] at h1
        rw [HS.out, ofB_size]
        omega
      have hpS : (ofB p).size ≤ 4000 := by rw [ofB_size]; exact HPP
      have hhS : (ofB (headB k)).size ≤ 9 := by rw [ofB_size]; unfold headB; split <;> simp
      have k0 : (k : Int) < 4 := by omega
      by_cases hn0 : n = 0
      · subst hn0
        have HX : Hid (s ++ ofB (headB k) ++ ofB p = ofB (textR (L.take 1))) := by
          show _ = _
          rw [hsn, List.take_zero, if_pos rfl, HS.out]
          rfl
        clear hsn HS hk
        go_upto_region 8 with fail
        generalize hX0 : s = X0 at *
        clear hX0
        refine wp_region_N 100 (fun W => W.cell? ⟨g, 0 * 2, none⟩ = some (.int .i64 (k : Int)) ∧ W.cell? ⟨g, 0 * 2 + 1, none⟩ = some (.string (ofB p)) ∧ W.cell? ⟨w.heap.size, k, none⟩ = some (.string (ofB (headB k)))) ?_
        have hI : (fun W => W.cell? ⟨g, 0 * 2, none⟩ = some (.int .i64 (k : Int)) ∧ W.cell? ⟨g, 0 * 2 + 1, none⟩ = some (.string (ofB p)) ∧ W.cell? ⟨w.heap.size, k, none⟩ = some (.string (ofB (headB k)))) wr.drew := HY.out
        have HBd : Hid (Below wB.heap.size wB wr.drew) := HB.out.drew
        generalize wr.drew = w1 at *
        try simp only [Act.put, List.setIfInBounds_toArray, List.set_cons_zero, List.set_cons_succ]
        refine tN 0 17 (.string X0) rfl (by kernel_rfl) hI (fun _ _ _ h => h) (fun wz hz => ?_) ?_
        · rfl
        try simp only [Act.put, List.setIfInBounds_toArray, List.set_cons_zero, List.set_cons_succ]
        refine tN 1 18 (.slice (some ⟨w.heap.size, 0, none⟩) 4 4) rfl (by kernel_rfl) hI (fun _ _ _ h => h) (fun wz hz => ?_) ?_
        · rfl
        try simp only [Act.put, List.setIfInBounds_toArray, List.set_cons_zero, List.set_cons_succ]
        refine tN 2 19 (.slice (some ⟨g, 0, none⟩) N cap) rfl (by kernel_rfl) hI (fun _ _ _ h => h) (fun wz hz => ?_) ?_
        · rfl
        try simp only [Act.put, List.setIfInBounds_toArray, List.set_cons_zero, List.set_cons_succ]
        refine tN 3 20 (.int .i64 ((0 : Nat) : Int)) rfl (by kernel_rfl) hI (fun _ _ _ h => h) (fun wz hz => ?_) ?_
        · rfl
        try simp only [Act.put, List.setIfInBounds_toArray, List.set_cons_zero, List.set_cons_succ]
        refine tN 4 21 (.pointer (some ⟨g, 0 * 2, none⟩)) rfl (by kernel_rfl) hI (fun _ _ _ h => h) (fun wz hz => ?_) ?_
        · go_simp
        try simp only [Act.put, List.setIfInBounds_toArray, List.set_cons_zero, List.set_cons_succ]
        refine tN 5 22 (.pointer (some ⟨g, 0 * 2, none⟩)) rfl (by kernel_rfl) hI (fun _ _ _ h => h) (fun wz hz => ?_) ?_
        · go_simp
        try simp only [Act.put, List.setIfInBounds_toArray, List.set_cons_zero, List.set_cons_succ]
        refine tN 6 23 (.int .i64 (k : Int)) rfl (by kernel_rfl) hI (fun _ _ _ h => h) (fun wz hz => ?_) ?_
        · obtain ⟨z0, z1, z2⟩ := hz; go_simp
        try simp only [Act.put, List.setIfInBounds_toArray, List.set_cons_zero, List.set_cons_succ]
        refine tN 7 24 (.pointer (some ⟨w.heap.size, k, none⟩)) rfl (by kernel_rfl) hI (fun _ _ _ h => h) (fun wz hz => ?_) ?_
        · go_simp
        try simp only [Act.put, List.setIfInBounds_toArray, List.set_cons_zero, List.set_cons_succ]
        refine tN 8 25 (.string (ofB (headB k))) rfl (by kernel_rfl) hI (fun _ _ _ h => h) (fun wz hz => ?_) ?_
        · obtain ⟨z0, z1, z2⟩ := hz; go_simp
        try simp only [Act.put, List.setIfInBounds_toArray, List.set_cons_zero, List.set_cons_succ]
        refine tN 9 26 (.string (X0 ++ ofB (headB k))) rfl (by kernel_rfl) hI (fun _ _ _ h => h) (fun wz hz => ?_) ?_
        · go_simp; omega
        try simp only [Act.put, List.setIfInBounds_toArray, List.set_cons_zero, List.set_cons_succ]
        refine tN 10 27 (.slice (some ⟨g, 0, none⟩) N cap) rfl (by kernel_rfl) hI (fun _ _ _ h => h) (fun wz hz => ?_) ?_
        · rfl
        try simp only [Act.put, List.setIfInBounds_toArray, List.set_cons_zero, List.set_cons_succ]
        refine tN 11 28 (.int .i64 ((0 : Nat) : Int)) rfl (by kernel_rfl) hI (fun _ _ _ h => h) (fun wz hz => ?_) ?_
        · rfl
        try simp only [Act.put, List.setIfInBounds_toArray, List.set_cons_zero, List.set_cons_succ]
        refine tN 12 29 (.pointer (some ⟨g, 0 * 2, none⟩)) rfl (by kernel_rfl) hI (fun _ _ _ h => h) (fun wz hz => ?_) ?_
        · go_simp
        try simp only [Act.put, List.setIfInBounds_toArray, List.set_cons_zero, List.set_cons_succ]
        refine tN 13 30 (.pointer (some ⟨g, 0 * 2 + 1, none⟩)) rfl (by kernel_rfl) hI (fun _ _ _ h => h) (fun wz hz => ?_) ?_
        · go_simp
        try simp only [Act.put, List.setIfInBounds_toArray, List.set_cons_zero, List.set_cons_succ]
        refine tN 14 31 (.string (ofB p)) rfl (by kernel_rfl) hI (fun _ _ _ h => h) (fun wz hz => ?_) ?_
        · obtain ⟨z0, z1, z2⟩ := hz; go_simp
        try simp only [Act.put, List.setIfInBounds_toArray, List.set_cons_zero, List.set_cons_succ]
        refine tN 15 32 (.string (X0 ++ ofB (headB k) ++ ofB p)) rfl (by kernel_rfl) hI (fun _ _ _ h => h) (fun wz hz => ?_) ?_
        · go_simp; omega
        try simp only [Act.put, List.setIfInBounds_toArray, List.set_cons_zero, List.set_cons_succ]
        refine tN 16 4 (.string (X0 ++ ofB (headB k) ++ ofB p)) rfl (by kernel_rfl) hI (fun _ _ _ h => h) (fun wz hz => ?_) ?_
        · rfl
        try simp only [Act.put, List.setIfInBounds_toArray, List.set_cons_zero, List.set_cons_succ]
        refine doneN (by kernel_rfl) ?_
        clear hI HY
        rw [HX.out]
        go_wp2
        go_roundw
        case rel => exact ⟨1, _, rfl, by go_num, by omega, rfl, HBd⟩
        case measure => simp; omega
      · have i2 : (0 : Int) < (n : Int) := by omega
        have HX : Hid (s ++ ⟨#[10]⟩ ++ ofB (headB k) ++ ofB p = ofB (textR (L.take (n + 1)))) := by
          show _ = _
          rw [hsn, if_neg (by intro q; have := congrArg List.length q; rw [List.length_take, HN.out, List.length_nil] at this; omega), HS.out]
          refine ext_of _ _ ?_
          rw [tl_ofB, tl_append, tl_append, tl_append, tl_ofB, tl_ofB, tl_ofB]
          unfold lineR
          simp [show tl ⟨#[10]⟩ = [10] from tl_ofB [10]]
        clear hsn HS hk
        go_upto_region 8 with fail
        have hX1 : (s ++ ⟨#[10]⟩).size ≤ 300001 := by rw [ByteArray.size_append]; show s.size + 1 ≤ _; omega
        generalize hX0 : s ++ ⟨#[10]⟩ = X0 at *
        clear hX0
        refine wp_region_N 100 (fun W => W.cell? ⟨g, n * 2, none⟩ = some (.int .i64 (k : Int)) ∧ W.cell? ⟨g, n * 2 + 1, none⟩ = some (.string (ofB p)) ∧ W.cell? ⟨w.heap.size, k, none⟩ = some (.string (ofB (headB k)))) ?_
        have hI : (fun W => W.cell? ⟨g, n * 2, none⟩ = some (.int .i64 (k : Int)) ∧ W.cell? ⟨g, n * 2 + 1, none⟩ = some (.string (ofB p)) ∧ W.cell? ⟨w.heap.size, k, none⟩ = some (.string (ofB (headB k)))) wr.drew := HY.out
        have HBd : Hid (Below wB.heap.size wB wr.drew) := HB.out.drew
        generalize wr.drew = w1 at *
        try simp only [Act.put, List.setIfInBounds_toArray, List.set_cons_zero, List.set_cons_succ]
        refine tN 0 17 (.string X0) rfl (by kernel_rfl) hI (fun _ _ _ h => h) (fun wz hz => ?_) ?_
        · rfl
        try simp only [Act.put, List.setIfInBounds_toArray, List.set_cons_zero, List.set_cons_succ]
        refine tN 1 18 (.slice (some ⟨w.heap.size, 0, none⟩) 4 4) rfl (by kernel_rfl) hI (fun _ _ _ h => h) (fun wz hz => ?_) ?_
        · rfl
        try simp only [Act.put, List.setIfInBounds_toArray, List.set_cons_zero, List.set_cons_succ]
        refine tN 2 19 (.slice (some ⟨g, 0, none⟩) N cap) rfl (by kernel_rfl) hI (fun _ _ _ h => h) (fun wz hz => ?_) ?_
        · rfl
        try simp only [Act.put, List.setIfInBounds_toArray, List.set_cons_zero, List.set_cons_succ]
        refine tN 3 20 (.int .i64 ((n : Nat) : Int)) rfl (by kernel_rfl) hI (fun _ _ _ h => h) (fun wz hz => ?_) ?_
        · rfl
        try simp only [Act.put, List.setIfInBounds_toArray, List.set_cons_zero, List.set_cons_succ]
        refine tN 4 21 (.pointer (some ⟨g, n * 2, none⟩)) rfl (by kernel_rfl) hI (fun _ _ _ h => h) (fun wz hz => ?_) ?_
        · go_simp
        try simp only [Act.put, List.setIfInBounds_toArray, List.set_cons_zero, List.set_cons_succ]
        refine tN 5 22 (.pointer (some ⟨g, n * 2, none⟩)) rfl (by kernel_rfl) hI (fun _ _ _ h => h) (fun wz hz => ?_) ?_
        · go_simp
        try simp only [Act.put, List.setIfInBounds_toArray, List.set_cons_zero, List.set_cons_succ]
        refine tN 6 23 (.int .i64 (k : Int)) rfl (by kernel_rfl) hI (fun _ _ _ h => h) (fun wz hz => ?_) ?_
        · obtain ⟨z0, z1, z2⟩ := hz; go_simp
        try simp only [Act.put, List.setIfInBounds_toArray, List.set_cons_zero, List.set_cons_succ]
        refine tN 7 24 (.pointer (some ⟨w.heap.size, k, none⟩)) rfl (by kernel_rfl) hI (fun _ _ _ h => h) (fun wz hz => ?_) ?_
        · go_simp
        try simp only [Act.put, List.setIfInBounds_toArray, List.set_cons_zero, List.set_cons_succ]
        refine tN 8 25 (.string (ofB (headB k))) rfl (by kernel_rfl) hI (fun _ _ _ h => h) (fun wz hz => ?_) ?_
        · obtain ⟨z0, z1, z2⟩ := hz; go_simp
        try simp only [Act.put, List.setIfInBounds_toArray, List.set_cons_zero, List.set_cons_succ]
        refine tN 9 26 (.string (X0 ++ ofB (headB k))) rfl (by kernel_rfl) hI (fun _ _ _ h => h) (fun wz hz => ?_) ?_
        · go_simp; omega
        try simp only [Act.put, List.setIfInBounds_toArray, List.set_cons_zero, List.set_cons_succ]
        refine tN 10 27 (.slice (some ⟨g, 0, none⟩) N cap) rfl (by kernel_rfl) hI (fun _ _ _ h => h) (fun wz hz => ?_) ?_
        · rfl
        try simp only [Act.put, List.setIfInBounds_toArray, List.set_cons_zero, List.set_cons_succ]
        refine tN 11 28 (.int .i64 ((n : Nat) : Int)) rfl (by kernel_rfl) hI (fun _ _ _ h => h) (fun wz hz => ?_) ?_
        · rfl
        try simp only [Act.put, List.setIfInBounds_toArray, List.set_cons_zero, List.set_cons_succ]
        refine tN 12 29 (.pointer (some ⟨g, n * 2, none⟩)) rfl (by kernel_rfl) hI (fun _ _ _ h => h) (fun wz hz => ?_) ?_
        · go_simp
        try simp only [Act.put, List.setIfInBounds_toArray, List.set_cons_zero, List.set_cons_succ]
        refine tN 13 30 (.pointer (some ⟨g, n * 2 + 1, none⟩)) rfl (by kernel_rfl) hI (fun _ _ _ h => h) (fun wz hz => ?_) ?_
        · go_simp
        try simp only [Act.put, List.setIfInBounds_toArray, List.set_cons_zero, List.set_cons_succ]
        refine tN 14 31 (.string (ofB p)) rfl (by kernel_rfl) hI (fun _ _ _ h => h) (fun wz hz => ?_) ?_
        · obtain ⟨z0, z1, z2⟩ := hz; go_simp
        try simp only [Act.put, List.setIfInBounds_toArray, List.set_cons_zero, List.set_cons_succ]
        refine tN 15 32 (.string (X0 ++ ofB (headB k) ++ ofB p)) rfl (by kernel_rfl) hI (fun _ _ _ h => h) (fun wz hz => ?_) ?_
        · go_simp; omega
        try simp only [Act.put, List.setIfInBounds_toArray, List.set_cons_zero, List.set_cons_succ]
        refine tN 16 4 (.string (X0 ++ ofB (headB k) ++ ofB p)) rfl (by kernel_rfl) hI (fun _ _ _ h => h) (fun wz hz => ?_) ?_
        · rfl
        try simp only [Act.put, List.setIfInBounds_toArray, List.set_cons_zero, List.set_cons_succ]
        refine doneN (by kernel_rfl) ?_
        clear hI HY
        rw [HX.out]
        go_wp2
        go_roundw
        case rel => exact ⟨n + 1, _, rfl, by go_num, by omega, rfl, HBd⟩
        case measure => simp; omega
    · have hn2 : n = N := by omega
      subst hn2
      have hs := HS.out
      rw [List.take_of_length_le (by rw [HN.out]; exact Nat.le_refl _)] at hs
      subst hs
      have HBw : Hid (Below w.heap.size w wr) := HB0.out.1.trans (HB.out.mono (Nat.le_of_lt HB0.out.2))
      clear HS
      go_wp2
      go_ret
      exact ⟨rfl, HBw.out⟩
end Go.Proofs.YtpngnhpnjkepjaaGreatDoor
