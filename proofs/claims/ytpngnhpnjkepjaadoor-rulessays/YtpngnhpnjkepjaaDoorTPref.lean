/-
  The reference's Prefer by contract.
-/
import Derived.Test.YtpngnhpnjkepjaaDoorTPlain
import Derived.Test.YtpngnhpnjkepjaaDoorTParse
import Derived.Deep.Cut
namespace Go.Proofs.YtpngnhpnjkepjaaDoor
open Go.RowKit

set_option maxHeartbeats 2000000 in
set_option maxRecDepth 100000 in
theorem tpref_any (v : Value) (L : List Ru) (q : ByteArray) (w : World) (hv : HasR w v L) (hL : ∀ r ∈ L, r.1 = 1 ∨ r.1 = 2 ∨ r.1 = 3) (hS : ShortR L) (hq : q.size ≤ 1048576) :
    Calls Tryd.prog 17 #[v, .string q] w fun e w' => e = .returned (.int .i64 (prefR L (tl q) : Int)) ∧ Below w.heap.size w w' := by
  have HV : Hid (HasR w v L) := hv
  have HL : Hid (∀ r ∈ L, r.1 = 1 ∨ r.1 = 2 ∨ r.1 = 3) := hL
  have HS : Hid (ShortR L) := hS
  obtain ⟨ao, cap, hvf⟩ := hv.form
  have hn := hS.2
  clear hv hL hS
  obtain ⟨N, hN⟩ : ∃ N, L.length = N := ⟨_, rfl⟩
  rw [hN] at hvf hn
  have HN : Hid (L.length = N) := hN
  subst hvf
  clear hN
  go_enter Tryd.func17, Tryd.ntmps17
  go_wp2
  go_loopw [5, 6] (fun t5 t6 wr => ∃ (n sd : Nat), t5 = .int .i64 (sd : Int) ∧ t6 = .int .i64 (n : Int) ∧ n ≤ N ∧ Hid (sd = prefR (L.take n) (tl q)) ∧ Hid (Below w.heap.size w wr)) (fun _ t6 wr => N - iOf t6)
  case atStart => exact ⟨0, 0, rfl, rfl, Nat.zero_le _, by simp only [List.take_zero]; rfl, Below.refl _ _⟩
  case round =>
    obtain ⟨n, sd, rfl, rfl, hnN, HD, HB⟩ := hrel
    by_cases hlt : n < N
    · have i1 : (n : Int) < (N : Int) := by omega
      obtain ⟨r, hr⟩ : ∃ r, L[n]? = some r := ⟨_, List.getElem?_eq_getElem (by rw [HN.out]; exact hlt)⟩
      obtain ⟨g, rfl, hc⟩ : ∃ g, ao = some ⟨g, 0, none⟩ ∧ ∀ i r, L[i]? = some r → wr.cell? ⟨g, i * 2, none⟩ = some (.int .i64 (r.1 : Int)) ∧ wr.cell? ⟨g, i * 2 + 1, none⟩ = some (.string (ofB r.2)) := by
        rcases HV.out.up HB.out with ⟨_, h⟩ | ⟨_, g, c2, hv, _, h⟩
        · subst h; simp at hr
        · cases hv; exact ⟨g, rfl, h⟩
      obtain ⟨y0, y1⟩ := hc n r hr
      clear hc
      have hm := List.mem_of_getElem? hr
      have hsn := prefR_snoc (L.take n) r (tl q) (HL.out r hm)
      rw [← take_snoc hr, ← HD.out] at hsn
      have hk := HL.out r hm
      have hrl := HS.out.1 r hm
      obtain ⟨k, p⟩ := r
      simp only at hsn hk y0 y1 hrl
      have C28 := fun W => refMatch_any (ofB p) q W (by rw [ofB_size]; omega) hq
      rw [tl_ofB] at C28
      obtain ⟨M, hM⟩ : ∃ M, matchV p (tl q) = M := ⟨_, rfl⟩
      rw [hM] at C28 hsn
      obtain ⟨mb, me⟩ := M
      simp only at C28 hsn
      clear hr hm hM HD
      by_cases h1 : k = 1
      · subst h1
        rw [if_pos rfl] at hsn
        have HD2 : Hid (sd = prefR (L.take (n + 1)) (tl q)) := hsn.symm
        clear hsn C28 hk hrl
        go_wp2
        go_roundw
        case rel => exact ⟨n + 1, sd, rfl, by go_num, by omega, HD2, HB⟩
        case measure => simp; omega
      · rw [if_neg h1] at hsn
        have b1 : ((k : Int) == 1) = false := by simp; omega
        have k2 : 2 ≤ k ∧ k ≤ 3 := by omega
        cases mb with
        | true =>
          rw [if_pos rfl] at hsn
          have HD2 : Hid (k - 1 = prefR (L.take (n + 1)) (tl q)) := hsn.symm
          clear hsn hk hrl h1
          have hkk : (k : Int) - 1 = ((k - 1 : Nat) : Int) := by omega
          go_wp2_with (go_at_call 28; refine (C28 _).mono ?_; rintro e w2 ⟨rfl, hg2⟩; have z0 := ((hg2.cell (p := ⟨g, n * 2, none⟩) (World.block_lt_of_cell? _ _ y0)).trans y0))
          have HB2 : Hid (Below w.heap.size w w2) := Below.up HB.out hg2
          go_roundw
          case rel => exact ⟨n + 1, k - 1, by rw [← hkk], by go_num, by omega, HD2, HB2⟩
          case measure => simp; omega
        | false =>
          rw [if_neg (by simp)] at hsn
          have HD2 : Hid (sd = prefR (L.take (n + 1)) (tl q)) := hsn.symm
          clear hsn hk hrl h1
          go_wp2_with (go_at_call 28; refine (C28 _).mono ?_; rintro e w2 ⟨rfl, hg2⟩)
          have HB2 : Hid (Below w.heap.size w w2) := Below.up HB.out hg2
          go_roundw
          case rel => exact ⟨n + 1, sd, rfl, by go_num, by omega, HD2, HB2⟩
          case measure => simp; omega
    · have hn2 : n = N := by omega
      subst hn2
      have hD := HD.out
      rw [List.take_of_length_le (by rw [HN.out]; exact Nat.le_refl _)] at hD
      subst hD
      clear HD
      go_wp2
      go_ret
      exact ⟨rfl, HB.out⟩
end Go.Proofs.YtpngnhpnjkepjaaDoor
