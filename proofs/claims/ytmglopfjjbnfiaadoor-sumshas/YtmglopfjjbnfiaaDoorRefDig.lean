/-
  The reference's Digest by contract.
-/
import Derived.Test.YtmglopfjjbnfiaaDoorRefCrc
namespace Go.Proofs.YtmglopfjjbnfiaaDoor
open Go.RowKit

set_option maxHeartbeats 4000000 in
set_option maxRecDepth 100000 in
theorem refDigest_any (v : Value) (L : List Nat) (w : World) (hv : Has w v L) (hB : Bytes L) (hl : L.length ≤ 100000) :
    Calls Tryd.prog 19 #[v] w fun e w' => e = .returned (.agg ((digest L).map vb).toArray) ∧ Below w.heap.size w w' := by
  obtain ⟨ao, cap, rfl, hcap⟩ := hv.form
  have HV : Hid (Has w (.slice ao L.length cap) L ∧ Bytes L) := ⟨hv, hB⟩
  obtain ⟨n, hn⟩ : ∃ n, n = L.length := ⟨_, rfl⟩
  have HN : Hid (n = L.length) := hn
  rw [← hn] at hl hcap ⊢
  clear hv hB hn
  go_enter Tryd.func19, Tryd.ntmps19
  go_upto_region 1 with fail
  rw [z41]
  refine step_world (fun W => W.heap[w.heap.size]? = some (.cells (bfill 32 []) 41 (0, 0)) ∧ Below w.heap.size w W ∧ w.heap.size + 1 ≤ W.heap.size) ⟨heap_alloc_new _ _, (Below.refl _ w).alloc (Nat.le_refl _) _, by simp⟩ fun w0 HH0 => ?_
  have H0 : Hid (w0.heap[w.heap.size]? = some (.cells (bfill 32 []) 41 (0, 0)) ∧ Below w.heap.size w w0 ∧ w.heap.size + 1 ≤ w0.heap.size) := HH0
  clear HH0
  go_wp2_with fail
  go_loopw [3, 4] (fun lv i wr => ∃ (k : Nat) (T : List Nat), k ≤ (n + 511) / 512 ∧ i = .int .i64 ((512 * k : Nat) : Int) ∧ Hid (T = ((upto (pieceB L) k).map Sha.sha).flatten) ∧ Hid (Owns wr (w.heap.size + 1) lv T) ∧ Hid (wr.heap[w.heap.size]? = some (.cells (bfill 32 []) 41 (0, 0)) ∧ Below w.heap.size w wr ∧ w.heap.size + 1 ≤ wr.heap.size)) (fun _ i _ => n + 512 - (intOf i).toNat)
  case atStart => exact ⟨0, [], by omega, rfl, rfl, Owns.nil _ _, H0.out⟩
  case round =>
    clear H0
    obtain ⟨k, T, hk, rfl, HT, HO, HW⟩ := hrel
    have hTl : T.length = 32 * k := by rw [HT.out, flat_len, upto_length]
    obtain ⟨lo', lc, e0, _⟩ := HO.out.has.form
    subst e0
    by_cases hlt : 512 * k < n
    · obtain ⟨a, rfl⟩ : ∃ a, ao = some a := by
        rcases HV.out.1 with ⟨e, h⟩ | ⟨a, c, e, _⟩
        · have := HN.out; rw [h] at this; simp at this; omega
        · simp only [Value.slice.injEq] at e; exact ⟨a, e.1⟩
      obtain ⟨lo2, hlo⟩ : ∃ lo, lo = 512 * k := ⟨_, rfl⟩
      obtain ⟨m, hm⟩ : ∃ m, m = min 512 (n - lo2) := ⟨_, rfl⟩
      obtain ⟨hi, hhi⟩ : ∃ hi, hi = lo2 + m := ⟨_, rfl⟩
      obtain ⟨A, hA⟩ : ∃ A, A = a.add lo2 := ⟨_, rfl⟩
      have HLO : Hid (lo2 = 512 * k ∧ k + 1 ≤ (n + 511) / 512 ∧ lo2 + 512 = 512 * (k + 1)) := ⟨hlo, by omega, by omega⟩
      have hpl : (pieceB L k).length = m := by unfold pieceB; rw [List.length_take, List.length_drop, ← HN.out, hm, hlo]
      have HX : Hid (Has w (.slice (some A) m (cap - lo2)) (pieceB L k) ∧ Bytes (pieceB L k)) := by
        refine ⟨?_, fun x hx => HV.out.2 x (List.mem_of_mem_drop (List.mem_of_mem_take hx))⟩
        rw [hA]
        have h1 := HV.out.1
        refine Has.part h1 lo2 m _ ?_ (by have := HN.out; omega)
        unfold pieceB
        rw [hlo]
        by_cases h5 : m = 512
        · rw [h5]
        · rw [List.take_of_length_le (by rw [List.length_drop, ← HN.out]; omega), List.take_of_length_le (by rw [List.length_drop, ← HN.out]; omega)]
      have hsl := cut43 a n cap lo2 hi (by omega) (by omega) hcap
      rw [← hA, show hi - lo2 = m by omega] at hsl
      have hmin : (if (n : Int) < (lo2 : Int) + 512 then (n : Int) else (lo2 : Int) + 512) = (hi : Int) := by split <;> omega
      have hw1 : IntKind.i64.wrap ((lo2 : Int) + 512) = (lo2 : Int) + 512 := by rw [IntKind.wrap_i64]; omega
      have hltI : (lo2 : Int) < (n : Int) := by omega
      obtain ⟨S, hS⟩ : ∃ S, S = Sha.sha (pieceB L k) := ⟨_, rfl⟩
      have HSS : Hid (S.length = 32 ∧ T ++ S = ((upto (pieceB L) (k + 1)).map Sha.sha).flatten ∧ T.length + 32 ≤ 16777216) := ⟨by rw [hS]; exact sha_len _, by rw [upto_succ, HT.out, hS]; simp, by omega⟩
      obtain ⟨c, hc⟩ : ∃ c, c = (S.map vb).toArray := ⟨_, rfl⟩
      have HCE : Hid (c = (S.map vb).toArray) := hc
      have HF : Hid ((Tryd.prog.info? 41).map (·.size) = some c.size ∧ (bfill 32 []).size = c.size ∧ c.all (·.oneCell') = true) := by rw [hc, hS]; exact ⟨hz41 _, ho41 _, all_vb _⟩
      have C11 : Hid (Calls Tryd.prog 11 #[.slice (some A) m (cap - lo2)] wr fun e w' => e = .returned (.agg c) ∧ Below wr.heap.size wr w') := by
        rw [hc, hS]
        exact refSha_any _ (pieceB L k) wr (HX.out.1.below HW.out.2.1) HX.out.2 (by omega)
      have hs32 := slice41_all
      rw [← hlo]
      clear hlo hm hhi hA hc hS hk HX hlt hpl hTl HT
      go_upto_region 6 with (first
        | (go_at_call 11; refine C11.out.mono ?_; rintro e w5 ⟨rfl, h5⟩; have H5 : Hid (Below wr.heap.size wr w5) := h5; clear h5)
        | refine wpList_store_row rfl 41 (.tmp 5) (.tmp 20) rfl _ c rfl rfl 41 _ (heap_alloc_new _ _) HF.out.1 HF.out.2.1 HF.out.2.2 ?_)
      refine step_world (fun W => W.heap[w5.heap.size]? = some (.cells c 41 (0, 0)) ∧ Owns W (w.heap.size + 1) (.slice lo' T.length lc) T ∧ W.heap[w.heap.size]? = some (.cells (bfill 32 []) 41 (0, 0)) ∧ Below w.heap.size w W ∧ w.heap.size + 1 ≤ W.heap.size) ?_ fun w6 HH6 => ?_
      · have hs5 := H5.out.size
        have hb : ∀ j, j < wr.heap.size → (World.setRow (w5.alloc (.cells (bfill 32 []) 41)) w5.heap.size c).heap[j]? = wr.heap[j]? := fun j hj => by
          rw [setRow_other _ _ _ _ (by omega), heap_alloc_old _ _ (by omega), H5.out.block j hj]
        have hw := HW.out
        refine ⟨setRow_heap _ _ _ _ _ _ (heap_alloc_new _ _), HO.out.block fun q hq => hb q (HO.out.lt q hq).2, ?_, ?_, ?_⟩
        · refine (hb _ (by omega)).trans hw.1
        · exact below_setRow ((Below.up hw.2.1 H5.out).alloc (Below.up hw.2.1 H5.out).size _) (Below.up hw.2.1 H5.out).size _
        · simp [World.setRow]; omega
      obtain ⟨g5, hg5⟩ : ∃ g5, g5 = w5.heap.size := ⟨_, rfl⟩
      rw [← hg5] at HH6 ⊢
      have H6 : Hid (w6.heap[g5]? = some (.cells c 41 (0, 0)) ∧ Owns w6 (w.heap.size + 1) (.slice lo' T.length lc) T ∧ w6.heap[w.heap.size]? = some (.cells (bfill 32 []) 41 (0, 0)) ∧ Below w.heap.size w w6 ∧ w.heap.size + 1 ≤ w6.heap.size) := HH6
      have hs5 := hs32 g5
      clear HH6 hg5 H5 C11 HO HW HF hs32
      go_wp2_with (at_builtin; refine wpList_append_has rfl (.tmp 21) (.tmp 22) rfl (w.heap.size + 1) _ _ T S rfl rfl H6.out.2.1 (by have h := has_fr _ S HCE.out H6.out.1; rw [HSS.out.1] at h; exact h) (by have := HSS.out; omega) H6.out.2.2.2.2 ?_; intro v7 w7 ho7 hb7; have H7 : Hid (Owns w7 (w.heap.size + 1) v7 (T ++ S) ∧ w7.heap[w.heap.size]? = some (.cells (bfill 32 []) 41 (0, 0)) ∧ Below w.heap.size w w7 ∧ w.heap.size + 1 ≤ w7.heap.size) := ⟨ho7, by rw [hb7.block _ (by omega)]; exact H6.out.2.2.1, H6.out.2.2.2.1.trans (hb7.mono (by omega)), Nat.le_trans H6.out.2.2.2.2 hb7.size⟩; clear ho7 hb7)
      obtain ⟨vo, vc, e7, _⟩ := H7.out.1.has.form
      subst e7
      go_roundw
      case rel => exact ⟨k + 1, T ++ S, HLO.out.2.1, by rw [← HLO.out.2.2]; go_num, HSS.out.2.1, H7.out.1, H7.out.2⟩
      case measure => simp [intOf]; omega
    · have hkk : k = (n + 511) / 512 := by omega
      obtain ⟨c, hc⟩ : ∃ c, c = ((digest L).map vb).toArray := ⟨_, rfl⟩
      have HCE : Hid (c = ((digest L).map vb).toArray) := hc
      have hdig : digest L = Sha.sha T := by rw [HT.out, digest, pieces, ← HN.out, hkk]
      have HF : Hid ((Tryd.prog.info? 41).map (·.size) = some c.size ∧ (bfill 32 []).size = c.size ∧ c.all (·.oneCell') = true) := by rw [hc, hdig]; exact ⟨hz41 _, ho41 _, all_vb _⟩
      have hBT : Bytes T := by
        rw [HT.out]
        intro x hx
        obtain ⟨y, hy, hxy⟩ := List.mem_flatten.1 hx
        obtain ⟨z, _, rfl⟩ := List.mem_map.1 hy
        exact bytes_sha _ x hxy
      have C11 : Hid (Calls Tryd.prog 11 #[.slice lo' T.length lc] wr fun e w' => e = .returned (.agg c) ∧ (w'.heap[w.heap.size]? = some (.cells (bfill 32 []) 41 (0, 0)) ∧ Below w.heap.size w w')) := by
        rw [hc, hdig]
        refine (refSha_any _ T wr HO.out.has hBT (by omega)).mono fun e w' ⟨q1, q2⟩ => ⟨q1, ?_, Below.up HW.out.2.1 q2⟩
        rw [q2.block _ (by have := HW.out.2.2; omega)]; exact HW.out.1
      have hltI : ¬ (((512 * k : Nat) : Int) < (n : Int)) := by omega
      obtain ⟨lo2, hlo⟩ : ∃ lo, lo = 512 * k := ⟨_, rfl⟩
      rw [← hlo] at hltI ⊢
      clear hlo hkk hlt hdig hc hk HO HW HT hBT hTl
      go_wp2_with (first
        | (go_at_call 11; refine C11.out.mono ?_; rintro e w5 ⟨rfl, h5⟩; have H5 : Hid (w5.heap[w.heap.size]? = some (.cells (bfill 32 []) 41 (0, 0)) ∧ Below w.heap.size w w5) := h5; clear h5)
        | refine wpList_store_row rfl 41 (.tmp 2) (.tmp 25) rfl w.heap.size c rfl rfl 41 (bfill 32 []) H5.out.1 HF.out.1 HF.out.2.1 HF.out.2.2 ?_)
      refine bodyPost_ret (results_cell_row (P := Tryd.prog) rfl _ _ w.heap.size 41 c (0, 0) (.array 32 5) rfl (setRow_heap _ _ _ _ _ _ H5.out.1) Tryd.underlying41 rfl HF.out.1) rfl ⟨by rw [HCE.out], below_setRow H5.out.2 (Nat.le_refl _) _⟩
end Go.Proofs.YtmglopfjjbnfiaaDoor
