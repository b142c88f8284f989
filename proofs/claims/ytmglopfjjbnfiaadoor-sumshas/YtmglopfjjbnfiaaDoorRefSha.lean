/-
  The reference's SHA by contract.
-/
import Derived.Test.YtmglopfjjbnfiaaDoorRefShaP
namespace Go.Proofs.YtmglopfjjbnfiaaDoor
open Go.RowKit

set_option maxHeartbeats 4000000 in
set_option maxRecDepth 100000 in
theorem refSha_any (v : Value) (l : List Nat) (w : World) (hv : Has w v l) (hB : Bytes l) (hl : l.length ≤ 100000) :
    Calls Tryd.prog 11 #[v] w fun e w' => e = .returned (.agg ((Sha.sha l).map vb).toArray) ∧ Below w.heap.size w w' := by
  obtain ⟨P, hP⟩ : ∃ P, P = Sha.pad l := ⟨_, rfl⟩
  obtain ⟨n, hn⟩ : ∃ n, n = P.length / 64 := ⟨_, rfl⟩
  have hPl : P.length = 64 * n := by rw [hn, hP]; exact pad_len l
  obtain ⟨mx, hmx⟩ : ∃ mx, mx = Sha.mix := ⟨_, rfl⟩
  have HS : Hid (Sha.sha l = Sha.out (Sha.blocks mx n P Sha.first)) := by show _ = _; rw [hmx, hn, hP]; unfold Sha.sha Sha.shaF; rfl
  have HMO : Hid (∀ k, vok (Sha.blocks mx k P Sha.first)) := fun k => blocks_okF (by rw [hmx]; exact mix_ok) k P _ first_ok
  have C43 : Hid (∀ wz vh vk vb' V b, HasQ wz vh (vlist V) → vok V → HasQ wz vk Sha.ks → Has wz vb' b → Bytes b → b.length = 64 → Calls Tryd.prog 43 #[vh, vk, vb'] wz fun e w' => ∃ g c, e = .returned (.slice (some ⟨g, 0, none⟩) 8 c) ∧ (HasQ w' (.slice (some ⟨g, 0, none⟩) 8 c) (vlist (mx V b)) ∧ Below wz.heap.size wz w')) := fun wz vh vk vb' V b q1 q2 q3 q4 q5 q6 =>
    (block_any vh vk vb' V b wz q1 q2 q3 q4 q5 q6).mono fun e w' ⟨u, r1, r2, r3⟩ => by
      rw [← hmx] at r2
      obtain ⟨g, c, e2, _⟩ := r2.has.at (by simp [vlist])
      rw [show (vlist (mx V b)).length = 8 from rfl] at e2
      exact ⟨g, c, by rw [r1, e2], by rw [← e2]; exact r2.has, r3⟩
  have hPs : P.length ≤ 110000 := by rw [hP, padded_eq]; simp only [List.length_append, List.length_cons, List.length_replicate, Sha.tail8_len]; omega
  have hPp : 0 < P.length := by rw [hP, padded_eq]; simp only [List.length_append, List.length_cons, List.length_replicate, Sha.tail8_len]; omega
  have HPB : Hid (Bytes P) := by show Bytes P; rw [hP]; exact pad_bytes hB
  obtain ⟨pn, hpn⟩ : ∃ pn, pn = P.length := ⟨_, rfl⟩
  have HPN : Hid (pn = P.length ∧ pn = 64 * n) := ⟨hpn, by omega⟩
  have C40 : Hid (∀ wz, Calls Tryd.prog 40 #[] wz fun e w' => ∃ gs cs, e = .returned (.slice (some ⟨gs, 0, none⟩) 8 cs) ∧ (HasQ w' (.slice (some ⟨gs, 0, none⟩) 8 cs) (vlist Sha.first) ∧ Below wz.heap.size wz w')) := fun wz =>
    (starts_any wz).mono fun e w' ⟨u, q1, q2, q3⟩ => by
      obtain ⟨g, c, e2, _⟩ := q2.at (by simp [vlist])
      rw [show (vlist Sha.first).length = 8 from rfl] at e2
      exact ⟨g, c, by rw [q1, e2], by rw [← e2]; exact q2, q3⟩
  have C41 : Hid (∀ wz, Calls Tryd.prog 41 #[] wz fun e w' => ∃ gs cs, e = .returned (.slice (some ⟨gs, 0, none⟩) 64 cs) ∧ (HasQ w' (.slice (some ⟨gs, 0, none⟩) 64 cs) Sha.ks ∧ Below wz.heap.size wz w')) := fun wz =>
    (roots_any wz).mono fun e w' ⟨u, q1, q2, q3⟩ => by
      obtain ⟨g, c, e2, _⟩ := q2.at (by decide)
      rw [show Sha.ks.length = 64 from rfl] at e2
      exact ⟨g, c, by rw [q1, e2], by rw [← e2]; exact q2, q3⟩
  have C42 : Hid (∀ wz, Below w.heap.size w wz → Calls Tryd.prog 42 #[v] wz fun e w' => ∃ a pc, e = .returned (.slice (some a) pn pc) ∧ (Has w' (.slice (some a) pn pc) P ∧ pn ≤ pc ∧ Below wz.heap.size wz w')) := fun wz hz =>
    (padded_any v l wz (hv.below hz) hl).mono fun e w' ⟨u, q1, q2, q3⟩ => by
      rw [← hP] at q2
      have q4 := q2.has
      rcases q4 with ⟨_, h0⟩ | ⟨a, c, e2, hc, hcell⟩
      · rw [h0] at hPp; cases hPp
      · rw [← hpn] at e2 hc
        exact ⟨a, c, by rw [q1, e2], by rw [← e2]; exact q2.has, hc, q3⟩
  rw [← hpn] at hPs
  clear hv hB hl hP hn hmx hPl hPp hpn
  go_enter Tryd.func11, Tryd.ntmps11
  go_upto_region 1 with fail
  rw [z41]
  refine step_world (fun W => W.heap[w.heap.size]? = some (.cells (bfill 32 []) 41 (0, 0)) ∧ Below w.heap.size w W) ⟨heap_alloc_new _ _, (Below.refl _ w).alloc (Nat.le_refl _) _⟩ fun w0 HH0 => ?_
  have H0 : Hid (w0.heap[w.heap.size]? = some (.cells (bfill 32 []) 41 (0, 0)) ∧ Below w.heap.size w w0) := HH0
  clear HH0
  go_upto_region 3 with (first
    | (go_at_call 40; refine (C40.out _).mono ?_; rintro e w1 ⟨g1, c1, rfl, h1⟩; have H1 : Hid (HasQ w1 (.slice (some ⟨g1, 0, none⟩) 8 c1) (vlist Sha.first) ∧ Below w0.heap.size w0 w1) := h1; clear h1)
    | (go_at_call 41; refine (C41.out _).mono ?_; rintro e w2 ⟨g2, c2, rfl, h2⟩; have H2 : Hid (HasQ w2 (.slice (some ⟨g2, 0, none⟩) 64 c2) Sha.ks ∧ HasQ w2 (.slice (some ⟨g1, 0, none⟩) 8 c1) (vlist Sha.first) ∧ Below w0.heap.size w0 w2) := ⟨h2.1, H1.out.1.below h2.2, H1.out.2.trans (h2.2.mono H1.out.2.size)⟩; clear h2)
    | (go_at_call 42; refine (C42.out _ (Below.up H0.out.2 H2.out.2.2)).mono ?_; rintro e w3 ⟨a, pc, rfl, h3⟩; have H3 : Hid (Has w3 (.slice (some a) pn pc) P ∧ HasQ w3 (.slice (some ⟨g2, 0, none⟩) 64 c2) Sha.ks ∧ HasQ w3 (.slice (some ⟨g1, 0, none⟩) 8 c1) (vlist Sha.first) ∧ w3.heap[w.heap.size]? = some (.cells (bfill 32 []) 41 (0, 0)) ∧ Below w.heap.size w w3) := ⟨h3.1, H2.out.1.below h3.2.2, H2.out.2.1.below h3.2.2, by rw [h3.2.2.block _ (by have := (Array.getElem?_eq_some_iff.1 H0.out.1).1; have := H2.out.2.2.size; omega), H2.out.2.2.block _ (Array.getElem?_eq_some_iff.1 H0.out.1).1]; exact H0.out.1, Below.up (Below.up H0.out.2 H2.out.2.2) h3.2.2⟩; have hpc := h3.2.1; clear h3))
  clear H0 H1 H2 C40 C41 C42
  go_wp2_with fail
  go_loopw [3, 6] (fun hv i wr => ∃ (k gv cv : Nat), k ≤ n ∧ i = .int .i64 ((64 * k : Nat) : Int) ∧ hv = .slice (some ⟨gv, 0, none⟩) 8 cv ∧ Hid (HasQ wr (.slice (some ⟨gv, 0, none⟩) 8 cv) (vlist (Sha.blocks mx k P Sha.first))) ∧ Hid (Below w3.heap.size w3 wr)) (fun _ i _ => pn + 64 - (intOf i).toNat)
  case atStart => exact ⟨0, g1, c1, by omega, rfl, rfl, H3.out.2.2.1, Below.refl _ _⟩
  case round =>
    obtain ⟨k, gv, cv, hk, rfl, rfl, HV, HW⟩ := hrel
    by_cases hlt : k < n
    · have hp64 := HPN.out.2
      obtain ⟨lo, hlo⟩ : ∃ lo, lo = 64 * k := ⟨_, rfl⟩
      obtain ⟨A, hA⟩ : ∃ A, A = a.add lo := ⟨_, rfl⟩
      have hsl := cut43 a pn pc lo (lo + 64) (by omega) (by omega) hpc
      rw [← hA, show lo + 64 - lo = 64 by omega, show ((lo + 64 : Nat) : Int) = (lo : Int) + 64 by omega] at hsl
      have hw1 : IntKind.i64.wrap ((lo : Int) + 64) = (lo : Int) + 64 := by rw [IntKind.wrap_i64]; omega
      have hltI : (lo : Int) < (pn : Int) := by omega
      have HLO : Hid (lo + 64 = 64 * (k + 1) ∧ k + 1 ≤ n) := ⟨by omega, by omega⟩
      have C : Hid (Calls Tryd.prog 43 #[.slice (some ⟨gv, 0, none⟩) 8 cv, .slice (some ⟨g2, 0, none⟩) 64 c2, .slice (some A) 64 (pc - lo)] wr fun e w' => ∃ g c, e = .returned (.slice (some ⟨g, 0, none⟩) 8 c) ∧ (HasQ w' (.slice (some ⟨g, 0, none⟩) 8 c) (vlist (Sha.blocks mx (k + 1) P Sha.first)) ∧ Below w3.heap.size w3 w')) := by
        rw [blocks_nextF]
        refine (C43.out wr _ _ (.slice (some A) 64 (pc - lo)) _ ((P.drop (64 * k)).take 64) HV.out (HMO.out k) (H3.out.2.1.below HW.out) ?_ (fun x hx => HPB.out x (List.mem_of_mem_drop (List.mem_of_mem_take hx))) (by have := HPN.out; rw [List.length_take, List.length_drop]; omega)).mono fun e w' ⟨g, c, q1, q2, q3⟩ => ⟨g, c, q1, q2, Below.up HW.out q3⟩
        rw [hA]
        have h3 := H3.out.1
        have hpn := HPN.out.1
        rw [hpn] at h3
        exact Has.part (h3.below HW.out) lo 64 _ (by rw [hlo]) (by omega)
      rw [← hlo]
      clear hlo hA hp64 hlt hk HV
      go_wp2_with (go_at_call 43; refine C.out.mono ?_; rintro e w4 ⟨g4, c4, rfl, h4⟩; have H4 : Hid (HasQ w4 (.slice (some ⟨g4, 0, none⟩) 8 c4) (vlist (Sha.blocks mx (k + 1) P Sha.first)) ∧ Below w3.heap.size w3 w4) := h4; clear h4)
      go_roundw
      case rel => exact ⟨k + 1, g4, c4, HLO.out.2, by rw [← HLO.out.1]; go_num, rfl, H4.out.1, H4.out.2⟩
      case measure => simp [intOf]; omega
    · obtain rfl : k = n := by omega
      have hp64 := HPN.out.2
      have hltI : ¬ (((64 * k : Nat) : Int) < (pn : Int)) := by omega
      obtain ⟨lo, hlo⟩ : ∃ lo, lo = 64 * k := ⟨_, rfl⟩
      rw [← hlo] at hltI ⊢
      obtain ⟨V, hV⟩ : ∃ V, V = Sha.blocks mx k P Sha.first := ⟨_, rfl⟩
      obtain ⟨O, hO⟩ : ∃ O, O = Sha.sha l := ⟨_, rfl⟩
      have HOO : Hid (O = Sha.out V ∧ O.length = 32 ∧ O = Sha.sha l ∧ vok V) := ⟨by rw [hO, HS.out, hV], by rw [hO]; exact sha_len l, hO, by rw [hV]; exact HMO.out k⟩
      rw [← hV] at HV
      have hsz : w.heap.size < wr.heap.size := by have := (Array.getElem?_eq_some_iff.1 H3.out.2.2.2.1).1; have := HW.out.size; omega
      have H5 : Hid (wr.heap[w.heap.size]? = some (.cells (bfill 32 []) 41 (0, 0)) ∧ Below w.heap.size w wr ∧ HasQ wr (.slice (some ⟨gv, 0, none⟩) 8 cv) (vlist V)) := ⟨by rw [HW.out.block _ (Array.getElem?_eq_some_iff.1 H3.out.2.2.2.1).1]; exact H3.out.2.2.2.1, Below.up H3.out.2.2.2.2 HW.out, HV.out⟩
      clear hV hO hlo hp64 hlt hk HV HW H3 HS HMO C43 HPB
      go_upto_region 8 with fail
      rw [z41]
      refine step_world (fun W => W.heap[wr.heap.size]? = some (.cells (bfill 32 (O.take 0)) 41 (0, 0)) ∧ W.heap[w.heap.size]? = some (.cells (bfill 32 []) 41 (0, 0)) ∧ Below w.heap.size w W ∧ HasQ W (.slice (some ⟨gv, 0, none⟩) 8 cv) (vlist V)) ⟨heap_alloc_new _ _, by rw [heap_alloc_old _ _ hsz]; exact H5.out.1, H5.out.2.1.alloc H5.out.2.1.size _, H5.out.2.2.below ((Below.refl _ wr).alloc (Nat.le_refl _) _)⟩ fun w6 HH6 => ?_
      obtain ⟨g7, hg7⟩ : ∃ g7, g7 = wr.heap.size := ⟨_, rfl⟩
      rw [← hg7] at HH6 hsz ⊢
      have H6 : Hid (w6.heap[g7]? = some (.cells (bfill 32 (O.take 0)) 41 (0, 0)) ∧ w6.heap[w.heap.size]? = some (.cells (bfill 32 []) 41 (0, 0)) ∧ Below w.heap.size w w6 ∧ HasQ w6 (.slice (some ⟨gv, 0, none⟩) 8 cv) (vlist V)) := HH6
      have hgv : gv ≠ g7 := by
        have h := vlist_has H5.out.2.2 0 (by omega)
        have := block_lt_of_cell h
        rw [hg7]
        show gv ≠ wr.heap.size
        have : gv < wr.heap.size := this
        omega
      clear HH6 hg7 H5
      go_wp2_with fail
      go_loopw [8] (fun i wr => ∃ (k : Nat), k ≤ 32 ∧ i = .int .i64 k ∧ Hid (wr.heap[g7]? = some (.cells (bfill 32 (O.take k)) 41 (0, 0)) ∧ wr.heap[w.heap.size]? = some (.cells (bfill 32 []) 41 (0, 0)) ∧ Below w.heap.size w wr ∧ HasQ wr (.slice (some ⟨gv, 0, none⟩) 8 cv) (vlist V))) (fun i _ => 32 - (intOf i).toNat)
      case atStart => exact ⟨0, by omega, rfl, H6.out⟩
      case round =>
        clear H6
        obtain ⟨k, hk, rfl, HR⟩ := hrel
        by_cases hlt : k < 32
        · have hkI : (k : Int) < 32 := by omega
          obtain ⟨x, hx⟩ : ∃ x, x = (vlist V).getD (k / 4) 0 := ⟨_, rfl⟩
          have hxl : x < 4294967296 := by rw [hx]; exact vlist_lt HOO.out.2.2.2 _
          obtain ⟨q, hq⟩ : ∃ q, q = x / 2 ^ (24 - 8 * (k % 4)) := ⟨_, rfl⟩
          have hqI : (x : Int) / 2 ^ (24 - 8 * (k % 4)) = (q : Int) := by rw [hq, Int.natCast_ediv, Int.natCast_pow]; rfl
          have HO1 : Hid (O.take k ++ [q % 256] = O.take (k + 1)) := by
            show _ = _
            rw [hq, hx, ← out_getD V k hlt, ← HOO.out.1]
            exact take_snoc (by rw [HOO.out.2.1]; exact hlt)
          have hcx : wr.cell? ⟨gv, k / 4, none⟩ = some (.int .u64 (x : Int)) := by rw [vlist_has HR.out.2.2.2 (k / 4) (by omega), hx]; rfl
          clear hx hq
          have hlk : (O.take k).length = k := by rw [List.length_take, HOO.out.2.1]; omega
          have hst : ∃ z, wr.cell? ⟨g7, k, none⟩ = some z := ⟨_, (cell_of_row _ _ k _ _ _ HR.out.1).trans (Array.getElem?_eq_getElem (by rw [bfill_size (by omega)]; exact hlt))⟩
          obtain ⟨z, hcz⟩ := hst
          have hfz : wr.frozen? ⟨g7, k, none⟩ = false := frozen_of_row _ _ k _ _ HR.out.1
          have HN : Hid ((wr.setCell ⟨g7, k, none⟩ (.int .u8 ((q : Int) % 256))).heap[g7]? = some (.cells (bfill 32 (O.take (k + 1))) 41 (0, 0)) ∧ (wr.setCell ⟨g7, k, none⟩ (.int .u8 ((q : Int) % 256))).heap[w.heap.size]? = some (.cells (bfill 32 []) 41 (0, 0)) ∧ Below w.heap.size w (wr.setCell ⟨g7, k, none⟩ (.int .u8 ((q : Int) % 256))) ∧ HasQ (wr.setCell ⟨g7, k, none⟩ (.int .u8 ((q : Int) % 256))) (.slice (some ⟨gv, 0, none⟩) 8 cv) (vlist V)) := by
            have hoth : ∀ j, j ≠ g7 → (wr.setCell ⟨g7, k, none⟩ (.int .u8 ((q : Int) % 256))).heap[j]? = wr.heap[j]? := fun j hj => heap_setCell_other _ _ _ _ hj
            refine ⟨?_, ?_, ?_, ?_⟩
            · rw [heap_setCell_same _ _ _ _ _ _ HR.out.1]
              have h := bfill_set (n := 32) (l := O.take k) (q % 256) (by omega)
              rw [hlk] at h
              rw [← HO1.out, ← h]
              simp [vb]
            · rw [hoth _ (by omega)]; exact HR.out.2.1
            · exact HR.out.2.2.1.trans ⟨rfl, rfl, rfl, by simp [World.setCell], fun j hj => hoth j (by omega)⟩
            · rcases HR.out.2.2.2 with ⟨h, _⟩ | ⟨g', c', e', hc', hcell⟩
              · cases h
              · have e2 : gv = g' := by simp only [Value.slice.injEq, Option.some.injEq, Addr.mk.injEq, and_true] at e'; exact e'.1
                exact .inr ⟨g', c', e', hc', fun i hi => by rw [World.cell?_of_block (hoth _ (by show g' ≠ g7; omega))]; exact hcell i hi⟩
          clear hlk HO1
          go_wp2_with fail
          go_roundw
          case rel => exact ⟨k + 1, by omega, by go_num, HN.out⟩
          case measure => simp [intOf]; omega
        · have hkI : ¬ (k : Int) < 32 := by omega
          obtain rfl : k = 32 := by omega
          obtain ⟨c, hc⟩ : ∃ c, c = (O.map vb).toArray := ⟨_, rfl⟩
          have hrow := HR.out.1
          rw [List.take_of_length_le (by rw [HOO.out.2.1]; omega), bfill_full HOO.out.2.1, ← hc] at hrow
          have hcs : c.size = 32 := by rw [hc]; simp [HOO.out.2.1]
          have HF : Hid (wr.heap[g7]? = some (.cells c 41 (0, 0)) ∧ wr.heap[w.heap.size]? = some (.cells (bfill 32 []) 41 (0, 0)) ∧ (Tryd.prog.info? 41).map (·.size) = some c.size ∧ c.all (·.oneCell') = true ∧ (bfill 32 []).size = c.size) :=
            ⟨hrow, HR.out.2.1, by rw [hcs]; kernel_rfl, by rw [hc]; exact all_vb _, by rw [bfill_size (by simp), hcs]⟩
          have HRS : Hid ((wr.setRow w.heap.size c).heap[w.heap.size]? = some (.cells c 41 (0, 0)) ∧ Below w.heap.size w (wr.setRow w.heap.size c)) := ⟨setRow_heap _ _ _ _ _ _ HR.out.2.1, below_setRow HR.out.2.2.1 (Nat.le_refl _) c⟩
          have HCE : Hid (c = ((Sha.sha l).map vb).toArray) := by show _ = _; rw [hc, HOO.out.2.2.1]
          clear hrow HR hc hcs HOO
          go_wp2_with (first | refine wpList_load_row rfl 41 (.tmp 7) rfl g7 rfl 41 c (0, 0) (.array 32 5) HF.out.1 Tryd.underlying41 rfl HF.out.2.2.1 ?_ | refine wpList_store_row rfl 41 (.tmp 2) (.tmp 45) rfl w.heap.size c rfl rfl 41 (bfill 32 []) HF.out.2.1 HF.out.2.2.1 HF.out.2.2.2.2 HF.out.2.2.2.1 ?_)
          refine bodyPost_ret (results_cell_row (P := Tryd.prog) rfl _ _ w.heap.size 41 c (0, 0) (.array 32 5) rfl HRS.out.1 Tryd.underlying41 rfl HF.out.2.2.1) rfl ⟨by rw [HCE.out], HRS.out.2⟩
end Go.Proofs.YtmglopfjjbnfiaaDoor
