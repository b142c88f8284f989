/-
  PlanSides: the walk.
-/
import Derived.Test.YtpenaeoodfgmpaaLaw
import Derived.Test.YtpenaeoodfgmpaaSidesL
import Derived.Test.YtpenaeoodfgmpaaSidesE
namespace Go.Proofs.Ytpenaeoodfgmpaa
open Go.RowKit

theorem sw_ok {c : Cd} (h : c.ok) : (sw c).ok := by
  obtain ⟨a, b, r⟩ := h
  refine ⟨a, ?_, r⟩
  unfold sw InR at *
  simp only
  split <;> omega
/-- what PlanSides holds in its first loop -/
def SS (w wr : World) (M : Nat) (u v : Value) (R : List Cd) : Prop := wr.heap[M]? = some (.cells #[u] 24 (0, 0)) ∧ OwnsC wr (M + 1) v R ∧ w.heap.size = M ∧ G w wr
set_option maxHeartbeats 8000000 in
set_option maxRecDepth 100000 in
theorem sides_walk (ao : Option Addr) (cp : Nat) (L : List Cd) (most : Int) (w : World) (hv : HasC w (.slice ao L.length cp) L) (hl : L.length ≤ 9223372036854775807) :
    Calls Try.prog 6 #[.agg #[.slice ao L.length cp], .int .i64 most] w fun e w' => e = .returned (.bool true) ∧ G w w' := by
  have HV := hid hv
  obtain ⟨i0, hi, hz0, hz1, hz2⟩ := info_parts Try.info43
  obtain ⟨M, hM⟩ : ∃ M, w.heap.size = M := ⟨_, rfl⟩
  have K1 := hid (few_any ao cp L (w.alloc (.cells #[.slice ao L.length cp] 24)) (hv.up (G.al _ _)) hl)
  have K2 := hid (fun W => known_any W)
  have HM0 : Hid ((w.alloc (.cells #[.slice ao L.length cp] 24)).heap[M]? = some (.cells #[.slice ao L.length cp] 24 (0, 0))) := by rw [← hM]; exact heap_alloc_new _ _
  obtain ⟨n, hn⟩ : ∃ n, L.length = n := ⟨_, rfl⟩
  have HNL := hid hn
  rw [hn] at K1 HM0 HV hl ⊢
  clear hv hn
  go_enter Try.func6, Try.ntmps6
  go_upto_region 5 with (first
    | (go_at_call 7; refine K1.out.mono ?_; rintro e w1 ⟨b, rfl, hb3, hg1⟩; have H1 := hid (And.intro hb3 ((G.al _ _).up hg1)); have H1' := hid hg1; clear hb3 hg1; cases b)
    | (go_at_call 8; refine (K2.out _).mono ?_; rintro e w2 ⟨rfl, h2⟩; have H2 := hid h2; clear h2))
  · go_ret
    exact ⟨rfl, H1.out.2⟩
  have h3 : n ≤ 300 := by have := H1.out.1 (by first | rfl | trivial); rw [HNL.out] at this; exact this
  have HS0 : Hid (SS w w2 M (.slice ao n cp) (.slice none 0 0) []) := ⟨by
    have hg := H1'.out.up H2.out
    exact (hg.block M (by simp [← hM])).trans HM0.out, World.ownsRow_nil _ _ _ _, hM, H1.out.2.up H2.out⟩
  clear hM K1 K2 H1 H1' H2 HM0
  go_wp2
  go_loopw [5, 6] (fun v i wr => ∃ k : Nat, k ≤ n ∧ i = .int .i64 k ∧ Hid (SS w wr M (.slice ao n cp) v ((L.take k).map sw))) (fun _ i _ => n - (intOf i).toNat)
  case atStart => exact ⟨0, Nat.zero_le _, rfl, HS0.out⟩
  case round =>
    clear HS0
    obtain ⟨k, hk, rfl, HR⟩ := hrel
    have hln : ((L.take k).map sw).length ≤ 300 := by simp; omega
    obtain ⟨R, hR⟩ : ∃ R, (L.take k).map sw = R := ⟨_, rfl⟩
    rw [hR] at HR hln
    have HRR := hid hR
    clear hR
    obtain ⟨a3, c3, e3⟩ := owns_form HR.out.2.1
    generalize hl3 : R.length = l3 at e3
    subst e3
    have hm : wr.cell? ⟨M, 0, none⟩ = some (.slice ao n cp) := cell_of_row _ _ 0 _ _ _ HR.out.1
    have HL3 := hid hl3
    clear hl3
    by_cases hlt : k < n
    · obtain ⟨c, hc⟩ : ∃ c, L[k]? = some c := ⟨L[k]'(by rw [HNL.out]; exact hlt), by simp⟩
      obtain ⟨g, o, rfl, hl0⟩ := (HV.out.up HR.out.2.2.2).at hc
      have HL := hid hl0
      have ltI : (k : Int) < (n : Int) := by omega
      have geI : (0 : Int) ≤ (k : Int) := by omega
      obtain ⟨BB, hBB⟩ : ∃ BB, wr.heap.size = BB := ⟨_, rfl⟩
      have HT : Hid ((L.take (k + 1)).map sw = R ++ [sw c]) := by rw [← HRR.out, List.take_add_one, hc]; simp [Hid]
      have mlt := (Array.getElem?_eq_some_iff.1 HR.out.1).1
      rw [hBB] at mlt
      have hca : ((c.side == 1) = true ∧ c.side = 1) ∨ ((c.side == 1) = false ∧ (c.side == 2) = true ∧ c.side = 2) ∨ ((c.side == 1) = false ∧ (c.side == 2) = false ∧ ¬ (c.side = 1 ∨ c.side = 2)) := by
        by_cases a : c.side = 1
        · exact .inl ⟨by simp [a], a⟩
        · by_cases b : c.side = 2
          · exact .inr (.inl ⟨by simp [b], by simp [b], b⟩)
          · exact .inr (.inr ⟨by simp [a], by simp [b], by simp [a, b]⟩)
      clear hl0 hc
      rcases hca with ⟨s1, s0⟩ | ⟨s1, s2, s0⟩ | ⟨s1, s2, s0⟩
      · have hX : cc (sw c) = #[.string c.path, .int .i64 c.what, .int .i64 2, .int .i64 c.mode, .int .i64 c.keep, .int .i64 c.take, .int .i64 c.names, .int .i64 c.bytes, .int .i64 c.hn, .int .i64 c.hb] := by simp [cc, sw, s0]
        have HX1 := hid (cc_one (sw c))
        rw [hX] at HX1
        have HXX := hid hX
        clear hX
        go_upto_region 10 with (first
          | ((with_reducible refine wpList_execW (.agg (cc c)) wr ?_ ?_ ?_); exact exec_load 43 _ rfl g (o + k * 10) (cc c) _ rfl _ HL.out under43 rfl size43; kernel_rfl)
          | ((with_reducible refine wpList_execW (.pointer (some ⟨BB, 0, none⟩)) (wr.alloc (.cells z43 43)) ?_ ?_ ?_); exact exec_allocT 43 z43 rfl zero43 _ _ hBB; kernel_rfl)
          | ((with_reducible refine wpList_skipW (wr.alloc (.cells (cc c) 43)) ?_ ?_ ?_); exact exec_fill 43 _ _ rfl (cc c) z43 wr (by rw [hBB]; rfl) rfl size43 rfl (cc_one c); kernel_rfl; unfold cc))
        go_upto_region 12 with fail
        obtain ⟨w1, hw1⟩ : ∃ w1, wr.alloc (.cells #[.string c.path, .int .i64 c.what, .int .i64 2, .int .i64 c.mode, .int .i64 c.keep, .int .i64 c.take, .int .i64 c.names, .int .i64 c.bytes, .int .i64 c.hn, .int .i64 c.hb] 43) = w1 := ⟨_, rfl⟩
        have hg1 : G wr w1 := by rw [← hw1]; exact G.al _ _
        have hlies : Lies w1 BB 0 #[.string c.path, .int .i64 c.what, .int .i64 2, .int .i64 c.mode, .int .i64 c.keep, .int .i64 c.take, .int .i64 c.names, .int .i64 c.bytes, .int .i64 c.hn, .int .i64 c.hb] := fun j u hj => by rw [← hw1, Nat.zero_add, ← hBB, new_cell]; exact hj
        have hB1 : w1.heap.size = BB + 1 := by rw [← hw1]; simp [hBB]
        have HO : Hid (OwnsC (w1.alloc (.cells #[.string c.path, .int .i64 c.what, .int .i64 2, .int .i64 c.mode, .int .i64 c.keep, .int .i64 c.take, .int .i64 c.names, .int .i64 c.bytes, .int .i64 c.hn, .int .i64 c.hb] 43)) (M + 1) (.slice a3 l3 c3) R) := (HR.out.2.1.up hg1).up (G.al _ _)
        have HG1 := hid hg1
        have HLI := hid hlies
        have HNC : Hid (∀ j, (w1.alloc (.cells #[.string c.path, .int .i64 c.what, .int .i64 2, .int .i64 c.mode, .int .i64 c.keep, .int .i64 c.take, .int .i64 c.names, .int .i64 c.bytes, .int .i64 c.hn, .int .i64 c.hb] 43)).cell? ⟨BB + 1, j, none⟩ = (#[.string c.path, .int .i64 c.what, .int .i64 2, .int .i64 c.mode, .int .i64 c.keep, .int .i64 c.take, .int .i64 c.names, .int .i64 c.bytes, .int .i64 c.hn, .int .i64 c.hb] : Array Value)[j]?) := fun j => by rw [← hB1]; exact new_cell w1 _ 43 j
        try simp only [s0] at hw1
        rw [hw1]
        clear hg1 hlies hm hw1 s0
        go_wp2_with (first
          | ((with_reducible refine wpList_execW (.agg #[.string c.path, .int .i64 c.what, .int .i64 2, .int .i64 c.mode, .int .i64 c.keep, .int .i64 c.take, .int .i64 c.names, .int .i64 c.bytes, .int .i64 c.hn, .int .i64 c.hb]) w1 ?_ ?_ ?_); exact exec_load 43 _ rfl BB 0 _ _ rfl _ HLI.out under43 rfl size43; kernel_rfl)
          | (at_builtin; refine wpList_append_lies _ rfl _ _ _ rfl (M + 1) 43 i0 _ 10 88 Try.underlying22 hi hz0 hz1 hz2 rfl (by omega) (.slice a3 l3 c3) R.length (flat cc R) rfl HO.out ⟨BB + 1, 0, none⟩ 1 1 (cc (sw c)).toList rfl rfl ?c1 ?c2 (by omega) (by unfold maxLen; omega) (by omega) ?c3 (BB + 2) ?c4 ?_))
        case c1 =>
          intro j u hj
          rw [addr_add, Nat.zero_add]
          have hj' : (cc (sw c))[j]? = some u := by simpa using hj
          rw [HXX.out] at hj'
          exact (HNC.out j).trans hj'
        case c2 => intro u hu; exact (Array.all_eq_true_iff_forall_mem.1 (cc_one (sw c))) u (by simpa using hu)
        case c3 => simp [hB1]; omega
        case c4 => simp [hB1]
        intro g2 cap2 w2' hown hgr hat hlt2
        have HE : Hid (SS w w2' M (.slice (some ⟨g, o, none⟩) n cp) (.slice (some ⟨g2, 0, none⟩) (R.length + 1) cap2) ((L.take (k + 1)).map sw)) := by
          rw [HT.out]
          have ga := HG1.out.up (G.al w1 (.cells #[.string c.path, .int .i64 c.what, .int .i64 2, .int .i64 c.mode, .int .i64 c.keep, .int .i64 c.take, .int .i64 c.names, .int .i64 c.bytes, .int .i64 c.hn, .int .i64 c.hb] 43))
          have far : ∀ x, x < M + 1 → w2'.heap[x]? = wr.heap[x]? := fun x hx => by
            rw [hgr.block x (by have := ga.size; omega) (fun e => by have := (World.ownsRow.lt HO.out x e.symm).1; omega), ga.block x (by omega)]
          refine ⟨(far M (by omega)).trans HR.out.1, ?_, HR.out.2.2.1, ?_⟩
          · unfold OwnsC
            rw [flat_snoc, List.length_append]
            exact hown
          · have hw := HR.out.2.2.1
            exact grow_below HR.out.2.2.2 ga (fun b hb => by have := (World.ownsRow.lt HO.out b hb).1; omega) hgr
        clear hown hgr hat
        go_wp2
        go_roundw
        case rel => exact ⟨k + 1, by omega, by go_num, HE.out⟩
        case measure => simp [intOf]; omega
      · have hX : cc (sw c) = #[.string c.path, .int .i64 c.what, .int .i64 1, .int .i64 c.mode, .int .i64 c.keep, .int .i64 c.take, .int .i64 c.names, .int .i64 c.bytes, .int .i64 c.hn, .int .i64 c.hb] := by simp [cc, sw, s0]
        have HX1 := hid (cc_one (sw c))
        rw [hX] at HX1
        have HXX := hid hX
        clear hX
        go_upto_region 10 with (first
          | ((with_reducible refine wpList_execW (.agg (cc c)) wr ?_ ?_ ?_); exact exec_load 43 _ rfl g (o + k * 10) (cc c) _ rfl _ HL.out under43 rfl size43; kernel_rfl)
          | ((with_reducible refine wpList_execW (.pointer (some ⟨BB, 0, none⟩)) (wr.alloc (.cells z43 43)) ?_ ?_ ?_); exact exec_allocT 43 z43 rfl zero43 _ _ hBB; kernel_rfl)
          | ((with_reducible refine wpList_skipW (wr.alloc (.cells (cc c) 43)) ?_ ?_ ?_); exact exec_fill 43 _ _ rfl (cc c) z43 wr (by rw [hBB]; rfl) rfl size43 rfl (cc_one c); kernel_rfl; unfold cc))
        go_upto_region 12 with fail
        obtain ⟨w1, hw1⟩ : ∃ w1, wr.alloc (.cells #[.string c.path, .int .i64 c.what, .int .i64 1, .int .i64 c.mode, .int .i64 c.keep, .int .i64 c.take, .int .i64 c.names, .int .i64 c.bytes, .int .i64 c.hn, .int .i64 c.hb] 43) = w1 := ⟨_, rfl⟩
        have hg1 : G wr w1 := by rw [← hw1]; exact G.al _ _
        have hlies : Lies w1 BB 0 #[.string c.path, .int .i64 c.what, .int .i64 1, .int .i64 c.mode, .int .i64 c.keep, .int .i64 c.take, .int .i64 c.names, .int .i64 c.bytes, .int .i64 c.hn, .int .i64 c.hb] := fun j u hj => by rw [← hw1, Nat.zero_add, ← hBB, new_cell]; exact hj
        have hB1 : w1.heap.size = BB + 1 := by rw [← hw1]; simp [hBB]
        have HO : Hid (OwnsC (w1.alloc (.cells #[.string c.path, .int .i64 c.what, .int .i64 1, .int .i64 c.mode, .int .i64 c.keep, .int .i64 c.take, .int .i64 c.names, .int .i64 c.bytes, .int .i64 c.hn, .int .i64 c.hb] 43)) (M + 1) (.slice a3 l3 c3) R) := (HR.out.2.1.up hg1).up (G.al _ _)
        have HG1 := hid hg1
        have HLI := hid hlies
        have HNC : Hid (∀ j, (w1.alloc (.cells #[.string c.path, .int .i64 c.what, .int .i64 1, .int .i64 c.mode, .int .i64 c.keep, .int .i64 c.take, .int .i64 c.names, .int .i64 c.bytes, .int .i64 c.hn, .int .i64 c.hb] 43)).cell? ⟨BB + 1, j, none⟩ = (#[.string c.path, .int .i64 c.what, .int .i64 1, .int .i64 c.mode, .int .i64 c.keep, .int .i64 c.take, .int .i64 c.names, .int .i64 c.bytes, .int .i64 c.hn, .int .i64 c.hb] : Array Value)[j]?) := fun j => by rw [← hB1]; exact new_cell w1 _ 43 j
        try simp only [s0] at hw1
        rw [hw1]
        clear hg1 hlies hm hw1 s0
        go_wp2_with (first
          | ((with_reducible refine wpList_execW (.agg #[.string c.path, .int .i64 c.what, .int .i64 1, .int .i64 c.mode, .int .i64 c.keep, .int .i64 c.take, .int .i64 c.names, .int .i64 c.bytes, .int .i64 c.hn, .int .i64 c.hb]) w1 ?_ ?_ ?_); exact exec_load 43 _ rfl BB 0 _ _ rfl _ HLI.out under43 rfl size43; kernel_rfl)
          | (at_builtin; refine wpList_append_lies _ rfl _ _ _ rfl (M + 1) 43 i0 _ 10 88 Try.underlying22 hi hz0 hz1 hz2 rfl (by omega) (.slice a3 l3 c3) R.length (flat cc R) rfl HO.out ⟨BB + 1, 0, none⟩ 1 1 (cc (sw c)).toList rfl rfl ?c1 ?c2 (by omega) (by unfold maxLen; omega) (by omega) ?c3 (BB + 2) ?c4 ?_))
        case c1 =>
          intro j u hj
          rw [addr_add, Nat.zero_add]
          have hj' : (cc (sw c))[j]? = some u := by simpa using hj
          rw [HXX.out] at hj'
          exact (HNC.out j).trans hj'
        case c2 => intro u hu; exact (Array.all_eq_true_iff_forall_mem.1 (cc_one (sw c))) u (by simpa using hu)
        case c3 => simp [hB1]; omega
        case c4 => simp [hB1]
        intro g2 cap2 w2' hown hgr hat hlt2
        have HE : Hid (SS w w2' M (.slice (some ⟨g, o, none⟩) n cp) (.slice (some ⟨g2, 0, none⟩) (R.length + 1) cap2) ((L.take (k + 1)).map sw)) := by
          rw [HT.out]
          have ga := HG1.out.up (G.al w1 (.cells #[.string c.path, .int .i64 c.what, .int .i64 1, .int .i64 c.mode, .int .i64 c.keep, .int .i64 c.take, .int .i64 c.names, .int .i64 c.bytes, .int .i64 c.hn, .int .i64 c.hb] 43))
          have far : ∀ x, x < M + 1 → w2'.heap[x]? = wr.heap[x]? := fun x hx => by
            rw [hgr.block x (by have := ga.size; omega) (fun e => by have := (World.ownsRow.lt HO.out x e.symm).1; omega), ga.block x (by omega)]
          refine ⟨(far M (by omega)).trans HR.out.1, ?_, HR.out.2.2.1, ?_⟩
          · unfold OwnsC
            rw [flat_snoc, List.length_append]
            exact hown
          · have hw := HR.out.2.2.1
            exact grow_below HR.out.2.2.2 ga (fun b hb => by have := (World.ownsRow.lt HO.out b hb).1; omega) hgr
        clear hown hgr hat
        go_wp2
        go_roundw
        case rel => exact ⟨k + 1, by omega, by go_num, HE.out⟩
        case measure => simp [intOf]; omega
      · have hX : cc (sw c) = #[.string c.path, .int .i64 c.what, .int .i64 c.side, .int .i64 c.mode, .int .i64 c.keep, .int .i64 c.take, .int .i64 c.names, .int .i64 c.bytes, .int .i64 c.hn, .int .i64 c.hb] := by simp [cc, sw, s0]
        have HX1 := hid (cc_one (sw c))
        rw [hX] at HX1
        have HXX := hid hX
        clear hX
        go_upto_region 10 with (first
          | ((with_reducible refine wpList_execW (.agg (cc c)) wr ?_ ?_ ?_); exact exec_load 43 _ rfl g (o + k * 10) (cc c) _ rfl _ HL.out under43 rfl size43; kernel_rfl)
          | ((with_reducible refine wpList_execW (.pointer (some ⟨BB, 0, none⟩)) (wr.alloc (.cells z43 43)) ?_ ?_ ?_); exact exec_allocT 43 z43 rfl zero43 _ _ hBB; kernel_rfl)
          | ((with_reducible refine wpList_skipW (wr.alloc (.cells (cc c) 43)) ?_ ?_ ?_); exact exec_fill 43 _ _ rfl (cc c) z43 wr (by rw [hBB]; rfl) rfl size43 rfl (cc_one c); kernel_rfl; unfold cc))
        go_upto_region 12 with fail
        obtain ⟨w1, hw1⟩ : ∃ w1, wr.alloc (.cells #[.string c.path, .int .i64 c.what, .int .i64 c.side, .int .i64 c.mode, .int .i64 c.keep, .int .i64 c.take, .int .i64 c.names, .int .i64 c.bytes, .int .i64 c.hn, .int .i64 c.hb] 43) = w1 := ⟨_, rfl⟩
        have hg1 : G wr w1 := by rw [← hw1]; exact G.al _ _
        have hlies : Lies w1 BB 0 #[.string c.path, .int .i64 c.what, .int .i64 c.side, .int .i64 c.mode, .int .i64 c.keep, .int .i64 c.take, .int .i64 c.names, .int .i64 c.bytes, .int .i64 c.hn, .int .i64 c.hb] := fun j u hj => by rw [← hw1, Nat.zero_add, ← hBB, new_cell]; exact hj
        have hB1 : w1.heap.size = BB + 1 := by rw [← hw1]; simp [hBB]
        have HO : Hid (OwnsC (w1.alloc (.cells #[.string c.path, .int .i64 c.what, .int .i64 c.side, .int .i64 c.mode, .int .i64 c.keep, .int .i64 c.take, .int .i64 c.names, .int .i64 c.bytes, .int .i64 c.hn, .int .i64 c.hb] 43)) (M + 1) (.slice a3 l3 c3) R) := (HR.out.2.1.up hg1).up (G.al _ _)
        have HG1 := hid hg1
        have HLI := hid hlies
        have HNC : Hid (∀ j, (w1.alloc (.cells #[.string c.path, .int .i64 c.what, .int .i64 c.side, .int .i64 c.mode, .int .i64 c.keep, .int .i64 c.take, .int .i64 c.names, .int .i64 c.bytes, .int .i64 c.hn, .int .i64 c.hb] 43)).cell? ⟨BB + 1, j, none⟩ = (#[.string c.path, .int .i64 c.what, .int .i64 c.side, .int .i64 c.mode, .int .i64 c.keep, .int .i64 c.take, .int .i64 c.names, .int .i64 c.bytes, .int .i64 c.hn, .int .i64 c.hb] : Array Value)[j]?) := fun j => by rw [← hB1]; exact new_cell w1 _ 43 j
        try simp only [s0] at hw1
        rw [hw1]
        clear hg1 hlies hm hw1 s0
        go_wp2_with (first
          | ((with_reducible refine wpList_execW (.agg #[.string c.path, .int .i64 c.what, .int .i64 c.side, .int .i64 c.mode, .int .i64 c.keep, .int .i64 c.take, .int .i64 c.names, .int .i64 c.bytes, .int .i64 c.hn, .int .i64 c.hb]) w1 ?_ ?_ ?_); exact exec_load 43 _ rfl BB 0 _ _ rfl _ HLI.out under43 rfl size43; kernel_rfl)
          | (at_builtin; refine wpList_append_lies _ rfl _ _ _ rfl (M + 1) 43 i0 _ 10 88 Try.underlying22 hi hz0 hz1 hz2 rfl (by omega) (.slice a3 l3 c3) R.length (flat cc R) rfl HO.out ⟨BB + 1, 0, none⟩ 1 1 (cc (sw c)).toList rfl rfl ?c1 ?c2 (by omega) (by unfold maxLen; omega) (by omega) ?c3 (BB + 2) ?c4 ?_))
        case c1 =>
          intro j u hj
          rw [addr_add, Nat.zero_add]
          have hj' : (cc (sw c))[j]? = some u := by simpa using hj
          rw [HXX.out] at hj'
          exact (HNC.out j).trans hj'
        case c2 => intro u hu; exact (Array.all_eq_true_iff_forall_mem.1 (cc_one (sw c))) u (by simpa using hu)
        case c3 => simp [hB1]; omega
        case c4 => simp [hB1]
        intro g2 cap2 w2' hown hgr hat hlt2
        have HE : Hid (SS w w2' M (.slice (some ⟨g, o, none⟩) n cp) (.slice (some ⟨g2, 0, none⟩) (R.length + 1) cap2) ((L.take (k + 1)).map sw)) := by
          rw [HT.out]
          have ga := HG1.out.up (G.al w1 (.cells #[.string c.path, .int .i64 c.what, .int .i64 c.side, .int .i64 c.mode, .int .i64 c.keep, .int .i64 c.take, .int .i64 c.names, .int .i64 c.bytes, .int .i64 c.hn, .int .i64 c.hb] 43))
          have far : ∀ x, x < M + 1 → w2'.heap[x]? = wr.heap[x]? := fun x hx => by
            rw [hgr.block x (by have := ga.size; omega) (fun e => by have := (World.ownsRow.lt HO.out x e.symm).1; omega), ga.block x (by omega)]
          refine ⟨(far M (by omega)).trans HR.out.1, ?_, HR.out.2.2.1, ?_⟩
          · unfold OwnsC
            rw [flat_snoc, List.length_append]
            exact hown
          · have hw := HR.out.2.2.1
            exact grow_below HR.out.2.2.2 ga (fun b hb => by have := (World.ownsRow.lt HO.out b hb).1; omega) hgr
        clear hown hgr hat
        go_wp2
        go_roundw
        case rel => exact ⟨k + 1, by omega, by go_num, HE.out⟩
        case measure => simp [intOf]; omega
    · obtain rfl : k = n := by omega
      have ltI : ¬ ((k : Int) < (k : Int)) := by omega
      have hRL : R = L.map sw := by rw [← HRR.out, List.take_of_length_le (by rw [HNL.out]; exact Nat.le_refl _)]
      have hRk : R.length = k := by rw [hRL, List.length_map, HNL.out]
      obtain hlk : k = l3 := hRk.symm.trans HL3.out
      subst hlk
      have hLo : ∀ c ∈ L, c.ok := HV.out.choose_spec.choose_spec.2.2
      have hRo : ∀ c ∈ R, c.ok := by rw [hRL]; intro c hc; obtain ⟨d, hd, rfl⟩ := List.mem_map.1 hc; exact sw_ok (hLo d hd)
      have A1 := hid (of_any ao cp L most wr (by rw [HNL.out]; exact HV.out.up HR.out.2.2.2) (by rw [HNL.out]; omega))
      have A2 := hid (fun W (hW : G wr W) => of_any a3 c3 R most W (by have h := (OwnsC.has HR.out.2.1 hRo).up hW; rw [hRk]; exact h) (by omega))
      rw [HNL.out] at A1
      rw [hRk] at A2
      obtain ⟨p, hp⟩ : ∃ p, planF L most = p := ⟨_, rfl⟩
      have hq : planF R most = ⟨p.items.map swI, p.left, p.nb, p.bb, p.na, p.ba⟩ := by rw [hRL, sw_plan, hp]
      rw [hp] at A1
      rw [hq] at A2
      have HPP := hid hp
      have HMS : Hid (M + 1 ≤ wr.heap.size) := (Array.getElem?_eq_some_iff.1 HR.out.1).1
      clear hp hq hRL hRk hLo hRo HRR HL3 hlt hln
      go_upto_region 13 with fail
      go_upto_region 14 with (first
        | (go_at_call_of 10 (Value.agg #[.slice ao k cp]); refine A1.out.mono ?_; rintro e w1 ⟨vi, vl, rfl, oi, ol, _, g1⟩; obtain ⟨ai, ci, ei⟩ := owns_form oi; subst ei; obtain ⟨al, cl, el⟩ := owns_form ol; subst el; have H1 := hid (And.intro oi (And.intro ol g1)); clear oi ol g1)
        | (go_at_call_of 10 (Value.agg #[.slice a3 k c3]); refine (A2.out _ H1.out.2.2).mono ?_; rintro e w2 ⟨vi2, vl2, rfl, oi2, ol2, _, g2⟩; obtain ⟨ai2, ci2, ei⟩ := owns_form oi2; subst ei; obtain ⟨al2, cl2, el⟩ := owns_form ol2; subst el; have H2 := hid (And.intro oi2 (And.intro ol2 g2)); clear oi2 ol2 g2; obtain ⟨B, hB⟩ : ∃ B, w2.heap.size = B := ⟨_, rfl⟩; obtain ⟨w3, h3w⟩ : ∃ w3, w2.alloc (.cells z34 34) = w3 := ⟨_, rfl⟩; obtain ⟨w4, h4w⟩ : ∃ w4, w3.alloc (.cells z34 34) = w4 := ⟨_, rfl⟩; obtain ⟨w5, h5w⟩ : ∃ w5, w4.setRow B #[.slice ai p.items.length ci, .slice al p.left.length cl, .int .i64 p.na, .int .i64 p.ba, .int .i64 p.nb, .int .i64 p.bb] = w5 := ⟨_, rfl⟩; obtain ⟨w6, h6w⟩ : ∃ w6, w5.setRow (B + 1) #[.slice ai2 p.items.length ci2, .slice al2 p.left.length cl2, .int .i64 p.nb, .int .i64 p.bb, .int .i64 p.na, .int .i64 p.ba] = w6 := ⟨_, rfl⟩; have H6 := hid (two34 hB h3w h4w h5w h6w); have H7 := hid (And.intro hB (And.intro h3w (And.intro h4w (And.intro h5w h6w)))); clear hB h3w h4w h5w h6w)
        | ((with_reducible refine wpList_execW (.pointer (some ⟨B, 0, none⟩)) w3 ?_ ?_ ?_); rw [← H7.out.2.1]; exact exec_allocT 34 z34 rfl zero34 w2 B H7.out.1; kernel_rfl)
        | ((with_reducible refine wpList_execW (.pointer (some ⟨B + 1, 0, none⟩)) w4 ?_ ?_ ?_); rw [← H7.out.2.2.1]; exact exec_allocT 34 z34 rfl zero34 w3 (B + 1) H6.out.1; kernel_rfl)
        | ((with_reducible refine wpList_skipW w5 ?_ ?_ ?_); rw [← H7.out.2.2.2.1]; exact exec_storeT 34 _ _ rfl B #[.slice ai p.items.length ci, .slice al p.left.length cl, .int .i64 p.na, .int .i64 p.ba, .int .i64 p.nb, .int .i64 p.bb] z34 rfl rfl w4 H6.out.2.1 size34 rfl (by simp [Value.oneCell']); kernel_rfl)
        | ((with_reducible refine wpList_skipW w6 ?_ ?_ ?_); rw [← H7.out.2.2.2.2]; exact exec_storeT 34 _ _ rfl (B + 1) #[.slice ai2 p.items.length ci2, .slice al2 p.left.length cl2, .int .i64 p.nb, .int .i64 p.bb, .int .i64 p.na, .int .i64 p.ba] z34 rfl rfl w5 H6.out.2.2.1 size34 rfl (by simp [Value.oneCell']); kernel_rfl))
      have hlens : p.items.length ≤ 300 ∧ p.left.length ≤ 300 := by
        rw [← HPP.out]
        have := plan_lens L most
        rw [HNL.out] at this
        omega
      have HS6 : Hid (PP w w6 B (.slice ai p.items.length ci) (.slice al p.left.length cl) (.slice ai2 p.items.length ci2) (.slice al2 p.left.length cl2) p) := by
        obtain ⟨_, _, _, a, b, g26⟩ := H6.out
        obtain ⟨oi, ol, g1⟩ := H1.out
        obtain ⟨oi2, ol2, g2⟩ := H2.out
        have hI2 : HasI w2 (.slice ai2 (p.items.map swI).length ci2) (p.items.map swI) := oi2.has
        rw [List.length_map] at hI2
        have hN2 : HasN w2 (.slice al2 p.left.length cl2) p.left := ol2.has
        exact ⟨a, b, (oi.has.up g2).up g26, hI2.up g26, (ol.has.up g2).up g26, hN2.up g26, ((HR.out.2.2.2.up g1).up g2).up g26⟩
      have A14 := hid (sameInts_yes al al2 cl cl2 p.left p.left w6 HS6.out.2.2.2.2.1 HS6.out.2.2.2.2.2.1 rfl (by omega))
      obtain ⟨ti, hti⟩ : ∃ ti, p.items.length = ti := ⟨_, rfl⟩
      obtain ⟨tl, htl⟩ : ∃ tl, p.left.length = tl := ⟨_, rfl⟩
      have HTI := hid hti
      clear A1 A2 H1 H2 H6 H7 HPP HV HNL HMS HR hm
      simp only [Act.put]
      rw [hti, htl] at HS6
      rw [htl] at A14
      rw [hti, htl] at hlens
      simp only [hti, htl]
      clear hti htl
      have c1 := cell_of_row w6 B 1 _ _ _ HS6.out.1
      have d1 := cell_of_row w6 (B + 1) 1 _ _ _ HS6.out.2.1
      simp only [List.getElem?_toArray, List.getElem?_cons_zero, List.getElem?_cons_succ] at c1 d1
      have he1 := fun W => eq31 p.na p.ba W
      have he2 := fun W => eq31 p.nb p.bb W
      go_upto_region 16 with (go_at_call 14; refine A14.out.mono ?_; rintro e w7 ⟨rfl, n7, hw7⟩; have H8 : Hid (PP w w7 B (.slice ai ti ci) (.slice al tl cl) (.slice ai2 ti ci2) (.slice al2 tl cl2) p) := (by rw [hw7]; exact HS6.out.up ((G.refl _).drewN n7)); clear hw7; have x0 := cell_of_row w7 B 0 _ _ _ H8.out.1; have x2 := cell_of_row w7 B 2 _ _ _ H8.out.1; have x3 := cell_of_row w7 B 3 _ _ _ H8.out.1; have x4 := cell_of_row w7 B 4 _ _ _ H8.out.1; have x5 := cell_of_row w7 B 5 _ _ _ H8.out.1; have y0 := cell_of_row w7 (B + 1) 0 _ _ _ H8.out.2.1; have y2 := cell_of_row w7 (B + 1) 2 _ _ _ H8.out.2.1; have y3 := cell_of_row w7 (B + 1) 3 _ _ _ H8.out.2.1; have y4 := cell_of_row w7 (B + 1) 4 _ _ _ H8.out.2.1; have y5 := cell_of_row w7 (B + 1) 5 _ _ _ H8.out.2.1; simp only [List.getElem?_toArray, List.getElem?_cons_zero, List.getElem?_cons_succ] at x0 x2 x3 x4 x5 y0 y2 y3 y4 y5)
      clear x0 x2 x3 x4 x5 y0 y2 y3 y4 y5 c1 d1 he1 he2 A14 HS6
      go_wp2
      go_loopw [10] (fun i wr => ∃ j : Nat, j ≤ ti ∧ i = .int .i64 j ∧ Hid (PP w wr B (.slice ai ti ci) (.slice al tl cl) (.slice ai2 ti ci2) (.slice al2 tl cl2) p)) (fun i _ => ti - (intOf i).toNat)
      case atStart => exact ⟨0, Nat.zero_le _, rfl, H8.out⟩
      case round =>
        clear H8
        obtain ⟨j, hj, rfl, HQ⟩ := hrel
        have x0 := cell_of_row wr B 0 _ _ _ HQ.out.1
        have y0 := cell_of_row wr (B + 1) 0 _ _ _ HQ.out.2.1
        simp only [List.getElem?_toArray, List.getElem?_cons_zero] at x0 y0
        by_cases hlt : j < ti
        · obtain ⟨t, ht⟩ : ∃ t, p.items[j]? = some t := ⟨p.items[j]'(by rw [HTI.out]; exact hlt), by simp⟩
          have ht2 : (p.items.map swI)[j]? = some (swI t) := by simp [ht]
          obtain ⟨g, o, rfl, hl1⟩ := HQ.out.2.2.1.at ht
          obtain ⟨g2, o2, rfl, hl2⟩ := HQ.out.2.2.2.1.at ht2
          have HL2 : Hid (Lies wr g2 (o2 + j * 7) #[.int .i64 t.num, .int .i64 t.cell, .string t.path, .int .i64 t.what, .int .i64 t.to, .int .i64 t.frm, .int .i64 t.mode]) := hl2
          have HL1 := hid hl1
          have jtI : (j : Int) < (ti : Int) := by omega
          have jeI : (0 : Int) ≤ (j : Int) := by omega
          have hB1 : B < wr.heap.size := (Array.getElem?_eq_some_iff.1 HQ.out.1).1
          have hB2 : B + 1 < wr.heap.size := (Array.getElem?_eq_some_iff.1 HQ.out.2.1).1
          obtain ⟨BB, hBB⟩ : ∃ BB, wr.heap.size = BB := ⟨_, rfl⟩
          rw [hBB] at hB1 hB2
          clear ht ht2 hl1 hl2
          go_upto_region 20 with (first
            | ((with_reducible refine wpList_execW (.agg #[.int .i64 t.num, .int .i64 t.cell, .string t.path, .int .i64 t.what, .int .i64 t.to, .int .i64 t.frm, .int .i64 t.mode]) wr ?_ ?_ ?_); exact exec_load 45 _ rfl g2 (o2 + j * 7) #[.int .i64 t.num, .int .i64 t.cell, .string t.path, .int .i64 t.what, .int .i64 t.to, .int .i64 t.frm, .int .i64 t.mode] _ rfl _ HL2.out under45 rfl size45; kernel_rfl)
            | ((with_reducible refine wpList_execW (.pointer (some ⟨BB, 0, none⟩)) (wr.alloc (.cells z45 45)) ?_ ?_ ?_); exact exec_allocT 45 z45 rfl zero45 _ _ hBB; kernel_rfl)
            | ((with_reducible refine wpList_skipW (wr.alloc (.cells #[.int .i64 t.num, .int .i64 t.cell, .string t.path, .int .i64 t.what, .int .i64 t.to, .int .i64 t.frm, .int .i64 t.mode] 45)) ?_ ?_ ?_); exact exec_fill 45 _ _ rfl #[.int .i64 t.num, .int .i64 t.cell, .string t.path, .int .i64 t.what, .int .i64 t.to, .int .i64 t.frm, .int .i64 t.mode] z45 wr (by rw [hBB]; rfl) rfl size45 rfl (by simp [Value.oneCell']); kernel_rfl))
          go_upto_region 21 with fail
          obtain ⟨w1, hw1⟩ : ∃ w1, wr.alloc (.cells #[.int .i64 t.num, .int .i64 t.cell, .string t.path, .int .i64 t.what, .int .i64 t.frm, .int .i64 t.to, .int .i64 t.mode] 45) = w1 := ⟨_, rfl⟩
          have hg1 : G wr w1 := by rw [← hw1]; exact G.al _ _
          have hn1 : w1.heap[BB]? = some (.cells #[.int .i64 t.num, .int .i64 t.cell, .string t.path, .int .i64 t.what, .int .i64 t.frm, .int .i64 t.to, .int .i64 t.mode] 45 (0, 0)) := by rw [← hw1, ← hBB]; exact heap_alloc_new _ _
          have HE := hid (HQ.out.up hg1)
          have x0' := cell_of_row w1 B 0 _ _ _ HE.out.1
          simp only [List.getElem?_toArray, List.getElem?_cons_zero] at x0'
          have m0 : w1.cell? ⟨BB, 0, none⟩ = some (.int .i64 t.num) := cell_of_row w1 BB 0 _ _ _ hn1
          have r0 : w1.cell? ⟨g, o + j * 7, none⟩ = some (.int .i64 t.num) := (HL1.out.up hg1) 0 _ rfl
          have m1 : w1.cell? ⟨BB, 1, none⟩ = some (.int .i64 t.cell) := cell_of_row w1 BB 1 _ _ _ hn1
          have r1 : w1.cell? ⟨g, o + j * 7 + 1, none⟩ = some (.int .i64 t.cell) := (HL1.out.up hg1) 1 _ rfl
          have m2 : w1.cell? ⟨BB, 2, none⟩ = some (.string t.path) := cell_of_row w1 BB 2 _ _ _ hn1
          have r2 : w1.cell? ⟨g, o + j * 7 + 2, none⟩ = some (.string t.path) := (HL1.out.up hg1) 2 _ rfl
          have m3 : w1.cell? ⟨BB, 3, none⟩ = some (.int .i64 t.what) := cell_of_row w1 BB 3 _ _ _ hn1
          have r3 : w1.cell? ⟨g, o + j * 7 + 3, none⟩ = some (.int .i64 t.what) := (HL1.out.up hg1) 3 _ rfl
          have m4 : w1.cell? ⟨BB, 4, none⟩ = some (.int .i64 t.frm) := cell_of_row w1 BB 4 _ _ _ hn1
          have r4 : w1.cell? ⟨g, o + j * 7 + 4, none⟩ = some (.int .i64 t.frm) := (HL1.out.up hg1) 4 _ rfl
          have m5 : w1.cell? ⟨BB, 5, none⟩ = some (.int .i64 t.to) := cell_of_row w1 BB 5 _ _ _ hn1
          have r5 : w1.cell? ⟨g, o + j * 7 + 5, none⟩ = some (.int .i64 t.to) := (HL1.out.up hg1) 5 _ rfl
          have m6 : w1.cell? ⟨BB, 6, none⟩ = some (.int .i64 t.mode) := cell_of_row w1 BB 6 _ _ _ hn1
          have r6 : w1.cell? ⟨g, o + j * 7 + 6, none⟩ = some (.int .i64 t.mode) := (HL1.out.up hg1) 6 _ rfl
          have heq := fun W => eq45 t.num t.cell t.path t.what t.frm t.to t.mode W
          rw [hw1]
          clear hw1 hg1 hn1 x0 y0 HQ HL1 HL2 hBB
          go_quiet (fail)
          go_wp2
          go_roundw
          case rel => exact ⟨j + 1, by omega, by go_num, HE.out.up ((G.refl _).drewN _)⟩
          case measure => simp [intOf]; omega
        · obtain rfl : j = ti := by omega
          have jtI : ¬ ((j : Int) < (j : Int)) := by omega
          have HE := hid HQ.out.2.2.2.2.2.2
          clear HQ
          go_wp2
          go_ret
          exact ⟨rfl, HE.out⟩
end Go.Proofs.Ytpenaeoodfgmpaa
