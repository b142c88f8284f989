/-
  plain by contract.
-/
import Derived.Test.YtpenaeoodfgmpaaPlainR
namespace Go.Proofs.Ytpenaeoodfgmpaa
open Go.RowKit

def OwnsC (w : World) (lo : Nat) (v : Value) (R : List Cd) : Prop := w.ownsRow lo 43 10 v R.length (flat cc R)
theorem OwnsC.up {w w' : World} {lo : Nat} {v : Value} {R : List Cd} (h : OwnsC w lo v R) (hb : G w w') : OwnsC w' lo v R := World.ownsRow.kept h (grown_of hb) (by cases hv : v.ownBlock <;> simp)
theorem smC_ok {c : Cd} (h : c.ok) : (smC c).ok := by
  obtain ⟨a, b, d, _⟩ := h
  have q : ∀ x, InR (sml x) := fun x => by have := sml_bd x; unfold InR; omega
  exact ⟨a, b, d, q _, q _, q _, q _, q _, q _⟩
theorem smC_pos (c : Cd) : (smC c).pos := ⟨(sml_bd _).1, (sml_bd _).1, (sml_bd _).1, (sml_bd _).1, (sml_bd _).1, (sml_bd _).1⟩
theorem OwnsC.has {w : World} {lo : Nat} {v : Value} {T : List Cd} (h : OwnsC w lo v T) (hk : ∀ c ∈ T, c.ok) : HasC w v T := by
  have h0 := h
  obtain ⟨_, ⟨rfl, hl⟩ | ⟨g, cap, cur, rfl, hr⟩⟩ := h
  · refine ⟨none, 0, by rw [hl], fun i t hi => ?_, hk⟩
    have := List.length_eq_zero_iff.1 hl
    subst this
    simp at hi
  · refine ⟨_, cap, rfl, fun i t hi => ⟨g, 0, rfl, fun j u hj => ?_⟩, hk⟩
    have hj' : j < 10 := by have := (Array.getElem?_eq_some_iff.1 hj).1; simpa [cc_size] using this
    have hlt := (List.getElem?_eq_some_iff.1 hi).1
    rw [Nat.zero_add, World.ownsRow.cellAt h0 _ (by omega), flat_at cc_size hi hj']
    exact hj
/-- what plain holds -/
def PS (w wr : World) (M : Nat) (u v : Value) (R : List Cd) : Prop := wr.heap[M]? = some (.cells #[u] 24 (0, 0)) ∧ wr.heap[M + 1]? = some (.cells #[.slice none 0 0] 24 (0, 0)) ∧ OwnsC wr (M + 1 + 1) v R ∧ w.heap.size = M ∧ G w wr
/-- what plain answers -/
def PlnR (L : List Cd) (w : World) (e : Ending) (w' : World) : Prop := ∃ a c, e = .returned (.agg #[.slice a (L.map smC).length c]) ∧ OwnsC w' w.heap.size (.slice a (L.map smC).length c) (L.map smC) ∧ G w w'
set_option maxHeartbeats 4000000 in
set_option maxRecDepth 100000 in
theorem plain_any (ao : Option Addr) (cp : Nat) (L : List Cd) (w : World) (hv : HasC w (.slice ao L.length cp) L) (hn : L.length ≤ 300) :
    Calls Try.prog 9 #[.agg #[.slice ao L.length cp]] w (PlnR L w) := by
  obtain ⟨n, hn'⟩ : ∃ n, L.length = n := ⟨_, rfl⟩
  obtain ⟨i0, hi, hz0, hz1, hz2⟩ := info_parts Try.info43
  have HV := hid hv
  have HN := hid hn'
  rw [hn'] at hn ⊢
  clear hv hn'
  obtain ⟨M, hM⟩ : ∃ M, w.heap.size = M := ⟨_, rfl⟩
  have H0 : Hid (PS w ((w.alloc (.cells #[.slice ao n cp] 24)).alloc (.cells #[.slice none 0 0] 24)) M (.slice ao n cp) (.slice none 0 0) []) := by
    refine ⟨?_, ?_, World.ownsRow_nil _ _ _ _, hM, (G.al _ _).up (G.al _ _)⟩
    · rw [(G.al _ _).block M (by simp [hM]), ← hM]; exact heap_alloc_new _ _
    · have := heap_alloc_new (w.alloc (.cells #[.slice ao n cp] 24)) (.cells #[.slice none 0 0] 24)
      simpa [hM] using this
  go_enter Try.func9, Try.ntmps9
  go_wp2
  clear hM
  go_loopw [3, 4] (fun v i wr => ∃ k : Nat, k ≤ n ∧ i = .int .i64 k ∧ Hid (PS w wr M (.slice ao n cp) v ((L.take k).map smC))) (fun _ i _ => n - (intOf i).toNat)
  case atStart => exact ⟨0, Nat.zero_le _, rfl, H0.out⟩
  case round =>
    clear H0
    obtain ⟨k, hk, rfl, HR⟩ := hrel
    have hln : ((L.take k).map smC).length ≤ 300 := by simp; omega
    obtain ⟨R, hR⟩ : ∃ R, (L.take k).map smC = R := ⟨_, rfl⟩
    rw [hR] at HR hln
    have HRR := hid hR
    clear hR
    obtain ⟨a3, c3, e3⟩ := owns_form HR.out.2.2.1
    generalize hl3 : R.length = l3 at e3
    subst e3
    have hm : wr.cell? ⟨M, 0, none⟩ = some (.slice ao n cp) := cell_of_row _ _ 0 _ _ _ HR.out.1
    have HL3 := hid hl3
    clear hl3
    by_cases hlt : k < n
    · obtain ⟨c, hc⟩ : ∃ c, L[k]? = some c := ⟨L[k]'(by rw [HN.out]; exact hlt), by simp⟩
      obtain ⟨g, o, rfl, hl⟩ := (HV.out.up HR.out.2.2.2.2).at hc
      have HL := hid hl
      have ltI : (k : Int) < (n : Int) := by omega
      have lt3 : (k : Int) < 300 := by omega
      have geI : (0 : Int) ≤ (k : Int) := by omega
      obtain ⟨BB, hBB⟩ : ∃ BB, wr.heap.size = BB := ⟨_, rfl⟩
      have HT : Hid ((L.take (k + 1)).map smC = R ++ [smC c]) := by rw [← HRR.out, List.take_add_one, hc]; simp [Hid]
      clear hl hc
      go_upto_region 6 with (first
          | ((with_reducible refine wpList_execW (.agg (cc c)) wr ?_ ?_ ?_); exact exec_load 43 _ rfl g (o + k * 10) (cc c) _ rfl _ HL.out under43 rfl size43; kernel_rfl)
          | ((with_reducible refine wpList_execW (.pointer (some ⟨BB, 0, none⟩)) (wr.alloc (.cells z43 43)) ?_ ?_ ?_); exact exec_allocT 43 z43 rfl zero43 _ _ hBB; kernel_rfl)
          | ((with_reducible refine wpList_skipW (wr.alloc (.cells (cc c) 43)) ?_ ?_ ?_); exact exec_fill 43 _ _ rfl (cc c) z43 wr (by rw [hBB]; rfl) rfl size43 rfl (cc_one c); kernel_rfl))
      go_simp
      refine plain_reg c BB _ (wr.alloc (.cells (cc c) 43)) rfl rfl (by rw [← hBB]; exact heap_alloc_new wr _) fun w1 hr1 hb1 => ?_
      rw [fold6]
      have hg1 : G wr w1 := (G.al wr _).trans (hb1.below (by omega) (by simp))
      have hlies : Lies w1 BB 0 (cc (smC c)) := fun j u hj => by rw [Nat.zero_add, cell_of_row w1 BB j _ _ _ hr1]; exact hj
      obtain ⟨B1, hB1⟩ : ∃ B1, w1.heap.size = B1 := ⟨_, rfl⟩
      have HO : Hid (OwnsC (w1.alloc (.cells (cc (smC c)) 43)) (M + 1 + 1) (.slice a3 l3 c3) R) := (HR.out.2.2.1.up hg1).up (G.al _ _)
      have HG1 := hid hg1
      have HLI := hid hlies
      have HSZ : Hid (M + 1 + 1 ≤ B1) := by
        have h1 := (Array.getElem?_eq_some_iff.1 HR.out.2.1).1
        have h2 := hg1.size
        show _ ≤ _
        omega
      have HNC : Hid (∀ j, (w1.alloc (.cells (cc (smC c)) 43)).cell? ⟨B1, j, none⟩ = (cc (smC c))[j]?) := fun j => by rw [← hB1]; exact new_cell w1 _ 43 j
      have H1C := hid (cc_one (smC c))
      have HZC : Hid ((cc (smC c)).size = 10) := rfl
      have HLC : Hid (cc (smC c) = #[.string c.path, .int .i64 c.what, .int .i64 c.side, .int .i64 c.mode, .int .i64 (sml c.keep), .int .i64 (sml c.take), .int .i64 (sml c.names), .int .i64 (sml c.bytes), .int .i64 (sml c.hn), .int .i64 (sml c.hb)]) := rfl
      clear hr1 hb1 hg1 hlies hm
      generalize hX : cc (smC c) = X at *
      have hX2 := HLC.out
      clear HLC hX
      subst hX2
      go_simp
      go_wp2_with (first
        | ((with_reducible refine wpList_execW (.agg #[.string c.path, .int .i64 c.what, .int .i64 c.side, .int .i64 c.mode, .int .i64 (sml c.keep), .int .i64 (sml c.take), .int .i64 (sml c.names), .int .i64 (sml c.bytes), .int .i64 (sml c.hn), .int .i64 (sml c.hb)]) w1 ?_ ?_ ?_); exact exec_load 43 _ rfl BB 0 _ _ rfl _ HLI.out under43 rfl size43; kernel_rfl)
        | (at_builtin; refine wpList_append_lies _ rfl _ _ _ rfl (M + 1 + 1) 43 i0 _ 10 88 Try.underlying22 hi hz0 hz1 hz2 rfl (by omega) (.slice a3 l3 c3) R.length (flat cc R) rfl HO.out ⟨B1, 0, none⟩ 1 1 (cc (smC c)).toList rfl rfl ?c1 ?c2 (by omega) (by unfold maxLen; omega) (by omega) ?c3 (B1 + 1) ?c4 ?_))
      case c1 =>
        intro j u hj
        rw [addr_add, Nat.zero_add]
        have hj' : (cc (smC c))[j]? = some u := by simpa using hj
        exact (HNC.out j).trans hj'
      case c2 => intro u hu; exact (Array.all_eq_true_iff_forall_mem.1 (cc_one (smC c))) u (by simpa using hu)
      case c3 => have := HSZ.out; simp; omega
      case c4 => simp [hB1]
      intro g2 cap2 w2 hown hgr hat hlt2
      have HE : Hid (PS w w2 M (.slice (some ⟨g, o, none⟩) n cp) (.slice (some ⟨g2, 0, none⟩) (R.length + 1) cap2) ((L.take (k + 1)).map smC)) := by
        rw [HT.out]
        have hM2 := (Array.getElem?_eq_some_iff.1 HR.out.2.1).1
        have ga := HG1.out.up (G.al w1 (.cells #[.string c.path, .int .i64 c.what, .int .i64 c.side, .int .i64 c.mode, .int .i64 (sml c.keep), .int .i64 (sml c.take), .int .i64 (sml c.names), .int .i64 (sml c.bytes), .int .i64 (sml c.hn), .int .i64 (sml c.hb)] 43))
        have far : ∀ x, x < M + 1 + 1 → w2.heap[x]? = wr.heap[x]? := fun x hx => by
          rw [hgr.block x (by have := ga.size; omega) (fun e => by have := (World.ownsRow.lt HO.out x e.symm).1; omega), ga.block x (by omega)]
        refine ⟨(far M (by omega)).trans HR.out.1, (far (M + 1) (by omega)).trans HR.out.2.1, ?_, HR.out.2.2.2.1, ?_⟩
        · unfold OwnsC
          rw [flat_snoc, List.length_append]
          exact hown
        · have hw := HR.out.2.2.2.1
          exact grow_below HR.out.2.2.2.2 ga (fun b hb => by have := (World.ownsRow.lt HO.out b hb).1; omega) hgr
      clear hown hgr hat
      go_wp2
      go_roundw
      case rel => exact ⟨k + 1, by omega, by go_num, HE.out⟩
      case measure => simp [intOf]; omega
    · obtain rfl : k = n := by omega
      have hRL : R = L.map smC := by rw [← HRR.out, List.take_of_length_le (by rw [HN.out]; omega)]
      subst hRL
      have hz := HR.out.2.1
      have k1 := cell_of_row wr (M + 1) 0 _ _ _ hz
      have f1 := frozen_of_row wr (M + 1) 0 _ _ hz
      simp only [List.getElem?_toArray, List.getElem?_cons_zero] at k1
      have HE : Hid (PlnR L w (.returned (.agg #[.slice a3 l3 c3])) (wr.setCell ⟨M + 1, 0, none⟩ (.slice a3 l3 c3))) := by
        have hb : But (M + 1) wr (wr.setCell ⟨M + 1, 0, none⟩ (.slice a3 l3 c3)) := (But.refl _ wr).setCell 0 _
        have hw := HR.out.2.2.2.1
        have hl := HL3.out
        subst hl
        exact ⟨a3, c3, rfl, owns_low (owns_but HR.out.2.2.1 hb (by omega)) (by omega), HR.out.2.2.2.2.trans (hb.below (by omega) HR.out.2.2.2.2.size)⟩
      clear hz
      go_wp2
      refine bodyPost_ret (v := .agg #[.slice a3 l3 c3]) ?_ rfl HE.out
      simp [results, Try.results9, go_sem, k1]
end Go.Proofs.Ytpenaeoodfgmpaa
