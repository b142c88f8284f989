/-
  What skip rules' functions answer; Skip by contract.
-/
import Derived.Test.YtpngnhpnjkepjaaDoorROfW
namespace Go.Proofs.YtpngnhpnjkepjaaDoor
open Go.RowKit

theorem one_heap {w : World} {g : Nat} {a : Value} {T : TypeId} (h : w.heap[g]? = some (.cells #[a] T)) : w.cell? ⟨g, 0, none⟩ = some a ∧ w.frozen? ⟨g, 0, none⟩ = false := by
  simp [World.cell?, World.frozen?, h]
set_option maxRecDepth 100000 in
theorem fM_any (q : By) (p : ByteArray) (b : Nat) (w : World) (hb : w.heap[b]? = some (.cells #[.string (ofB q)] 9)) (hq : q.length ≤ 1048576) (hp : p.size ≤ 1048576) :
    Calls Tryd.prog 72 #[.string p, .pointer (some ⟨b, 0, none⟩)] w fun e w' => e = .returned (.bool (matchV q (tl p)).1) ∧ Below w.heap.size w w' := by
  obtain ⟨c0, _⟩ := one_heap hb
  have C := match_any (ofB q) p w (by rw [ofB_size]; exact hq) hp
  rw [tl_ofB] at C
  generalize matchV q (tl p) = m at *
  clear hb
  go_enter Tryd.func72, Tryd.ntmps72
  go_wp2_with (go_at_call 49; refine C.mono ?_; rintro e w1 ⟨rfl, hg⟩)
  go_ret
  exact ⟨rfl, hg⟩
set_option maxRecDepth 100000 in
theorem f53_any (q : By) (p : ByteArray) (b g : Nat) (w : World) (hb : w.heap[b]? = some (.cells #[.string (ofB q)] 9)) (hg : w.heap[g]? = some (.cells #[.string p] 9)) (hq : q.length ≤ 1048576) (hp : p.size ≤ 1048576) :
    Calls Tryd.prog 53 #[fM b, .pointer (some ⟨g, 0, none⟩)] w fun e w' => e = .returned (.bool (matchV q (tl p)).1) ∧ Below w.heap.size w w' := by
  obtain ⟨c0, _⟩ := one_heap hg
  have C := fM_any q p b w hb hq hp
  generalize matchV q (tl p) = m at *
  clear hb hg
  unfold fM
  go_enter Tryd.func53, Tryd.ntmps53
  go_wp2_with (go_at_call 72; refine C.mono ?_; rintro e w1 ⟨rfl, hg⟩)
  go_ret
  exact ⟨rfl, hg⟩
/-- does one of these match? -/
def hits (qs : List By) (p : By) : Bool := qs.any fun q => (matchV q p).1
set_option maxHeartbeats 1000000 in
set_option maxRecDepth 100000 in
theorem index_any (v : Value) (cs : List Value) (qs : List By) (p : ByteArray) (g : Nat) (w : World) (hv : HasV w v cs) (hc : All2 (IsM (fun b => b < w.heap.size) w) cs qs) (hg : w.heap[g]? = some (.cells #[.string p] 9)) (hq : ∀ q ∈ qs, q.length ≤ 1048576) (hp : p.size ≤ 1048576) (hn : cs.length ≤ 1048576) :
    Calls Tryd.prog 74 #[v, .func (.func 53) #[] #[.pointer (some ⟨g, 0, none⟩)]] w fun e w' => (∃ i : Int, e = .returned (.int .i64 i) ∧ decide (0 ≤ i) = hits qs (tl p)) ∧ Below w.heap.size w w' := by
  have HV : Hid (HasV w v cs) := hv
  have HC : Hid (All2 (IsM (fun b => b < w.heap.size) w) cs qs) := hc
  have HG : Hid (w.heap[g]? = some (.cells #[.string p] 9)) := hg
  have HQ : Hid (∀ q ∈ qs, q.length ≤ 1048576) := hq
  have hl := hc.len
  obtain ⟨N, hN⟩ : ∃ N, cs.length = N := ⟨_, rfl⟩
  obtain ⟨B, hB⟩ : ∃ B, hits qs (tl p) = B := ⟨_, rfl⟩
  have HB : Hid (hits qs (tl p) = B) := hB
  rw [hB]
  obtain ⟨ao, cap, hvf⟩ : ∃ ao cap, v = .slice ao cs.length cap := by
    rcases hv with ⟨rfl, rfl⟩ | ⟨g, cap, rfl, _⟩
    · exact ⟨none, 0, rfl⟩
    · exact ⟨_, cap, rfl⟩
  rw [hN] at hvf hn hl
  have HN : Hid (cs.length = N ∧ qs.length = N) := ⟨hN, hl.symm⟩
  subst hvf
  clear hv hc hg hq hB hN hl
  go_enter Tryd.func74, Tryd.ntmps74
  go_wp2
  go_loopw [8] (fun k wr => ∃ n : Nat, k = .int .i64 (n : Int) ∧ n ≤ N ∧ Hid (Below w.heap.size w wr ∧ ∀ j q, j < n → qs[j]? = some q → (matchV q (tl p)).1 = false)) (fun k wr => N - iOf k)
  case atStart => exact ⟨0, rfl, Nat.zero_le _, Below.refl _ _, fun j q h => by omega⟩
  case round =>
    obtain ⟨n, rfl, hnN, HS⟩ := hrel
    by_cases hlt : n < N
    · have i1 : (n : Int) < (N : Int) := by omega
      obtain ⟨q, hq⟩ : ∃ q, qs[n]? = some q := ⟨_, List.getElem?_eq_getElem (by rw [HN.out.2]; exact hlt)⟩
      obtain ⟨c, hcn, b, hbl, rfl, hb⟩ := HC.out.at hq
      obtain ⟨gr, hao, hgr⟩ : ∃ gr, ao = some ⟨gr, 0, none⟩ ∧ wr.cell? ⟨gr, n, none⟩ = some (fM b) := by
        rcases HV.out with ⟨_, e⟩ | ⟨gr, cp, e, hgl, hcc⟩
        · rw [e] at hcn; simp at hcn
        · cases e; exact ⟨gr, rfl, (HS.out.1.cell (p := ⟨gr, n, none⟩) hgl).trans (hcc n _ hcn)⟩
      subst hao
      have C := f53_any q p b g wr ((HS.out.1.block b hbl).trans hb) (heap_up HG.out HS.out.1) (HQ.out q (List.mem_of_getElem? hq)) hp
      obtain ⟨m, hm⟩ : ∃ m, (matchV q (tl p)).1 = m := ⟨_, rfl⟩
      rw [hm] at C
      unfold fM at hgr C
      cases m with
      | true =>
        have hB : B = true := by
          rw [← HB.out]
          unfold hits
          exact List.any_eq_true.2 ⟨q, List.mem_of_getElem? hq, hm⟩
        subst hB
        have HW : Hid (Below w.heap.size w wr) := HS.out.1
        clear hq hcn hb HS HB hm HC HV
        go_wp2_with (go_at_call 53; refine C.mono ?_; rintro e w1 ⟨rfl, hg1⟩)
        go_ret
        exact ⟨⟨_, rfl, by simp⟩, Below.up HW.out hg1⟩
      | false =>
        have HS2 : Hid (∀ j q, j < n + 1 → qs[j]? = some q → (matchV q (tl p)).1 = false) := fun j q2 hj hq2 => by
          by_cases e : j = n
          · subst e; rw [hq] at hq2; cases hq2; exact hm
          · exact HS.out.2 j q2 (by omega) hq2
        have HW : Hid (Below w.heap.size w wr) := HS.out.1
        clear hq hcn hb HS hm
        go_wp2_with (go_at_call 53; refine C.mono ?_; rintro e w1 ⟨rfl, hg1⟩)
        have HW2 : Hid (Below w.heap.size w w1) := Below.up HW.out hg1
        go_roundw
        case rel => exact ⟨n + 1, by go_num, by omega, HW2.out, HS2.out⟩
        case measure => simp; omega
    · have hn2 : n = N := by omega
      subst hn2
      have hB : B = false := by
        rw [← HB.out]
        unfold hits
        refine List.any_eq_false.2 fun q hq => ?_
        obtain ⟨j, hj⟩ := List.getElem?_of_mem hq
        have := HS.out.2 j q (by have := (List.getElem?_eq_some_iff.1 hj).1; rw [HN.out.2] at this; exact this) hj
        simp [this]
      subst hB
      have HW : Hid (Below w.heap.size w wr) := HS.out.1
      clear HS HB
      go_wp2
      go_ret
      exact ⟨⟨_, rfl, by simp⟩, HW.out⟩
set_option maxRecDepth 100000 in
theorem contF_any (v : Value) (cs : List Value) (qs : List By) (p : ByteArray) (g : Nat) (w : World) (hv : HasV w v cs) (hc : All2 (IsM (fun b => b < w.heap.size) w) cs qs) (hg : w.heap[g]? = some (.cells #[.string p] 9)) (hq : ∀ q ∈ qs, q.length ≤ 1048576) (hp : p.size ≤ 1048576) (hn : cs.length ≤ 1048576) :
    Calls Tryd.prog 52 #[v, .func (.func 53) #[] #[.pointer (some ⟨g, 0, none⟩)]] w fun e w' => e = .returned (.bool (hits qs (tl p))) ∧ Below w.heap.size w w' := by
  have C := index_any v cs qs p g w hv hc hg hq hp hn
  obtain ⟨ao, cap, rfl⟩ : ∃ ao cap, v = .slice ao cs.length cap := by
    rcases hv with ⟨rfl, rfl⟩ | ⟨g, cap, rfl, _⟩
    · exact ⟨none, 0, rfl⟩
    · exact ⟨_, cap, rfl⟩
  generalize hits qs (tl p) = B at *
  clear hv hc hg
  go_enter Tryd.func52, Tryd.ntmps52
  go_wp2_with (go_at_call 74; refine C.mono ?_; rintro e w1 ⟨⟨i, rfl, hi⟩, hg⟩)
  go_ret
  exact ⟨by rw [← hi]; rfl, hg⟩
/-- a rule's pattern is short -/
def ShortR (L : List Ru) : Prop := (∀ r ∈ L, r.2.length ≤ 4000) ∧ L.length ≤ 64
theorem skips_short {L : List Ru} (h : ShortR L) : (∀ q ∈ skipsOf L, q.length ≤ 1048576) ∧ (skipsOf L).length ≤ 1048576 := by
  refine ⟨fun q hq => ?_, ?_⟩
  · obtain ⟨r, hr, rfl⟩ := List.mem_map.1 hq
    have := h.1 r (List.mem_filter.1 hr).1; omega
  · unfold skipsOf
    rw [List.length_map]
    have := List.length_filter_le (fun r : Ru => decide (r.1 = 1)) L
    have := h.2; omega
set_option maxRecDepth 100000 in
theorem itself_any (k : Nat) (L : List Ru) (p : ByteArray) (w : World) (h : IsRules w k L) (hL : ShortR L) (hp : p.size ≤ 1048576) :
    Calls Tryd.prog 34 #[.pointer (some ⟨k, 0, none⟩), .string p] w fun e w' => e = .returned (.bool (hits (skipsOf L) (tl p))) ∧ Below w.heap.size w w' := by
  have hmf : ∀ (fn : Fn) (first cap : Array Value) (w : World), (Instr.makeFunc fn first cap).run Tryd.prog w = .ok (.func fn first cap) w := fun _ _ _ _ => rfl
  obtain ⟨v, sv, pv, cs, ps, h1, h2, h3, h4, h5, h6⟩ := h
  obtain ⟨s1, s2⟩ := skips_short hL
  have hb : Below w.heap.size w (w.alloc (.cells #[.string p] 9)) := (Below.refl _ w).alloc (Nat.le_refl _) _
  have c1 := (three_heap (heap_up h1 hb)).2.1
  have C := contF_any sv cs (skipsOf L) p w.heap.size (w.alloc (.cells #[.string p] 9)) (h3.up hb) (h5.mono fun _ _ hc => hc.up (fun b hb' => Nat.lt_of_lt_of_le hb' hb.size) fun b hb' => hb.block b hb') (World.alloc_heap_new _ _) s1 hp (by rw [h5.len]; exact s2)
  obtain ⟨ao, cap, rfl⟩ : ∃ ao cap, sv = .slice ao cs.length cap := by
    rcases h3 with ⟨rfl, rfl⟩ | ⟨g, cap, rfl, _⟩
    · exact ⟨none, 0, rfl⟩
    · exact ⟨_, cap, rfl⟩
  generalize hits (skipsOf L) (tl p) = B at *
  clear h1 h2 h3 h4 h5 h6
  go_enter Tryd.func34, Tryd.ntmps34
  go_wp2_with (go_at_call 52; refine C.mono ?_; rintro e w1 ⟨rfl, hg⟩)
  go_ret
  exact ⟨rfl, hb.trans (hg.mono hb.size)⟩
end Go.Proofs.YtpngnhpnjkepjaaDoor
