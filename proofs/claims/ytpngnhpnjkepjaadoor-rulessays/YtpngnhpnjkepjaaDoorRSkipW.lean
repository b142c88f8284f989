/-
  Skip by contract.
-/
import Derived.Test.YtpngnhpnjkepjaaDoorROfW
import Derived.Test.YtpngnhpnjkepjaaDoorRefJoin
namespace Go.Proofs.YtpngnhpnjkepjaaDoor
open Go.RowKit

theorem one_heap {w : World} {g : Nat} {a : Value} {T : TypeId} (h : w.heap[g]? = some (.cells #[a] T)) : w.cell? ⟨g, 0, none⟩ = some a ∧ w.frozen? ⟨g, 0, none⟩ = false := by
  simp [World.cell?, World.frozen?, h]
set_option maxRecDepth 100000 in
theorem fM_any (q : By) (p : ByteArray) (b : Nat) (w : World) (hb : w.heap[b]? = some (.cells #[.string (ofB q)] 9)) (hq : q.length ≤ 1048576) (hp : p.size ≤ 1048576) :
    Calls Tryd.prog 72 #[.string p, .pointer (some ⟨b, 0, none⟩)] w fun e w' => e = .returned (.bool (matchV q (tl p)).1) ∧ Below w.heap.size w w' := by
  obtain ⟨c0, _⟩ := one_heap hb
  have C := match_any (ofB q) p w (by rw [ofB_size]; exact hq) hp
  rw [tl_ofB] at C
  generalize matchV q (tl p) = m at *
  clear hb
  go_enter Tryd.func72, Tryd.ntmps72
  go_wp2_with (go_at_call 49; refine C.mono ?_; rintro e w1 ⟨rfl, hg⟩)
  go_ret
  exact ⟨rfl, hg⟩
set_option maxRecDepth 100000 in
theorem f53_any (q : By) (p : ByteArray) (b g : Nat) (w : World) (hb : w.heap[b]? = some (.cells #[.string (ofB q)] 9)) (hg : w.heap[g]? = some (.cells #[.string p] 9)) (hq : q.length ≤ 1048576) (hp : p.size ≤ 1048576) :
    Calls Tryd.prog 53 #[fM b, .pointer (some ⟨g, 0, none⟩)] w fun e w' => e = .returned (.bool (matchV q (tl p)).1) ∧ Below w.heap.size w w' := by
  obtain ⟨c0, _⟩ := one_heap hg
  have C := fM_any q p b w hb hq hp
  generalize matchV q (tl p) = m at *
  clear hb hg
  unfold fM
  go_enter Tryd.func53, Tryd.ntmps53
  go_wp2_with (go_at_call 72; refine C.mono ?_; rintro e w1 ⟨rfl, hg⟩)
  go_ret
  exact ⟨rfl, hg⟩
/-- does one of these match? -/
def hits (qs : List By) (p : By) : Bool := qs.any fun q => (matchV q p).1
set_option maxHeartbeats 1000000 in
set_option maxRecDepth 100000 in
theorem index_any (v : Value) (cs : List Value) (qs : List By) (p : ByteArray) (g : Nat) (w : World) (hv : HasV w v cs) (hc : All2 (IsM (fun b => b < w.heap.size) w) cs qs) (hg : w.heap[g]? = some (.cells #[.string p] 9)) (hq : ∀ q ∈ qs, q.length ≤ 1048576) (hp : p.size ≤ 1048576) (hn : cs.length ≤ 1048576) :
    Calls Tryd.prog 74 #[v, .func (.func 53) #[] #[.pointer (some ⟨g, 0, none⟩)]] w fun e w' => (∃ i : Int, e = .returned (.int .i64 i) ∧ decide (0 ≤ i) = hits qs (tl p)) ∧ Below w.heap.size w w' := by
  have HV : Hid (HasV w v cs) := hv
  have HC : Hid (All2 (IsM (fun b => b < w.heap.size) w) cs qs) := hc
  have HG : Hid (w.heap[g]? = some (.cells #[.string p] 9)) := hg
  have HQ : Hid (∀ q ∈ qs, q.length ≤ 1048576) := hq
  have hl := hc.len
  obtain ⟨N, hN⟩ : ∃ N, cs.length = N := ⟨_, rfl⟩
  obtain ⟨B, hB⟩ : ∃ B, hits qs (tl p) = B := ⟨_, rfl⟩
  have HB : Hid (hits qs (tl p) = B) := hB
  rw [hB]
  obtain ⟨ao, cap, hvf⟩ : ∃ ao cap, v = .slice ao cs.length cap := by
    rcases hv with ⟨rfl, rfl⟩ | ⟨g, cap, rfl, _⟩
    · exact ⟨none, 0, rfl⟩
    · exact ⟨_, cap, rfl⟩
  rw [hN] at hvf hn hl
  have HN : Hid (cs.length = N ∧ qs.length = N) := ⟨hN, hl.symm⟩
  subst hvf
  clear hv hc hg hq hB hN hl
  go_enter Tryd.func74, Tryd.ntmps74
  go_wp2
  go_loopw [8] (fun k wr => ∃ n : Nat, k = .int .i64 (n : Int) ∧ n ≤ N ∧ Hid (Below w.heap.size w wr ∧ ∀ j q, j < n → qs[j]? = some q → (matchV q (tl p)).1 = false)) (fun k wr => N - iOf k)
  case atStart => exact ⟨0, rfl, Nat.zero_le _, Below.refl _ _, fun j q h => by omega⟩
  case round =>
    obtain ⟨n, rfl, hnN, HS⟩ := hrel
    by_cases hlt : n < N
    · have i1 : (n : Int) < (N : Int) := by omega
      obtain ⟨q, hq⟩ : ∃ q, qs[n]? = some q := ⟨_, List.getElem?_eq_getElem (by rw [HN.out.2]; exact hlt)⟩
      obtain ⟨c, hcn, b, hbl, rfl, hb⟩ := HC.out.at hq
      obtain ⟨gr, hao, hgr⟩ : ∃ gr, ao = some ⟨gr, 0, none⟩ ∧ wr.cell? ⟨gr, n, none⟩ = some (fM b) := by
        rcases HV.out with ⟨_, e⟩ | ⟨gr, cp, e, hgl, hcc⟩
        · rw [e] at hcn; simp at hcn
        · cases e; exact ⟨gr, rfl, (HS.out.1.cell (p := ⟨gr, n, none⟩) hgl).trans (hcc n _ hcn)⟩
      subst hao
      have C := f53_any q p b g wr ((HS.out.1.block b hbl).trans hb) (heap_up HG.out HS.out.1) (HQ.out q (List.mem_of_getElem? hq)) hp
      obtain ⟨m, hm⟩ : ∃ m, (matchV q (tl p)).1 = m := ⟨_, rfl⟩
      rw [hm] at C
      unfold fM at hgr C
      cases m with
      | true =>
        have hB : B = true := by
          rw [← HB.out]
          unfold hits
          exact List.any_eq_true.2 ⟨q, List.mem_of_getElem? hq, hm⟩
        subst hB
        have HW : Hid (Below w.heap.size w wr) := HS.out.1
        clear hq hcn hb HS HB hm HC HV
        go_wp2_with (go_at_call 53; refine C.mono ?_; rintro e w1 ⟨rfl, hg1⟩)
        go_ret
        exact ⟨⟨_, rfl, by simp⟩, Below.up HW.out hg1⟩
      | false =>
        have HS2 : Hid (∀ j q, j < n + 1 → qs[j]? = some q → (matchV q (tl p)).1 = false) := fun j q2 hj hq2 => by
          by_cases e : j = n
          · subst e; rw [hq] at hq2; cases hq2; exact hm
          · exact HS.out.2 j q2 (by omega) hq2
        have HW : Hid (Below w.heap.size w wr) := HS.out.1
        clear hq hcn hb HS hm
        go_wp2_with (go_at_call 53; refine C.mono ?_; rintro e w1 ⟨rfl, hg1⟩)
        have HW2 : Hid (Below w.heap.size w w1) := Below.up HW.out hg1
        go_roundw
        case rel => exact ⟨n + 1, by go_num, by omega, HW2.out, HS2.out⟩
        case measure => simp; omega
    · have hn2 : n = N := by omega
      subst hn2
      have hB : B = false := by
        rw [← HB.out]
        unfold hits
        refine List.any_eq_false.2 fun q hq => ?_
        obtain ⟨j, hj⟩ := List.getElem?_of_mem hq
        have := HS.out.2 j q (by have := (List.getElem?_eq_some_iff.1 hj).1; rw [HN.out.2] at this; exact this) hj
        simp [this]
      subst hB
      have HW : Hid (Below w.heap.size w wr) := HS.out.1
      clear HS HB
      go_wp2
      go_ret
      exact ⟨⟨_, rfl, by simp⟩, HW.out⟩
set_option maxRecDepth 100000 in
theorem contF_any (v : Value) (cs : List Value) (qs : List By) (p : ByteArray) (g : Nat) (w : World) (hv : HasV w v cs) (hc : All2 (IsM (fun b => b < w.heap.size) w) cs qs) (hg : w.heap[g]? = some (.cells #[.string p] 9)) (hq : ∀ q ∈ qs, q.length ≤ 1048576) (hp : p.size ≤ 1048576) (hn : cs.length ≤ 1048576) :
    Calls Tryd.prog 52 #[v, .func (.func 53) #[] #[.pointer (some ⟨g, 0, none⟩)]] w fun e w' => e = .returned (.bool (hits qs (tl p))) ∧ Below w.heap.size w w' := by
  have C := index_any v cs qs p g w hv hc hg hq hp hn
  obtain ⟨ao, cap, rfl⟩ : ∃ ao cap, v = .slice ao cs.length cap := by
    rcases hv with ⟨rfl, rfl⟩ | ⟨g, cap, rfl, _⟩
    · exact ⟨none, 0, rfl⟩
    · exact ⟨_, cap, rfl⟩
  generalize hits qs (tl p) = B at *
  clear hv hc hg
  go_enter Tryd.func52, Tryd.ntmps52
  go_wp2_with (go_at_call 74; refine C.mono ?_; rintro e w1 ⟨⟨i, rfl, hi⟩, hg⟩)
  go_ret
  exact ⟨by rw [← hi]; rfl, hg⟩
/-- a rule's pattern is short -/
def ShortR (L : List Ru) : Prop := (∀ r ∈ L, r.2.length ≤ 4000) ∧ L.length ≤ 64
theorem skips_short {L : List Ru} (h : ShortR L) : (∀ q ∈ skipsOf L, q.length ≤ 1048576) ∧ (skipsOf L).length ≤ 1048576 := by
  refine ⟨fun q hq => ?_, ?_⟩
  · obtain ⟨r, hr, rfl⟩ := List.mem_map.1 hq
    have := h.1 r (List.mem_filter.1 hr).1; omega
  · unfold skipsOf
    rw [List.length_map]
    have := List.length_filter_le (fun r : Ru => decide (r.1 = 1)) L
    have := h.2; omega
set_option maxRecDepth 100000 in
theorem itself_any (k : Nat) (L : List Ru) (p : ByteArray) (w : World) (h : IsRules w k L) (hL : ShortR L) (hp : p.size ≤ 1048576) :
    Calls Tryd.prog 34 #[.pointer (some ⟨k, 0, none⟩), .string p] w fun e w' => e = .returned (.bool (hits (skipsOf L) (tl p))) ∧ Below w.heap.size w w' := by
  have hmf : ∀ (fn : Fn) (first cap : Array Value) (w : World), (Instr.makeFunc fn first cap).run Tryd.prog w = .ok (.func fn first cap) w := fun _ _ _ _ => rfl
  obtain ⟨v, sv, pv, cs, ps, h1, h2, h3, h4, h5, h6⟩ := h
  obtain ⟨s1, s2⟩ := skips_short hL
  have hb : Below w.heap.size w (w.alloc (.cells #[.string p] 9)) := (Below.refl _ w).alloc (Nat.le_refl _) _
  have c1 := (three_heap (heap_up h1 hb)).2.1
  have C := contF_any sv cs (skipsOf L) p w.heap.size (w.alloc (.cells #[.string p] 9)) (h3.up hb) (h5.mono fun _ _ hc => hc.up (fun b hb' => Nat.lt_of_lt_of_le hb' hb.size) fun b hb' => hb.block b hb') (World.alloc_heap_new _ _) s1 hp (by rw [h5.len]; exact s2)
  obtain ⟨ao, cap, rfl⟩ : ∃ ao cap, sv = .slice ao cs.length cap := by
    rcases h3 with ⟨rfl, rfl⟩ | ⟨g, cap, rfl, _⟩
    · exact ⟨none, 0, rfl⟩
    · exact ⟨_, cap, rfl⟩
  generalize hits (skipsOf L) (tl p) = B at *
  clear h1 h2 h3 h4 h5 h6
  go_enter Tryd.func34, Tryd.ntmps34
  go_wp2_with (go_at_call 52; refine C.mono ?_; rintro e w1 ⟨rfl, hg⟩)
  go_ret
  exact ⟨rfl, hb.trans (hg.mono hb.size)⟩
end Go.Proofs.YtpngnhpnjkepjaaDoor
namespace Go.Proofs.YtpngnhpnjkepjaaDoor
open Go.RowKit

/-- is p let be? -/
def skipR (L : List Ru) (p : By) : Bool := decide (splitE p 64 = 0) && (List.range (pieces p).length).any fun k => hits (skipsOf L) (joinL ((pieces p).take (k + 1)))
theorem join_pieces (l : By) : joinL (pieces l) = l := by
  unfold pieces
  by_cases h : l = []
  · rw [if_pos h, h]; rfl
  · rw [if_neg h]; exact join_cuts l
theorem joinL_pre (L : List By) (k : Nat) (hk : k < L.length) : joinL (L.take (k + 1)) <+: joinL L := by
  by_cases e : k + 1 = L.length
  · rw [e, List.take_of_length_le (Nat.le_refl _)]; exact List.prefix_refl _
  · have h := join_append (A := L.take (k + 1)) (Z := L.drop (k + 1)) (by intro q; rw [List.take_eq_nil_iff] at q; rcases q with q | q; omega; rw [q] at hk; simp at hk) (by intro q; have := congrArg List.length q; simp at this; omega)
    rw [List.take_append_drop] at h
    rw [h]
    exact List.prefix_append _ _
theorem take_pieces (p : By) (k : Nat) (hk : k < (pieces p).length) : p.take (joinL ((pieces p).take (k + 1))).length = joinL ((pieces p).take (k + 1)) := by
  have h := joinL_pre (pieces p) k hk
  rw [join_pieces] at h
  exact (List.prefix_iff_eq_take.1 h).symm
theorem skipR_no {L : List Ru} {p : By} (h : splitE p 64 ≠ 0) : skipR L p = false := by unfold skipR; simp [h]
set_option maxHeartbeats 2000000 in
set_option maxRecDepth 100000 in
theorem skip_any (k : Nat) (L : List Ru) (p : ByteArray) (w : World) (h : IsRules w k L) (hL : ShortR L) (hp : p.size ≤ 1048576) :
    Calls Tryd.prog 14 #[.pointer (some ⟨k, 0, none⟩), .string p] w fun e w' => e = .returned (.bool (skipR L (tl p))) ∧ Below w.heap.size w w' := by
  have C24 := split_any p 64 w hp
  have HR : Hid (IsRules w k L) := h
  have HL : Hid (ShortR L) := hL
  clear h hL
  obtain ⟨B, hB⟩ : ∃ B, skipR L (tl p) = B := ⟨_, rfl⟩
  have HB : Hid (skipR L (tl p) = B) := hB
  rw [hB]
  clear hB
  obtain ⟨E, hE⟩ : ∃ E, splitE (tl p) 64 = E := ⟨_, rfl⟩
  have HE : Hid (splitE (tl p) 64 = E) := hE
  rw [hE] at C24
  clear hE
  by_cases h0 : E = 0
  · subst h0
    have hL0 : splitL (tl p) 64 = pieces (tl p) := if_pos HE.out
    rw [hL0] at C24
    clear hL0
    go_enter Tryd.func14, Tryd.ntmps14
    go_wp2_with (go_at_call 24; refine C24.mono ?_; rintro e w1 ⟨⟨v, X, rfl, hX, hXl⟩, hb1⟩; have HX : Hid (HasT w1 v X ∧ X.map tl = pieces (tl p) ∧ Below w.heap.size w w1) := ⟨hX.has, hXl, hb1⟩; obtain ⟨ao, cap, rfl, _⟩ := hX.has.form; clear hX hXl hb1)
    obtain ⟨N, hN⟩ : ∃ N, X.length = N := ⟨_, rfl⟩
    have HN : Hid (X.length = N) := hN
    rw [hN]
    have HXX : Hid (HasT w1 (.slice ao N cap) X ∧ X.map tl = pieces (tl p) ∧ Below w.heap.size w w1) := by rw [← hN]; exact HX
    have hN64 : N ≤ 64 := by
      have h1 := congrArg List.length HX.out.2.1
      rw [List.length_map, hN] at h1
      have h2 := HE.out
      unfold splitE at h2
      by_cases h3 : max (64 : Int) 0 < ((pieces (tl p)).length : Int)
      · rw [if_pos h3] at h2; cases h2
      · omega
    clear HX hN
    have hend : ∀ n : Nat, (joinL ((pieces (tl p)).take n)).length ≤ p.size := fun n => by
      by_cases hn : n ≤ (pieces (tl p)).length
      · have := join_take_le hn
        rw [join_pieces, tl_len] at this; exact this
      · rw [List.take_of_length_le (by omega), join_pieces, tl_len]; exact Nat.le_refl _
    have HEND : Hid (∀ n : Nat, (joinL ((pieces (tl p)).take n)).length ≤ p.size) := hend
    clear hend
    go_loopw [7, 19] (fun t7 t19 wr => ∃ (n e : Nat), t7 = .int .i64 (e : Int) ∧ t19 = .int .i64 (n : Int) ∧ n ≤ N ∧ e ≤ p.size + 1 ∧ Hid (e = (joinL ((pieces (tl p)).take n)).length + (if n = 0 then 0 else 1)) ∧ Hid (Below w1.heap.size w1 wr ∧ ∀ j, j < n → hits (skipsOf L) (joinL ((pieces (tl p)).take (j + 1))) = false)) (fun t7 t19 wr => N - iOf t19)
    case atStart => exact ⟨0, 0, rfl, rfl, Nat.zero_le _, Nat.zero_le _, by show _ = _; simp [joinL], Below.refl _ _, fun j h => by omega⟩
    case round =>
      obtain ⟨n, e, rfl, rfl, hnN, heP, HEE, HS⟩ := hrel
      have hp2 : p.size ≤ 1048576 := hp
      by_cases hlt : n < N
      · have i1 : (n : Int) < (N : Int) := by omega
        obtain ⟨x, hx⟩ : ∃ x, X[n]? = some x := ⟨_, List.getElem?_eq_getElem (by rw [HN.out]; exact hlt)⟩
        obtain ⟨a, cp, e0, hcx⟩ := (HXX.out.1.below HS.out.1).at hx
        cases e0
        have hpn : (pieces (tl p))[n]? = some (tl x) := by rw [← HXX.out.2.1, List.getElem?_map, hx]; rfl
        have hnl : n < (pieces (tl p)).length := (List.getElem?_eq_some_iff.1 hpn).1
        have hjt := join_take hpn
        have hle := HEND.out (n + 1)
        have hE1 : e + x.size = (joinL ((pieces (tl p)).take (n + 1))).length := by
          rw [hjt, HEE.out, List.length_append, tl_len]
          by_cases e0 : n = 0
          · subst e0; simp [joinL]
          · rw [if_neg e0, if_neg e0]; simp
        obtain ⟨e1, he1⟩ : ∃ e1, e + x.size = e1 := ⟨_, rfl⟩
        have he1p : e1 ≤ p.size := by omega
        have hex : p.extract 0 e1 = ofB (joinL ((pieces (tl p)).take (n + 1))) := by
          refine ext_of _ _ ?_
          rw [tl_ofB, tl_extract, List.drop_zero, Nat.sub_zero, ← take_pieces _ _ hnl, ← hE1, he1]
        have C34 := fun W h => itself_any k L (ofB (joinL ((pieces (tl p)).take (n + 1)))) W h HL.out (by rw [ofB_size]; omega)
        rw [tl_ofB] at C34
        rw [← hex] at C34
        have hxs : (e : Int) + (x.size : Int) = (e1 : Int) := by omega
        have hxs2 : x.size ≤ p.size := by omega
        have HR1 : Hid (IsRules wr k L) := HR.out.up (Below.up HXX.out.2.2 HS.out.1)
        have HE1 : Hid (e1 = (joinL ((pieces (tl p)).take (n + 1))).length) := by rw [← he1]; exact hE1
        obtain ⟨m, hm⟩ : ∃ m, hits (skipsOf L) (joinL ((pieces (tl p)).take (n + 1))) = m := ⟨_, rfl⟩
        rw [hm] at C34
        have HW : Hid (Below w1.heap.size w1 wr) := HS.out.1
        cases m with
        | true =>
          have hB : B = true := by
            rw [← HB.out]
            unfold skipR
            rw [HE.out]
            simp only [decide_true, Bool.true_and]
            exact List.any_eq_true.2 ⟨n, List.mem_range.2 hnl, hm⟩
          subst hB
          clear hx hpn hjt hle hE1 hex hm HS HB HEE he1
          go_wp2_with (go_at_call 34; refine (C34 _ HR1.out).mono ?_; rintro e w2 ⟨rfl, hg2⟩)
          go_ret
          exact ⟨rfl, Below.up (Below.up HXX.out.2.2 HW.out) hg2⟩
        | false =>
          have HS2 : Hid (∀ j, j < n + 1 → hits (skipsOf L) (joinL ((pieces (tl p)).take (j + 1))) = false) := fun j hj => by
            by_cases e0 : j = n
            · subst e0; exact hm
            · exact HS.out.2 j (by omega)
          clear hx hpn hjt hle hE1 hex hm HS HEE he1
          go_wp2_with (go_at_call 34; refine (C34 _ HR1.out).mono ?_; rintro e w2 ⟨rfl, hg2⟩)
          have HW2 : Hid (Below w1.heap.size w1 w2) := Below.up HW.out hg2
          go_roundw
          case rel => exact ⟨n + 1, e1 + 1, by go_num, by go_num, by omega, by omega, by rw [if_neg (by omega), ← HE1.out]; exact rfl, HW2.out, HS2.out⟩
          case measure => simp; omega
      · have hn2 : n = N := by omega
        subst hn2
        have hB : B = false := by
          rw [← HB.out]
          unfold skipR
          rw [List.any_eq_false.2, Bool.and_false]
          intro j hj
          have h1 := congrArg List.length HXX.out.2.1
          rw [List.length_map, HN.out] at h1
          have := HS.out.2 j (by rw [h1]; exact List.mem_range.1 hj)
          simp [this]
        subst hB
        have HW : Hid (Below w1.heap.size w1 wr) := HS.out.1
        clear HS HB HEE
        go_wp2
        go_ret
        exact ⟨rfl, Below.up HXX.out.2.2 HW.out⟩
  · have hB : B = false := by rw [← HB.out]; exact skipR_no (by rw [HE.out]; exact h0)
    subst hB
    have b0 : (E == 0) = false := by simpa using h0
    clear HB
    go_enter Tryd.func14, Tryd.ntmps14
    go_wp2_with (go_at_call 24; refine C24.mono ?_; rintro e w1 ⟨⟨v, X, rfl, hX, hXl⟩, hb1⟩; obtain ⟨ao, cap, rfl, _⟩ := hX.has.form)
    go_ret
    exact ⟨rfl, hb1⟩
end Go.Proofs.YtpngnhpnjkepjaaDoor
