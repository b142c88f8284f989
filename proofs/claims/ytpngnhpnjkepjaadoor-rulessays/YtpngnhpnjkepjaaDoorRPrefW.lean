/-
  Prefer's walk.
-/
import Derived.Test.YtpngnhpnjkepjaaDoorRPref
namespace Go.Proofs.YtpngnhpnjkepjaaDoor
open Go.RowKit Go.Shelf
attribute [local go_sem] Oper.semAt_some

set_option maxRecDepth 100000 in
set_option maxHeartbeats 4000000 in
theorem prefer_any (k : Nat) (L : List Ru) (p : ByteArray) (w : World) (h : IsRules w k L) (hL : ShortR L) (hp : p.size ≤ 1048576) :
    Calls Tryd.prog 16 #[.pointer (some ⟨k, 0, none⟩), .string p] w fun e w' => e = .returned (.int .i64 (prefR L (tl p) : Int)) ∧ Below w.heap.size w w' := by
  obtain ⟨v, sv, pv, cs, ps, h1, h2, h3, h4, h5, h6⟩ := h
  obtain ⟨s1, s2⟩ := prefs_short hL
  have hlen := h6.len
  obtain ⟨N, hN⟩ : ∃ N, ps.length = N := ⟨_, rfl⟩
  have hb3 : Below w.heap.size w (w.alloc (.cells #[.string p] 9)) := (Below.refl _ w).alloc (Nat.le_refl _) _
  have hb4 : Below w.heap.size w ((w.alloc (.cells #[.string p] 9)).alloc (.cells #[.int .i64 0] 3)) := hb3.alloc (by simp) _
  have c2 := (three_heap (heap_up h1 hb4)).2.2.1
  obtain ⟨ao, cap, hvf⟩ : ∃ ao cap, pv = .slice ao ps.length cap := by
    rcases h4 with ⟨rfl, rfl⟩ | ⟨g, cap, rfl, _⟩
    · exact ⟨none, 0, rfl⟩
    · exact ⟨_, cap, rfl⟩
  rw [hN] at hvf hlen
  subst hvf
  obtain ⟨gr, hgr, hgl, hcs⟩ : ∃ gr, (N = 0 ∨ ao = some ⟨gr, 0, none⟩) ∧ gr < w.heap.size + 1 ∧ ∀ i, i < N → w.cell? ⟨gr, i, none⟩ = some (ps.getD i undef) := by
    rcases h4 with ⟨e, e2⟩ | ⟨g, cp, e, hg, hc⟩
    · cases e
      exact ⟨0, .inl rfl, by omega, fun i hi => by omega⟩
    · cases e
      refine ⟨g, .inr rfl, by omega, fun i hi => hc i _ ?_⟩
      rw [List.getD_eq_getElem?_getD, List.getElem?_eq_getElem (by omega)]; rfl
  obtain ⟨S, hS⟩ : ∃ S : Nat → Nat, S = fun i => sideR ((prefsOf L).getD i (0, [])) (tl p) := ⟨_, rfl⟩
  have HP : Hid (prefR L (tl p) = firstNZ ((revs N).map S)) := by
    show _ = _
    rw [hlen, hS, revs_map]; rfl
  have HCALL : Hid (∀ i, i < N → ∃ b g, ps.getD i undef = fP b g ∧ ∀ W, Below w.heap.size w W → Calls Tryd.prog 73 #[.string p, .pointer (some ⟨b, 0, none⟩), .pointer (some ⟨g, 0, none⟩)] W fun e w' => e = .returned (.int .i64 (S i : Int)) ∧ Below W.heap.size W w') := fun i hi => by
    obtain ⟨r, hr⟩ : ∃ r, (prefsOf L)[i]? = some r := ⟨_, List.getElem?_eq_getElem (by omega)⟩
    obtain ⟨c, hc, b, g, m, hbD, hgD, rfl, hb, hm, hg⟩ := h6.at hr
    refine ⟨b, g, by rw [List.getD_eq_getElem?_getD, hc]; rfl, fun W hW => ?_⟩
    have hSi : S i = sideR r (tl p) := by rw [hS]; simp only [List.getD_eq_getElem?_getD, hr]; rfl
    rw [hSi]
    exact fP_any r p b g m (fun b => b < W.heap.size) W ((hW.block b hbD).trans hb) (hm.up (fun x hx => Nat.lt_of_lt_of_le hx hW.size) fun x hx => hW.block x hx) ((hW.block g hgD).trans hg) (fun _ h => h) (s1 r (List.mem_of_getElem? hr)) hp
  obtain ⟨PR, hPR⟩ : ∃ PR, prefR L (tl p) = PR := ⟨_, rfl⟩
  rw [hPR]
  have HPR : Hid (firstNZ ((revs N).map S) = PR) := by rw [← hPR]; exact HP.out.symm
  have HCS : Hid (∀ i, i < N → w.cell? ⟨gr, i, none⟩ = some (ps.getD i undef)) := hcs
  have hkl : k < w.heap.size := (Array.getElem?_eq_some_iff.1 h1).1
  have C37 := fun W => backF_any ao N cap W
  have hNb : N ≤ 1048576 := by omega
  clear h1 h2 h3 h4 h5 h6 hPR HP hcs hlen hN s1 hS
  refine (callsIn_wide (n := 4)).1 ?_
  refine callsIn_of_wp_marks Tryd.func16 rfl trivial ?_ rfl
  simp only [Tryd.ntmps16, List.size_toArray, List.length_cons, List.length_nil, Nat.reduceAdd, Nat.reduceSub, Array.replicate_succ, Array.replicate_zero, List.push_toArray, List.append_toArray, List.nil_append, List.cons_append]
  gi_wp2_with (refine ⟨trivial, ?_⟩; gi_at_call 37; refine (callsIn_wide.2 (C37 _)).mono ?_; rintro e w' ⟨rfl, rfl⟩)
  obtain ⟨wC, hwC⟩ : ∃ wC, ((w.alloc (.cells #[.string p] 9)).alloc (.cells #[.int .i64 0] 3)).alloc (.cells #[.slice ao N cap] 64) = wC := ⟨_, rfl⟩
  have hBC : Below w.heap.size w wC := by rw [← hwC]; exact hb4.alloc (by simp; omega) _
  have hszC : wC.heap.size = w.heap.size + 3 := by rw [← hwC]; simp
  have h3C : wC.heap[w.heap.size]? = some (.cells #[.string p] 9) := by rw [← hwC]; exact heap_old _ (heap_old _ (World.alloc_heap_new w _))
  have h4C : wC.heap[w.heap.size + 1]? = some (.cells #[.int .i64 0] 3) := by
    rw [← hwC]
    have := World.alloc_heap_new (w.alloc (.cells #[.string p] 9)) (.cells #[.int .i64 0] 3)
    rw [World.size_alloc] at this
    exact heap_old _ this
  have h5C : wC.heap[w.heap.size + 1 + 1]? = some (.cells #[.slice ao N cap] 64) := by
    rw [← hwC]
    have := World.alloc_heap_new ((w.alloc (.cells #[.string p] 9)).alloc (.cells #[.int .i64 0] 3)) (.cells #[.slice ao N cap] 64)
    rw [World.size_alloc, World.size_alloc] at this
    exact this
  rw [hwC]
  clear hwC hb3 hb4 c2
  have STOPS : SeqStopsK Fence.wide 3 Tryd.prog 56 #[.pointer (some ⟨w.heap.size + 1 + 1, 0, none⟩)] (fun x : Fin N => #[.int .i64 (x.1 : Int), ps.getD x.1 undef]) (KeepB (w.heap.size + 1 + 1) gr) (fun ys => ixs ys = revs N) (fun pre => ixs pre <+: revs N) N wC := fun l J Jx W hW hJ _ hY h0 => by
    refine back1_in Fence.wide 3 trivial rfl (by omega) l (w.heap.size + 1 + 1) gr N cap ao ps (by omega) J Jx W hY ?_ hgr ?_ h0
    · exact (one_heap (heap_up h5C hW)).1
    · intro i hi
      have h1 := HCS.out i hi
      have h2 := World.block_lt_of_cell? w _ h1
      exact ((hBC.trans (hW.mono (by omega))).cell (p := ⟨gr, i, none⟩) h2).trans h1
  refine wpIn_rangeFunc_ownF rfl (by omega) (gf := 56) (lb := #[.pointer (some ⟨w.heap.size + 1 + 1, 0, none⟩)]) rfl trivial (enters_of Tryd.func56 (by kernel_rfl) rfl)
    STOPS (fun h k => keepB_t h k) (keepB_b (by omega) (by omega)) (Below.refl _ _) (fun _ => rfl)
    (fun pre W => (∀ x ∈ pre, S x.1 = 0) ∧ Below wC.heap.size wC W)
    (fun c pre W => (c = .ret ∧ (∃ pre' x, pre = pre' ++ [x] ∧ (∀ y ∈ pre', S y.1 = 0) ∧ S x.1 ≠ 0 ∧ W.cell? ⟨w.heap.size + 1, 0, none⟩ = some (.int .i64 (S x.1 : Int)))) ∧ Below w.heap.size w W)
    (OwnFrom.and (Own.from (fun _ _ _ _ hs _ _ => hs) _) (ownFrom_below (Nat.le_refl _) (by omega)))
    (fun c => OwnFrom.and (Own.from (fun s A B row hs hg hr => ⟨hs.1, by
        obtain ⟨pre', x, e1, e2, e3, e4⟩ := hs.2
        exact ⟨pre', x, e1, e2, e3, cell_kept e4 hg hr⟩⟩) _) (ownFrom_below (Nat.le_refl _) (by omega)))
    ⟨by simp, Below.refl _ _⟩
    (fun x => { tmps := #[.pointer (some ⟨k, 0, none⟩), .string p, undef, .pointer (some ⟨w.heap.size, 0, none⟩), .pointer (some ⟨w.heap.size + 1, 0, none⟩), undef, ps.getD x.1 undef, undef, .pointer (some ⟨k, 0, none⟩), .pointer (some ⟨k, 0, none⟩), .pointer (some ⟨k, 2, none⟩), .slice ao N cap, .func (.func 56) #[] #[.pointer (some ⟨w.heap.size + 1 + 1, 0, none⟩)], .int .i64 (x.1 : Int), ps.getD x.1 undef, undef, undef, undef, undef, undef, undef], defers := [] }) ?assign ?body ?done ?stop
  case assign =>
    intro l x W K hK
    gi_wp2
    exact hK
  case body =>
    rintro l pre x W ⟨hz, hB⟩ _
    obtain ⟨b, g, hfp, hcall⟩ := HCALL.out x.1 x.2
    rw [hfp]
    have hBw : Below w.heap.size w W := hBC.trans (hB.mono (by omega))
    have CX := hcall W hBw
    have c3 := (one_heap (heap_up h3C hB)).1
    obtain ⟨c4, f4⟩ := one_heap (heap_up h4C hB)
    have hszW := hB.size
    by_cases h0 : S x.1 = 0
    · rw [h0] at CX
      have HZ : Hid (∀ y ∈ pre ++ [x], S y.1 = 0) := by
        intro y hy
        rcases List.mem_append.1 hy with q | q
        · exact hz y q
        · simp at q; subst q; exact h0
      unfold fP
      clear hz h0 hcall hfp
      gi_wp2_with (refine ⟨trivial, ?_⟩; gi_at_call 73; refine (CallsIn.inRound l (callsIn_wide.2 CX)).mono ?_; rintro e w1 ⟨rfl, b1⟩)
      exact ⟨below_keeps b1, ⟨(below_keeps b1).walks, b1.block _ (by omega), b1.block _ (by omega)⟩, HZ.out, Below.up hB b1⟩
    · have HX : Hid (∀ z ∈ pre, S z.1 = 0) := hz
      have b0 : ((S x.1 : Int) == 0) = false := by simp; omega
      unfold fP
      clear hz hcall hfp
      gi_wp2_with (refine ⟨trivial, ?_⟩; gi_at_call 73; refine (CallsIn.inRound l (callsIn_wide.2 CX)).mono ?_; rintro e w1 ⟨rfl, b1⟩; obtain ⟨d4, e4⟩ := one_heap (heap_up (heap_up h4C hB) b1))
      exact ⟨(below_keeps b1).trans (KeepsOthers.setCell _ _ _), ⟨rfl, pre, x, rfl, HX.out, h0, World.cell?_setCell_same _ _ _ d4⟩, (hBw.trans (b1.mono hBw.size)).setCell (p := ⟨w.heap.size + 1, 0, none⟩) (by simp) _⟩
  case done =>
    rintro D ys W hD hys ⟨hz, hB⟩ hK
    have hPR : PR = 0 := by
      rw [← HPR.out]
      refine firstNZ_zero fun y hy => ?_
      obtain ⟨i, hi, rfl⟩ := List.mem_map.1 hy
      rw [← hys] at hi
      obtain ⟨x, hx, rfl⟩ := List.mem_map.1 hi
      exact hz x hx
    subst hPR
    obtain ⟨c4, f4⟩ := one_heap (heap_up h4C hB)
    have hBw : Below w.heap.size w W := hBC.trans (hB.mono (by omega))
    clear hz hys HPR
    gi_wp2
    have k1 : (W.setCell ⟨w.heap.size + 1, 0, none⟩ (.int .i64 0)).heap[D]? = some (.deferred (some [])) := (KeepsOthers.setCell _ _ _).same D _ hK rfl
    refine ⟨by simp, .inl ⟨_, _, rfl, run_takeDeferred k1, ?_⟩⟩
    have t4 : (W.setCell ⟨w.heap.size + 1, 0, none⟩ (.int .i64 0)).cell? ⟨w.heap.size + 1, 0, none⟩ = some (.int .i64 0) := World.cell?_setCell_same _ _ _ c4
    have d4 := cell_kept t4 (grownBy_putObj' _ D (.deferred none)) (fun r e => by cases e; exact ⟨_, k1, rfl⟩)
    refine ⟨.int .i64 0, ?_, rfl, (hBw.setCell (p := ⟨w.heap.size + 1, 0, none⟩) (by simp) _).trans (belowK_b (w := w) (Nat.le_refl _) _ D _ _ (by omega) k1 rfl rfl)⟩
    simp [results, Tryd.f16, go_sem, d4]
  case stop =>
    rintro D c pre W hD hpre ⟨⟨rfl, pre', x, rfl, hz, h0, hc⟩, hB⟩ hK
    have hPR : PR = S x.1 := by
      rw [← HPR.out]
      obtain ⟨t, ht⟩ := hpre
      rw [← ht]
      simp only [List.map_append, List.map_cons, List.map_nil, List.append_assoc, List.cons_append, List.nil_append]
      refine firstNZ_at _ (fun y hy => ?_) h0
      simp only [List.mem_map] at hy
      obtain ⟨_, ⟨z, hz1, rfl⟩, rfl⟩ := hy
      exact hz z hz1
    subst hPR
    clear hz hpre HPR
    gi_wp2
    refine ⟨by simp, .inl ⟨_, _, rfl, run_takeDeferred hK, ?_⟩⟩
    have c4 := cell_kept hc (grownBy_putObj' _ D (.deferred none)) (fun r e => by cases e; exact ⟨_, hK, rfl⟩)
    refine ⟨.int .i64 (S x.1 : Int), ?_, rfl, hB.trans (belowK_b (w := w) (Nat.le_refl _) W D _ _ (by omega) hK rfl rfl)⟩
    simp [results, Tryd.f16, go_sem, c4]
end Go.Proofs.YtpngnhpnjkepjaaDoor
