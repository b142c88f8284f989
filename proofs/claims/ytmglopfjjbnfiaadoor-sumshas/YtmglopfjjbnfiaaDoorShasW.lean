/-
  twinelaw2.SumSHAs: the walk.
-/
import Derived.Test.YtmglopfjjbnfiaaDoorInC
import Derived.BigRegion
import Derived.Test.YtmglopfjjbnfiaaDoorParts
import Derived.Test.YtmglopfjjbnfiaaDoorRefSha
namespace Go.Proofs.YtmglopfjjbnfiaaDoor
open Go.RowKit

theorem drewNB (w : World) (n : Nat) : Below w.heap.size w (w.drewN n) := ⟨rfl, rfl, rfl, Nat.le_refl _, fun _ _ => rfl⟩

/-- The world behind Chunks and the first sum (at block g). -/
structure ShW (w1 wr : World) (n : Nat) (s : Spots) (vp : Value) (ps qs : List (List Nat)) (g : Nat) (sl : List Nat) : Prop where
  inc : InC wr w1.heap.size w1.heap.size n s qs
  row : wr.heap[g]? = some (.cells (sl.map vb).toArray 41 (0, 0))
  par : HasL wr vp ps
  bel : Below w1.heap.size w1 wr

theorem ShW.up {w1 wr wz : World} {n : Nat} {s : Spots} {vp : Value} {ps qs : List (List Nat)} {g : Nat} {sl : List Nat} (h : ShW w1 wr n s vp ps qs g sl) (hb : Below wr.heap.size wr wz) : ShW w1 wz n s vp ps qs g sl :=
  ⟨h.inc.all hb, by rw [hb.block _ (Array.getElem?_eq_some_iff.1 h.row).1]; exact h.row, h.par.below hb, Below.up h.bel hb⟩
theorem ShW.cells {w1 wr : World} {n : Nat} {s : Spots} {vp : Value} {ps qs : List (List Nat)} {g : Nat} {sl : List Nat} (h : ShW w1 wr n s vp ps qs g sl) : ∀ j v, (sl.map vb)[j]? = some v → wr.cell? ⟨g, 0 + j, none⟩ = some v := fun j v hv => by
  rw [Nat.zero_add, cell_of_row _ _ _ _ _ _ h.row]; simpa using hv

set_option linter.unusedSimpArgs false in
set_option maxHeartbeats 8000000 in
set_option maxRecDepth 100000 in
theorem shas_law (ao : Option Addr) (cap : Nat) (ps : List (List Nat)) (w : World) (hv : HasL w (.slice ao ps.length cap) ps) (hB : ∀ p ∈ ps, Bytes p) (hn : ps.length ≤ 9223372036854775807) (hp : ∀ p ∈ ps, p.length ≤ 9223372036854775807) (hT : Tabs w) :
    Calls Tryd.prog 3 #[.slice ao ps.length cap] w fun e w' => e = .returned (.bool true) ∧ Below w.heap.size w w' := by
  have C9 : Hid (Calls Tryd.prog 9 #[.slice ao ps.length cap] w fun e w' => ∃ q, e = .returned (.bool q) ∧ (q = true → ps.length + ps.flatten.length ≤ 32768) ∧ Below w.heap.size w w') := few_any _ ps w hv hn hp
  have HV : Hid (HasL w (.slice ao ps.length cap) ps ∧ (∀ p ∈ ps, Bytes p) ∧ Tabs w) := ⟨hv, hB, hT⟩
  obtain ⟨n, hnn⟩ : ∃ n, n = ps.length := ⟨_, rfl⟩
  have HN : Hid (n = ps.length) := hnn
  rw [← hnn] at C9 ⊢
  clear hv hB hn hp hT hnn
  go_enter Tryd.func3, Tryd.ntmps3
  have KC : Hid (∀ wz, Below w.heap.size w wz → n + ps.flatten.length ≤ 32768 → Calls Tryd.prog 10 #[.pointer (some ⟨wz.heap.size, 0, none⟩), .slice ao n cap] (wz.alloc roomObj) fun e w' => ∃ s : Spots, e = .returned (.slice (some ⟨s.gv, 0, none⟩) n (n + 40)) ∧ (InC w' wz.heap.size wz.heap.size n s ps ∧ Below wz.heap.size wz w')) := fun wz hz hq => by
    have hl : ∀ p ∈ ps, p.length ≤ ps.flatten.length := fun p hp => (List.sublist_flatten_of_mem hp).length_le
    have := HN.out
    have hv := HV.out.1.below hz
    rw [this]
    exact roomChunks_any _ ps wz hv (by omega) (fun p hp => by have := hl p hp; omega)
  have KJ : Hid (∀ wz v qs, HasL wz v qs → qs.length ≤ 32768 → qs.flatten.length ≤ 32768 → Calls Tryd.prog 12 #[v] wz fun e w' => ∃ u, e = .returned u ∧ (Has w' u qs.flatten ∧ Below wz.heap.size wz w')) := fun wz v qs hv h1 h2 => (joined_any v qs wz hv (by omega) (by omega)).mono fun e w' ⟨u, q1, q2, q3⟩ => ⟨u, q1, q2.has, q3⟩
  have KR : Hid (∀ wz v l, Has wz v l → Bytes l → l.length ≤ 32768 → Calls Tryd.prog 11 #[v] wz fun e w' => e = .returned (.agg ((Sha.sha l).map vb).toArray) ∧ Below wz.heap.size wz w') := fun wz v l h1 h2 h3 => refSha_any v l wz h1 h2 (by omega)
  obtain ⟨sl, hsl⟩ : ∃ sl, sl = Sha.sha ps.flatten := ⟨_, rfl⟩
  have HS : Hid (sl = Sha.sha ps.flatten ∧ sl.length = 32 ∧ Bytes ps.flatten) := ⟨hsl, by rw [hsl]; exact sha_len _, fun x hx => by obtain ⟨p, hp, hx'⟩ := List.mem_flatten.1 hx; exact HV.out.2.1 p hp x hx'⟩
  obtain ⟨c, hc⟩ : ∃ c, c = (sl.map vb).toArray := ⟨_, rfl⟩
  have HC : Hid (c = (sl.map vb).toArray) := hc
  have HF : Hid ((Tryd.prog.info? 41).map (·.size) = some c.size ∧ (bfill 32 []).size = c.size ∧ c.all (·.oneCell') = true) := by rw [hc, hsl]; exact ⟨hz41 _, ho41 _, all_vb _⟩
  have Z : Hid ((Tryd.prog.info? 41).map (·.size) = some (sl.map vb).length) := by show _ = _; rw [List.length_map, HS.out.2.1]; kernel_rfl
  have KR1 : Hid (∀ wz v, Has wz v ps.flatten → ps.flatten.length ≤ 32768 → Calls Tryd.prog 11 #[v] wz fun e w' => e = .returned (.agg c) ∧ Below wz.heap.size wz w') := fun wz v h1 h2 => by
    rw [hc, hsl]; exact KR.out wz v _ h1 HS.out.2.2 h2
  clear hsl hc
  go_upto_region 2 with (go_at_call 9; refine C9.out.mono ?_; rintro e w1 ⟨q, rfl, h1⟩; have H1 : Hid ((q = true → n + ps.flatten.length ≤ 32768) ∧ Below w.heap.size w w1) := h1; clear h1)
  · clear C9 KC KJ KR KR1 HF Z HC HS
    go_wp2
    go_ret
    exact ⟨rfl, H1.out.2⟩
  have HQ : Hid (n + ps.flatten.length ≤ 32768) := H1.out.1 (by have h := ‹(!q) = false›; cases q with | true => rfl | false => cases h)
  refine (KC.out w1 H1.out.2 HQ.out).mono ?_
  rintro e w2 ⟨s, rfl, h2⟩
  have H2 : Hid (InC w2 w1.heap.size w1.heap.size n s ps ∧ Below w1.heap.size w1 w2) := h2
  clear h2 KC C9
  go_upto_region 6 with (first
    | (go_at_call 12; refine (KJ.out w2 _ ps (HasL.below (HasL.below (by rw [HN.out]; exact HV.out.1) H1.out.2) H2.out.2) (by have := HQ.out; have := HN.out; omega) (by have := HQ.out; omega)).mono ?_; rintro e w3 ⟨u, rfl, h3⟩; have H3 : Hid (Has w3 u ps.flatten ∧ Below w2.heap.size w2 w3) := h3; clear h3)
    | (go_at_call 11; refine (KR1.out w3 u H3.out.1 (by have := HQ.out; omega)).mono ?_; rintro e w4 ⟨rfl, h4⟩; have H4 : Hid (Below w3.heap.size w3 w4) := h4; clear h4)
    | refine wpList_store_row rfl 41 (.tmp 5) (.tmp 19) rfl _ c rfl rfl 41 _ (heap_alloc_new _ _) HF.out.1 HF.out.2.1 HF.out.2.2 ?_)
  refine step_world (fun W => ShW w1 W n s (.slice ao n cap) ps ps w4.heap.size sl) ?_ fun W1 HH1 => ?_
  · have B4 : Below w4.heap.size w4 _ := below_setRow ((Below.refl _ w4).alloc (Nat.le_refl _) (.cells (bfill 32 []) 41)) (Nat.le_refl _) c
    exact ⟨((H2.out.1.all H3.out.2).all H4.out).all B4, by rw [← HC.out]; exact setRow_heap _ _ _ _ _ _ (heap_alloc_new _ _), HasL.below (HasL.below (HasL.below (HasL.below (HasL.below (by rw [HN.out]; exact HV.out.1) H1.out.2) H2.out.2) H3.out.2) H4.out) B4, Below.up (Below.up (Below.up H2.out.2 H3.out.2) H4.out) B4⟩
  obtain ⟨g, hg⟩ : ∃ g, g = w4.heap.size := ⟨_, rfl⟩
  rw [← hg] at HH1 ⊢
  have P1 : Hid (ShW w1 W1 n s (.slice ao n cap) ps ps g sl) := HH1
  have KS : Hid (∀ wz, ShW w1 wz n s (.slice ao n cap) ps ps g sl → Calls Tryd.prog 13 #[.slice (some ⟨s.gv, 0, none⟩) n (n + 40)] wz fun e w' => e = .returned (.agg (sl.map vb).toArray) ∧ ShW w1 w' n s (.slice ao n cap) ps ps g sl) := fun wz hz => by
    rw [HS.out.1]
    refine (sha_any _ ps wz hz.inc.hasL HV.out.2.1 (HV.out.2.2.up (H1.out.2.trans (hz.bel.mono H1.out.2.size))) (by have := HQ.out; omega) (by have := HQ.out; have := HN.out; omega)).mono fun e w' ⟨q1, q2⟩ => ⟨q1, by rw [← HS.out.1]; exact hz.up q2⟩
  have KL : Hid (∀ wz, ShW w1 wz n s (.slice ao n cap) ps ps g sl → Calls Tryd.prog 14 #[.slice (some ⟨s.gv, 0, none⟩) n (n + 40), .slice ao n cap] wz fun e w' => e = .returned (.bool true) ∧ ShW w1 w' n s (.slice ao n cap) ps ps g sl) := fun wz hz => by
    have hl : ∀ p ∈ ps, p.length ≤ ps.flatten.length := fun p hp => (List.sublist_flatten_of_mem hp).length_le
    exact (sameLists_any _ _ ps wz hz.inc.hasL hz.par (by have := HQ.out; have := HN.out; omega) (fun p hp => by have := hl p hp; have := HQ.out; omega)).mono fun e w' ⟨q1, j, q2⟩ => ⟨q1, by rw [q2]; exact hz.up (drewNB wz j)⟩
  clear HH1 hg H2 H3 H4 HC HF KR1
  go_simp
  go_cut [35] from 20 (fun r wf => r = .bool false ∧ Hid (ShW w1 wf n s (.slice ao n cap) ps ps g sl))
  case first =>
    refine wp_region_any (by kernel_rfl) ?_
    change wpAny _ _ _ _ _ _ _ (World.drew _)
    generalize hw5 : World.drew W1 = w5
    have P5 : Hid (ShW w1 w5 n s (.slice ao n cap) ps ps g sl) := by rw [← hw5]; exact P1.out.up ⟨rfl, rfl, rfl, Nat.le_refl _, fun _ _ => rfl⟩
    clear hw5 P1
    refine wpAny_take (i := 0) (v := .slice (some ⟨s.gv, 0, none⟩) n (n + 40)) rfl (by kernel_rfl) (by kernel_rfl) (by kernel_rfl) (fun _ _ _ h => h) (Or.inl ⟨by kernel_rfl, ?_⟩) ?_
    · intro wz; go_simp
    try simp only [Act.put, List.getElem_toArray, List.getElem_cons_zero, List.getElem_cons_succ, List.setIfInBounds_toArray, List.set_cons_zero, List.set_cons_succ]
    refine wpAny_ready (rs := [1, 2]) (by kernel_rfl) (by simp) ?_
    refine AllReady.cons rfl (fun K' hK' => ?_) (ar_load rfl (by kernel_rfl) 41 (.tmp 5) rfl g 0 rfl (sl.map vb) (.array 32 5) P5.out.cells Tryd.underlying41 rfl Z.out ?_ AllReady.nil)
    · go_simp
      refine (KS.out _ P5.out).mono ?_
      rintro e w6 ⟨rfl, P6⟩
      replace P6 : Hid _ := P6
      refine hK' _ _ ?_
      clear hK' K'
      refine wpAny_ready (rs := [2]) (by kernel_rfl) (by simp) ?_
      refine (ar_load rfl (by kernel_rfl) 41 (.tmp 5) rfl g 0 rfl (sl.map vb) (.array 32 5) P6.out.cells Tryd.underlying41 rfl Z.out ?_ AllReady.nil)
      try simp only [Act.put, List.getElem_toArray, List.getElem_cons_zero, List.getElem_cons_succ, List.setIfInBounds_toArray, List.set_cons_zero, List.set_cons_succ]
      refine wpAny_take (i := 3) (v := .bool false) rfl (by kernel_rfl) (by kernel_rfl) (by kernel_rfl) (fun _ _ _ h => h) (yields_neq41 (.tmp 21) (.tmp 22) sl HS.out.2.1 rfl (by kernel_rfl) rfl rfl) ?_
      try simp only [Act.put, List.getElem_toArray, List.getElem_cons_zero, List.getElem_cons_succ, List.setIfInBounds_toArray, List.set_cons_zero, List.set_cons_succ]
      refine wpAny_take (i := 4) (v := .bool false) rfl (by kernel_rfl) (by kernel_rfl) (by kernel_rfl) (fun _ _ _ h => h) (Or.inl ⟨by kernel_rfl, ?_⟩) ?_
      · intro wz; go_simp
      try simp only [Act.put, List.getElem_toArray, List.getElem_cons_zero, List.getElem_cons_succ, List.setIfInBounds_toArray, List.set_cons_zero, List.set_cons_succ]
      refine wpAny_take (i := 5) (v := .slice (some ⟨s.gv, 0, none⟩) n (n + 40)) rfl (by kernel_rfl) (by kernel_rfl) (by kernel_rfl) (fun _ _ _ h => h) (Or.inl ⟨by kernel_rfl, ?_⟩) ?_
      · intro wz; go_simp
      try simp only [Act.put, List.getElem_toArray, List.getElem_cons_zero, List.getElem_cons_succ, List.setIfInBounds_toArray, List.set_cons_zero, List.set_cons_succ]
      refine wpAny_ready (rs := [6, 7]) (by kernel_rfl) (by simp) ?_
      refine AllReady.cons rfl (fun K' hK' => ?_) (ar_load rfl (by kernel_rfl) 41 (.tmp 5) rfl g 0 rfl (sl.map vb) (.array 32 5) P6.out.cells Tryd.underlying41 rfl Z.out ?_ AllReady.nil)
      · go_simp
        refine (KS.out _ P6.out).mono ?_
        rintro e w7 ⟨rfl, P7⟩
        replace P7 : Hid _ := P7
        refine hK' _ _ ?_
        clear hK' K'
        refine wpAny_ready (rs := [7]) (by kernel_rfl) (by simp) ?_
        refine (ar_load rfl (by kernel_rfl) 41 (.tmp 5) rfl g 0 rfl (sl.map vb) (.array 32 5) P7.out.cells Tryd.underlying41 rfl Z.out ?_ AllReady.nil)
        try simp only [Act.put, List.getElem_toArray, List.getElem_cons_zero, List.getElem_cons_succ, List.setIfInBounds_toArray, List.set_cons_zero, List.set_cons_succ]
        refine wpAny_take (i := 8) (v := .bool false) rfl (by kernel_rfl) (by kernel_rfl) (by kernel_rfl) (fun _ _ _ h => h) (yields_neq41 (.tmp 26) (.tmp 27) sl HS.out.2.1 rfl (by kernel_rfl) rfl rfl) ?_
        try simp only [Act.put, List.getElem_toArray, List.getElem_cons_zero, List.getElem_cons_succ, List.setIfInBounds_toArray, List.set_cons_zero, List.set_cons_succ]
        refine wpAny_take (i := 9) (v := .bool false) rfl (by kernel_rfl) (by kernel_rfl) (by kernel_rfl) (fun _ _ _ h => h) (Or.inl ⟨by kernel_rfl, ?_⟩) ?_
        · intro wz; go_simp
        try simp only [Act.put, List.getElem_toArray, List.getElem_cons_zero, List.getElem_cons_succ, List.setIfInBounds_toArray, List.set_cons_zero, List.set_cons_succ]
        refine wpAny_take (i := 10) (v := .bool false) rfl (by kernel_rfl) (by kernel_rfl) (by kernel_rfl) (fun _ _ _ h => h) (Or.inl ⟨by kernel_rfl, ?_⟩) ?_
        · intro wz; go_simp
        try simp only [Act.put, List.getElem_toArray, List.getElem_cons_zero, List.getElem_cons_succ, List.setIfInBounds_toArray, List.set_cons_zero, List.set_cons_succ]
        refine wpAny_take (i := 11) (v := .slice (some ⟨s.gv, 0, none⟩) n (n + 40)) rfl (by kernel_rfl) (by kernel_rfl) (by kernel_rfl) (fun _ _ _ h => h) (Or.inl ⟨by kernel_rfl, ?_⟩) ?_
        · intro wz; go_simp
        try simp only [Act.put, List.getElem_toArray, List.getElem_cons_zero, List.getElem_cons_succ, List.setIfInBounds_toArray, List.set_cons_zero, List.set_cons_succ]
        refine wpAny_take (i := 12) (v := .slice ao n cap) rfl (by kernel_rfl) (by kernel_rfl) (by kernel_rfl) (fun _ _ _ h => h) (Or.inl ⟨by kernel_rfl, ?_⟩) ?_
        · intro wz; go_simp
        try simp only [Act.put, List.getElem_toArray, List.getElem_cons_zero, List.getElem_cons_succ, List.setIfInBounds_toArray, List.set_cons_zero, List.set_cons_succ]
        refine wpAny_ready (rs := [13]) (by kernel_rfl) (by simp) ?_
        refine AllReady.cons rfl (fun K' hK' => ?_) AllReady.nil
        go_simp
        refine (KL.out _ P7.out).mono ?_
        rintro e w8 ⟨rfl, P8⟩
        replace P8 : Hid _ := P8
        refine hK' _ _ ?_
        clear hK' K'
        try simp only [Act.put, List.getElem_toArray, List.getElem_cons_zero, List.getElem_cons_succ, List.setIfInBounds_toArray, List.set_cons_zero, List.set_cons_succ]
        refine wpAny_take (i := 14) (v := .bool false) rfl (by kernel_rfl) (by kernel_rfl) (by kernel_rfl) (fun _ _ _ h => h) (Or.inl ⟨by kernel_rfl, ?_⟩) ?_
        · intro wz; go_simp
        try simp only [Act.put, List.getElem_toArray, List.getElem_cons_zero, List.getElem_cons_succ, List.setIfInBounds_toArray, List.set_cons_zero, List.set_cons_succ]
        refine wpAny_take (i := 15) (v := .bool false) rfl (by kernel_rfl) (by kernel_rfl) (by kernel_rfl) (fun _ _ _ h => h) (Or.inl ⟨by kernel_rfl, ?_⟩) ?_
        · intro wz; go_simp
        try simp only [Act.put, List.getElem_toArray, List.getElem_cons_zero, List.getElem_cons_succ, List.setIfInBounds_toArray, List.set_cons_zero, List.set_cons_succ]
        refine wpAny_done (by kernel_rfl) ?_ _
        go_simp
        go_wp2_with fail
        go_meet
        case rel => exact ⟨rfl, P8.out⟩
      · try simp only [Act.put, List.getElem_toArray, List.getElem_cons_zero, List.getElem_cons_succ, List.setIfInBounds_toArray, List.set_cons_zero, List.set_cons_succ]
        refine wpAny_ready (rs := [6]) (by kernel_rfl) (by simp) ?_
        refine AllReady.cons rfl (fun K' hK' => ?_) AllReady.nil
        go_simp
        refine (KS.out _ P6.out).mono ?_
        rintro e w7 ⟨rfl, P7⟩
        replace P7 : Hid _ := P7
        refine hK' _ _ ?_
        clear hK' K'
        try simp only [Act.put, List.getElem_toArray, List.getElem_cons_zero, List.getElem_cons_succ, List.setIfInBounds_toArray, List.set_cons_zero, List.set_cons_succ]
        refine wpAny_take (i := 8) (v := .bool false) rfl (by kernel_rfl) (by kernel_rfl) (by kernel_rfl) (fun _ _ _ h => h) (yields_neq41 (.tmp 26) (.tmp 27) sl HS.out.2.1 rfl (by kernel_rfl) rfl rfl) ?_
        try simp only [Act.put, List.getElem_toArray, List.getElem_cons_zero, List.getElem_cons_succ, List.setIfInBounds_toArray, List.set_cons_zero, List.set_cons_succ]
        refine wpAny_take (i := 9) (v := .bool false) rfl (by kernel_rfl) (by kernel_rfl) (by kernel_rfl) (fun _ _ _ h => h) (Or.inl ⟨by kernel_rfl, ?_⟩) ?_
        · intro wz; go_simp
        try simp only [Act.put, List.getElem_toArray, List.getElem_cons_zero, List.getElem_cons_succ, List.setIfInBounds_toArray, List.set_cons_zero, List.set_cons_succ]
        refine wpAny_take (i := 10) (v := .bool false) rfl (by kernel_rfl) (by kernel_rfl) (by kernel_rfl) (fun _ _ _ h => h) (Or.inl ⟨by kernel_rfl, ?_⟩) ?_
        · intro wz; go_simp
        try simp only [Act.put, List.getElem_toArray, List.getElem_cons_zero, List.getElem_cons_succ, List.setIfInBounds_toArray, List.set_cons_zero, List.set_cons_succ]
        refine wpAny_take (i := 11) (v := .slice (some ⟨s.gv, 0, none⟩) n (n + 40)) rfl (by kernel_rfl) (by kernel_rfl) (by kernel_rfl) (fun _ _ _ h => h) (Or.inl ⟨by kernel_rfl, ?_⟩) ?_
        · intro wz; go_simp
        try simp only [Act.put, List.getElem_toArray, List.getElem_cons_zero, List.getElem_cons_succ, List.setIfInBounds_toArray, List.set_cons_zero, List.set_cons_succ]
        refine wpAny_take (i := 12) (v := .slice ao n cap) rfl (by kernel_rfl) (by kernel_rfl) (by kernel_rfl) (fun _ _ _ h => h) (Or.inl ⟨by kernel_rfl, ?_⟩) ?_
        · intro wz; go_simp
        try simp only [Act.put, List.getElem_toArray, List.getElem_cons_zero, List.getElem_cons_succ, List.setIfInBounds_toArray, List.set_cons_zero, List.set_cons_succ]
        refine wpAny_ready (rs := [13]) (by kernel_rfl) (by simp) ?_
        refine AllReady.cons rfl (fun K' hK' => ?_) AllReady.nil
        go_simp
        refine (KL.out _ P7.out).mono ?_
        rintro e w8 ⟨rfl, P8⟩
        replace P8 : Hid _ := P8
        refine hK' _ _ ?_
        clear hK' K'
        try simp only [Act.put, List.getElem_toArray, List.getElem_cons_zero, List.getElem_cons_succ, List.setIfInBounds_toArray, List.set_cons_zero, List.set_cons_succ]
        refine wpAny_take (i := 14) (v := .bool false) rfl (by kernel_rfl) (by kernel_rfl) (by kernel_rfl) (fun _ _ _ h => h) (Or.inl ⟨by kernel_rfl, ?_⟩) ?_
        · intro wz; go_simp
        try simp only [Act.put, List.getElem_toArray, List.getElem_cons_zero, List.getElem_cons_succ, List.setIfInBounds_toArray, List.set_cons_zero, List.set_cons_succ]
        refine wpAny_take (i := 15) (v := .bool false) rfl (by kernel_rfl) (by kernel_rfl) (by kernel_rfl) (fun _ _ _ h => h) (Or.inl ⟨by kernel_rfl, ?_⟩) ?_
        · intro wz; go_simp
        try simp only [Act.put, List.getElem_toArray, List.getElem_cons_zero, List.getElem_cons_succ, List.setIfInBounds_toArray, List.set_cons_zero, List.set_cons_succ]
        refine wpAny_done (by kernel_rfl) ?_ _
        go_simp
        go_wp2_with fail
        go_meet
        case rel => exact ⟨rfl, P8.out⟩
    · try simp only [Act.put, List.getElem_toArray, List.getElem_cons_zero, List.getElem_cons_succ, List.setIfInBounds_toArray, List.set_cons_zero, List.set_cons_succ]
      refine wpAny_ready (rs := [1]) (by kernel_rfl) (by simp) ?_
      refine AllReady.cons rfl (fun K' hK' => ?_) AllReady.nil
      go_simp
      refine (KS.out _ P5.out).mono ?_
      rintro e w6 ⟨rfl, P6⟩
      replace P6 : Hid _ := P6
      refine hK' _ _ ?_
      clear hK' K'
      try simp only [Act.put, List.getElem_toArray, List.getElem_cons_zero, List.getElem_cons_succ, List.setIfInBounds_toArray, List.set_cons_zero, List.set_cons_succ]
      refine wpAny_take (i := 3) (v := .bool false) rfl (by kernel_rfl) (by kernel_rfl) (by kernel_rfl) (fun _ _ _ h => h) (yields_neq41 (.tmp 21) (.tmp 22) sl HS.out.2.1 rfl (by kernel_rfl) rfl rfl) ?_
      try simp only [Act.put, List.getElem_toArray, List.getElem_cons_zero, List.getElem_cons_succ, List.setIfInBounds_toArray, List.set_cons_zero, List.set_cons_succ]
      refine wpAny_take (i := 4) (v := .bool false) rfl (by kernel_rfl) (by kernel_rfl) (by kernel_rfl) (fun _ _ _ h => h) (Or.inl ⟨by kernel_rfl, ?_⟩) ?_
      · intro wz; go_simp
      try simp only [Act.put, List.getElem_toArray, List.getElem_cons_zero, List.getElem_cons_succ, List.setIfInBounds_toArray, List.set_cons_zero, List.set_cons_succ]
      refine wpAny_take (i := 5) (v := .slice (some ⟨s.gv, 0, none⟩) n (n + 40)) rfl (by kernel_rfl) (by kernel_rfl) (by kernel_rfl) (fun _ _ _ h => h) (Or.inl ⟨by kernel_rfl, ?_⟩) ?_
      · intro wz; go_simp
      try simp only [Act.put, List.getElem_toArray, List.getElem_cons_zero, List.getElem_cons_succ, List.setIfInBounds_toArray, List.set_cons_zero, List.set_cons_succ]
      refine wpAny_ready (rs := [6, 7]) (by kernel_rfl) (by simp) ?_
      refine AllReady.cons rfl (fun K' hK' => ?_) (ar_load rfl (by kernel_rfl) 41 (.tmp 5) rfl g 0 rfl (sl.map vb) (.array 32 5) P6.out.cells Tryd.underlying41 rfl Z.out ?_ AllReady.nil)
      · go_simp
        refine (KS.out _ P6.out).mono ?_
        rintro e w7 ⟨rfl, P7⟩
        replace P7 : Hid _ := P7
        refine hK' _ _ ?_
        clear hK' K'
        refine wpAny_ready (rs := [7]) (by kernel_rfl) (by simp) ?_
        refine (ar_load rfl (by kernel_rfl) 41 (.tmp 5) rfl g 0 rfl (sl.map vb) (.array 32 5) P7.out.cells Tryd.underlying41 rfl Z.out ?_ AllReady.nil)
        try simp only [Act.put, List.getElem_toArray, List.getElem_cons_zero, List.getElem_cons_succ, List.setIfInBounds_toArray, List.set_cons_zero, List.set_cons_succ]
        refine wpAny_take (i := 8) (v := .bool false) rfl (by kernel_rfl) (by kernel_rfl) (by kernel_rfl) (fun _ _ _ h => h) (yields_neq41 (.tmp 26) (.tmp 27) sl HS.out.2.1 rfl (by kernel_rfl) rfl rfl) ?_
        try simp only [Act.put, List.getElem_toArray, List.getElem_cons_zero, List.getElem_cons_succ, List.setIfInBounds_toArray, List.set_cons_zero, List.set_cons_succ]
        refine wpAny_take (i := 9) (v := .bool false) rfl (by kernel_rfl) (by kernel_rfl) (by kernel_rfl) (fun _ _ _ h => h) (Or.inl ⟨by kernel_rfl, ?_⟩) ?_
        · intro wz; go_simp
        try simp only [Act.put, List.getElem_toArray, List.getElem_cons_zero, List.getElem_cons_succ, List.setIfInBounds_toArray, List.set_cons_zero, List.set_cons_succ]
        refine wpAny_take (i := 10) (v := .bool false) rfl (by kernel_rfl) (by kernel_rfl) (by kernel_rfl) (fun _ _ _ h => h) (Or.inl ⟨by kernel_rfl, ?_⟩) ?_
        · intro wz; go_simp
        try simp only [Act.put, List.getElem_toArray, List.getElem_cons_zero, List.getElem_cons_succ, List.setIfInBounds_toArray, List.set_cons_zero, List.set_cons_succ]
        refine wpAny_take (i := 11) (v := .slice (some ⟨s.gv, 0, none⟩) n (n + 40)) rfl (by kernel_rfl) (by kernel_rfl) (by kernel_rfl) (fun _ _ _ h => h) (Or.inl ⟨by kernel_rfl, ?_⟩) ?_
        · intro wz; go_simp
        try simp only [Act.put, List.getElem_toArray, List.getElem_cons_zero, List.getElem_cons_succ, List.setIfInBounds_toArray, List.set_cons_zero, List.set_cons_succ]
        refine wpAny_take (i := 12) (v := .slice ao n cap) rfl (by kernel_rfl) (by kernel_rfl) (by kernel_rfl) (fun _ _ _ h => h) (Or.inl ⟨by kernel_rfl, ?_⟩) ?_
        · intro wz; go_simp
        try simp only [Act.put, List.getElem_toArray, List.getElem_cons_zero, List.getElem_cons_succ, List.setIfInBounds_toArray, List.set_cons_zero, List.set_cons_succ]
        refine wpAny_ready (rs := [13]) (by kernel_rfl) (by simp) ?_
        refine AllReady.cons rfl (fun K' hK' => ?_) AllReady.nil
        go_simp
        refine (KL.out _ P7.out).mono ?_
        rintro e w8 ⟨rfl, P8⟩
        replace P8 : Hid _ := P8
        refine hK' _ _ ?_
        clear hK' K'
        try simp only [Act.put, List.getElem_toArray, List.getElem_cons_zero, List.getElem_cons_succ, List.setIfInBounds_toArray, List.set_cons_zero, List.set_cons_succ]
        refine wpAny_take (i := 14) (v := .bool false) rfl (by kernel_rfl) (by kernel_rfl) (by kernel_rfl) (fun _ _ _ h => h) (Or.inl ⟨by kernel_rfl, ?_⟩) ?_
        · intro wz; go_simp
        try simp only [Act.put, List.getElem_toArray, List.getElem_cons_zero, List.getElem_cons_succ, List.setIfInBounds_toArray, List.set_cons_zero, List.set_cons_succ]
        refine wpAny_take (i := 15) (v := .bool false) rfl (by kernel_rfl) (by kernel_rfl) (by kernel_rfl) (fun _ _ _ h => h) (Or.inl ⟨by kernel_rfl, ?_⟩) ?_
        · intro wz; go_simp
        try simp only [Act.put, List.getElem_toArray, List.getElem_cons_zero, List.getElem_cons_succ, List.setIfInBounds_toArray, List.set_cons_zero, List.set_cons_succ]
        refine wpAny_done (by kernel_rfl) ?_ _
        go_simp
        go_wp2_with fail
        go_meet
        case rel => exact ⟨rfl, P8.out⟩
      · try simp only [Act.put, List.getElem_toArray, List.getElem_cons_zero, List.getElem_cons_succ, List.setIfInBounds_toArray, List.set_cons_zero, List.set_cons_succ]
        refine wpAny_ready (rs := [6]) (by kernel_rfl) (by simp) ?_
        refine AllReady.cons rfl (fun K' hK' => ?_) AllReady.nil
        go_simp
        refine (KS.out _ P6.out).mono ?_
        rintro e w7 ⟨rfl, P7⟩
        replace P7 : Hid _ := P7
        refine hK' _ _ ?_
        clear hK' K'
        try simp only [Act.put, List.getElem_toArray, List.getElem_cons_zero, List.getElem_cons_succ, List.setIfInBounds_toArray, List.set_cons_zero, List.set_cons_succ]
        refine wpAny_take (i := 8) (v := .bool false) rfl (by kernel_rfl) (by kernel_rfl) (by kernel_rfl) (fun _ _ _ h => h) (yields_neq41 (.tmp 26) (.tmp 27) sl HS.out.2.1 rfl (by kernel_rfl) rfl rfl) ?_
        try simp only [Act.put, List.getElem_toArray, List.getElem_cons_zero, List.getElem_cons_succ, List.setIfInBounds_toArray, List.set_cons_zero, List.set_cons_succ]
        refine wpAny_take (i := 9) (v := .bool false) rfl (by kernel_rfl) (by kernel_rfl) (by kernel_rfl) (fun _ _ _ h => h) (Or.inl ⟨by kernel_rfl, ?_⟩) ?_
        · intro wz; go_simp
        try simp only [Act.put, List.getElem_toArray, List.getElem_cons_zero, List.getElem_cons_succ, List.setIfInBounds_toArray, List.set_cons_zero, List.set_cons_succ]
        refine wpAny_take (i := 10) (v := .bool false) rfl (by kernel_rfl) (by kernel_rfl) (by kernel_rfl) (fun _ _ _ h => h) (Or.inl ⟨by kernel_rfl, ?_⟩) ?_
        · intro wz; go_simp
        try simp only [Act.put, List.getElem_toArray, List.getElem_cons_zero, List.getElem_cons_succ, List.setIfInBounds_toArray, List.set_cons_zero, List.set_cons_succ]
        refine wpAny_take (i := 11) (v := .slice (some ⟨s.gv, 0, none⟩) n (n + 40)) rfl (by kernel_rfl) (by kernel_rfl) (by kernel_rfl) (fun _ _ _ h => h) (Or.inl ⟨by kernel_rfl, ?_⟩) ?_
        · intro wz; go_simp
        try simp only [Act.put, List.getElem_toArray, List.getElem_cons_zero, List.getElem_cons_succ, List.setIfInBounds_toArray, List.set_cons_zero, List.set_cons_succ]
        refine wpAny_take (i := 12) (v := .slice ao n cap) rfl (by kernel_rfl) (by kernel_rfl) (by kernel_rfl) (fun _ _ _ h => h) (Or.inl ⟨by kernel_rfl, ?_⟩) ?_
        · intro wz; go_simp
        try simp only [Act.put, List.getElem_toArray, List.getElem_cons_zero, List.getElem_cons_succ, List.setIfInBounds_toArray, List.set_cons_zero, List.set_cons_succ]
        refine wpAny_ready (rs := [13]) (by kernel_rfl) (by simp) ?_
        refine AllReady.cons rfl (fun K' hK' => ?_) AllReady.nil
        go_simp
        refine (KL.out _ P7.out).mono ?_
        rintro e w8 ⟨rfl, P8⟩
        replace P8 : Hid _ := P8
        refine hK' _ _ ?_
        clear hK' K'
        try simp only [Act.put, List.getElem_toArray, List.getElem_cons_zero, List.getElem_cons_succ, List.setIfInBounds_toArray, List.set_cons_zero, List.set_cons_succ]
        refine wpAny_take (i := 14) (v := .bool false) rfl (by kernel_rfl) (by kernel_rfl) (by kernel_rfl) (fun _ _ _ h => h) (Or.inl ⟨by kernel_rfl, ?_⟩) ?_
        · intro wz; go_simp
        try simp only [Act.put, List.getElem_toArray, List.getElem_cons_zero, List.getElem_cons_succ, List.setIfInBounds_toArray, List.set_cons_zero, List.set_cons_succ]
        refine wpAny_take (i := 15) (v := .bool false) rfl (by kernel_rfl) (by kernel_rfl) (by kernel_rfl) (fun _ _ _ h => h) (Or.inl ⟨by kernel_rfl, ?_⟩) ?_
        · intro wz; go_simp
        try simp only [Act.put, List.getElem_toArray, List.getElem_cons_zero, List.getElem_cons_succ, List.setIfInBounds_toArray, List.set_cons_zero, List.set_cons_succ]
        refine wpAny_done (by kernel_rfl) ?_ _
        go_simp
        go_wp2_with fail
        go_meet
        case rel => exact ⟨rfl, P8.out⟩
  case rest =>
    obtain ⟨rfl, P2⟩ := hcut
    clear KS KL
    have hn3 : n ≤ 32768 := by have := HQ.out; omega
    go_wp2_with fail
    go_loopw [6] (fun i wr => ∃ (k : Nat) (qs : List (List Nat)), k ≤ n ∧ i = .int .i64 k ∧ Hid (InC wr w1.heap.size w1.heap.size n s qs ∧ (∀ q ∈ qs, Bytes q) ∧ qs.flatten.length = ps.flatten.length ∧ Below w1.heap.size w1 wr)) (fun i _ => n - (intOf i).toNat)
    case atStart => exact ⟨0, ps, by omega, rfl, P2.out.inc, HV.out.2.1, rfl, P2.out.bel⟩
    case round =>
      obtain ⟨k, qs, hk, rfl, HI⟩ := hrel
      clear P2
      by_cases hlt : k < n
      · have hkI : (k : Int) < (n : Int) := by omega
        obtain ⟨m, hm⟩ : ∃ m, m = (qs.getD k []).length := ⟨_, rfl⟩
        have hml : m ≤ 32768 := by
          have h1 : k < qs.length := by rw [HI.out.1.len]; exact hlt
          have h2 : (qs.getD k []) ∈ qs := by simp [List.getD, List.getElem?_eq_getElem h1]
          have h3 := (List.sublist_flatten_of_mem h2).length_le
          have := HI.out.2.2.1
          have := HQ.out
          omega
        have HI2 : Hid ((InC wr w1.heap.size w1.heap.size n s qs ∧ (∀ q ∈ qs, Bytes q) ∧ qs.flatten.length = ps.flatten.length ∧ Below w1.heap.size w1 wr) ∧ (qs.getD k []).length = m) := ⟨HI.out, hm.symm⟩
        clear HI hm
        go_wp2_with fail
        go_loopw [7] (fun y wr => ∃ (j : Nat) (qs : List (List Nat)), j ≤ m ∧ y = .int .i64 j ∧ Hid ((InC wr w1.heap.size w1.heap.size n s qs ∧ (∀ q ∈ qs, Bytes q) ∧ qs.flatten.length = ps.flatten.length ∧ Below w1.heap.size w1 wr) ∧ (qs.getD k []).length = m)) (fun y _ => m - (intOf y).toNat)
        case atStart => exact ⟨0, qs, by omega, rfl, HI2.out⟩
        case round =>
          clear HI2 qs
          obtain ⟨j, qs, hj, rfl, HI⟩ := hrel
          obtain ⟨gx, hc, hlo, hcc, hset⟩ := HI.out.1.1.at hlt
          rw [HI.out.2] at hc hcc hset
          by_cases hjm : j < m
          · have hjI : (j : Int) < (m : Int) := by omega
            obtain ⟨hcx, hfx⟩ := hcc j hjm
            obtain ⟨x, hx⟩ : ∃ x, x = (qs.getD k []).getD j 0 := ⟨_, rfl⟩
            rw [← hx] at hcx
            unfold vb at hcx
            obtain ⟨z, hz⟩ : ∃ z, z = (x + (k + j + 1)) % 256 := ⟨_, rfl⟩
            have hzI : ((x : Int) + ((k : Int) + (j : Int) + 1)) % 256 = (z : Int) := by omega
            have HS2 := hset j z hjm
            have HX : Hid ((InC (wr.setCell ⟨gx, j, none⟩ (.int .u8 (z : Int))) w1.heap.size w1.heap.size n s (qs.set k ((qs.getD k []).set j z)) ∧ (∀ q ∈ qs.set k ((qs.getD k []).set j z), Bytes q) ∧ (qs.set k ((qs.getD k []).set j z)).flatten.length = ps.flatten.length ∧ Below w1.heap.size w1 (wr.setCell ⟨gx, j, none⟩ (.int .u8 (z : Int)))) ∧ ((qs.set k ((qs.getD k []).set j z)).getD k []).length = m) := by
              have hkq : k < qs.length := by rw [HI.out.1.1.len]; exact hlt
              refine ⟨⟨HS2, fun q hq => ?_, ?_, HI.out.1.2.2.2.setCell (p := ⟨gx, j, none⟩) hlo _⟩, ?_⟩
              · rcases List.mem_or_eq_of_mem_set hq with h | h
                · exact HI.out.1.2.1 q h
                · rw [h]
                  intro u hu
                  rcases List.mem_or_eq_of_mem_set hu with h' | h'
                  · exact HI.out.1.2.1 _ (by simp [List.getD, List.getElem?_eq_getElem hkq]) u h'
                  · omega
              · rw [← HI.out.1.2.2.1, List.length_flatten, List.length_flatten, List.map_set, List.length_set]
                congr 1
                apply List.ext_getElem (by simp)
                intro i h1 h2
                rw [List.getElem_set]
                split
                · subst_vars; simp [List.getD, List.getElem?_eq_getElem hkq]
                · rfl
              · have e : (qs.set k ((qs.getD k []).set j z)).getD k [] = (qs.getD k []).set j z := by simp [List.getD, hkq]
                rw [e, List.length_set]; exact HI.out.2
            clear hcc hset hx hz HS2 HI
            go_upto_region 14 with fail
            go_region
            have HX2 : Hid ((InC (wr.setCell ⟨gx, j, none⟩ (.int .u8 (z : Int))).drew w1.heap.size w1.heap.size n s (qs.set k ((qs.getD k []).set j z)) ∧ (∀ q ∈ qs.set k ((qs.getD k []).set j z), Bytes q) ∧ (qs.set k ((qs.getD k []).set j z)).flatten.length = ps.flatten.length ∧ Below w1.heap.size w1 (wr.setCell ⟨gx, j, none⟩ (.int .u8 (z : Int))).drew) ∧ ((qs.set k ((qs.getD k []).set j z)).getD k []).length = m) := ⟨⟨HX.out.1.1.all (drewNB _ 1), HX.out.1.2.1, HX.out.1.2.2.1, Below.up HX.out.1.2.2.2 (drewNB _ 1)⟩, HX.out.2⟩
            clear HX
            go_wp2_with fail
            go_roundw
            case rel => exact ⟨j + 1, _, by omega, by go_num, HX2.out⟩
            case measure => simp [intOf]; omega
          · have hjI : ¬ (j : Int) < (m : Int) := by omega
            clear hcc hset
            go_wp2_with fail
            go_roundw
            case rel => exact ⟨k + 1, qs, by omega, by go_num, HI.out.1⟩
            case measure => simp [intOf]; omega
      · have hkI : ¬ (k : Int) < (n : Int) := by omega
        have hql : qs.length ≤ 32768 ∧ qs.flatten.length ≤ 32768 := ⟨by rw [HI.out.1.len]; exact hn3, by have := HI.out.2.2.1; have := HQ.out; omega⟩
        have hqe : ∀ q ∈ qs, q.length ≤ 100000 := fun q hq => by have := (List.sublist_flatten_of_mem hq).length_le; omega
        have hqb : Bytes qs.flatten := fun x hx => by obtain ⟨p, hp, hx'⟩ := List.mem_flatten.1 hx; exact HI.out.2.1 p hp x hx'
        obtain ⟨dl, hdl⟩ : ∃ dl, dl = Sha.sha qs.flatten := ⟨_, rfl⟩
        have HD : Hid (dl.length = 32) := by show _ = _; rw [hdl]; exact sha_len _
        have K15 : Hid (∀ wz, InC wz w1.heap.size w1.heap.size n s qs → Calls Tryd.prog 15 #[.slice (some ⟨s.gv, 0, none⟩) n (n + 40)] wz fun e w' => ∃ u, e = .returned u ∧ (HasL w' u qs ∧ Below wz.heap.size wz w')) := fun wz hz => copies_any _ qs wz hz.hasL (by omega) hqe
        have K13 : Hid (∀ wz, InC wz w1.heap.size w1.heap.size n s qs → Below w1.heap.size w1 wz → Calls Tryd.prog 13 #[.slice (some ⟨s.gv, 0, none⟩) n (n + 40)] wz fun e w' => e = .returned (.agg (dl.map vb).toArray) ∧ Below wz.heap.size wz w') := fun wz hz hbz => by
          rw [hdl]
          exact sha_any _ qs wz hz.hasL HI.out.2.1 (HV.out.2.2.up (H1.out.2.trans (hbz.mono H1.out.2.size))) (by omega) (by omega)
        have K12 : Hid (∀ wz v, HasL wz v qs → Calls Tryd.prog 12 #[v] wz fun e w' => ∃ u, e = .returned u ∧ (Has w' u qs.flatten ∧ Below wz.heap.size wz w')) := fun wz v hv => KJ.out wz v qs hv hql.1 hql.2
        have K11 : Hid (∀ wz v, Has wz v qs.flatten → Calls Tryd.prog 11 #[v] wz fun e w' => e = .returned (.agg (dl.map vb).toArray) ∧ Below wz.heap.size wz w') := fun wz v hv => by rw [hdl]; exact KR.out wz v _ hv hqb hql.2
        have K14 : Hid (∀ wz v, InC wz w1.heap.size w1.heap.size n s qs → HasL wz v qs → Calls Tryd.prog 14 #[.slice (some ⟨s.gv, 0, none⟩) n (n + 40), v] wz fun e w' => e = .returned (.bool true) ∧ Below wz.heap.size wz w') := fun wz v hz hv => (sameLists_any _ _ qs wz hz.hasL hv (by omega) hqe).mono fun e w' ⟨q1, j, q2⟩ => ⟨q1, by rw [q2]; exact drewNB wz j⟩
        have K16 : Hid (∀ wz, InC wz w1.heap.size w1.heap.size n s qs → Calls Tryd.prog 16 #[.pointer (some ⟨w1.heap.size, 0, none⟩)] wz fun e w' => e = .returned (.bool true) ∧ Below wz.heap.size wz w') := fun wz hz => (roomHoldC_any _ _ _ s qs wz hz (by omega)).mono fun e w' ⟨q1, j, q2⟩ => ⟨q1, by rw [q2]; exact drewNB wz j⟩
        have G0 : Hid (InC wr w1.heap.size w1.heap.size n s qs ∧ Below w1.heap.size w1 wr) := ⟨HI.out.1, HI.out.2.2.2⟩
        clear hdl hql hqe hqb HI KJ KR
        go_wp2_with (first
          | (go_at_call 15; refine (K15.out _ G0.out.1).mono ?_; rintro e w5 ⟨u, rfl, h5⟩; have G5 : Hid (InC w5 w1.heap.size w1.heap.size n s qs ∧ HasL w5 u qs ∧ Below w1.heap.size w1 w5) := ⟨G0.out.1.all h5.2, h5.1, Below.up G0.out.2 h5.2⟩; clear h5)
          | (go_at_call 13; refine (K13.out _ G5.out.1 G5.out.2.2).mono ?_; rintro e w6 ⟨rfl, h6⟩; have G6 : Hid (InC w6 w1.heap.size w1.heap.size n s qs ∧ HasL w6 u qs ∧ Below w1.heap.size w1 w6) := ⟨G5.out.1.all h6, G5.out.2.1.below h6, Below.up G5.out.2.2 h6⟩; clear h6)
          | (go_at_call 12; refine (K12.out _ u G6.out.2.1).mono ?_; rintro e w7 ⟨u7', rfl, h7⟩; have G7 : Hid (InC w7 w1.heap.size w1.heap.size n s qs ∧ HasL w7 u qs ∧ Has w7 u7' qs.flatten ∧ Below w1.heap.size w1 w7) := ⟨G6.out.1.all h7.2, G6.out.2.1.below h7.2, h7.1, Below.up G6.out.2.2 h7.2⟩; clear h7)
          | (go_at_call 11; refine (K11.out _ u7' G7.out.2.2.1).mono ?_; rintro e w8 ⟨rfl, h8⟩; have G8 : Hid (InC w8 w1.heap.size w1.heap.size n s qs ∧ HasL w8 u qs ∧ Below w1.heap.size w1 w8) := ⟨G7.out.1.all h8, G7.out.2.1.below h8, Below.up G7.out.2.2.2 h8⟩; clear h8)
          | (go_at_call 14; refine (K14.out _ u G8.out.1 G8.out.2.1).mono ?_; rintro e w9 ⟨rfl, h9⟩; have G9 : Hid (InC w9 w1.heap.size w1.heap.size n s qs ∧ Below w1.heap.size w1 w9) := ⟨G8.out.1.all h9, Below.up G8.out.2.2 h9⟩; clear h9)
          | (go_at_call 16; refine (K16.out _ G9.out.1).mono ?_; rintro e w10 ⟨rfl, h10⟩; have G10 : Hid (Below w1.heap.size w1 w10) := Below.up G9.out.2 h10; clear h10)
          | (refine wpList_eql41 rfl (.tmp 73) (.tmp 76) dl HD.out rfl rfl rfl ?_))
        go_ret
        exact ⟨rfl, H1.out.2.trans (G10.out.mono H1.out.2.size)⟩
end Go.Proofs.YtmglopfjjbnfiaaDoor
