/-
  twinelaw2.SumParts: the walk.
-/
import Derived.Test.YtmglopfjjbnfiaaDoorCut
namespace Go.Proofs.YtmglopfjjbnfiaaDoor
open Go.RowKit

theorem yields_neq41 {ops : Array Oper} {o : Oper} {a : Act} (x y : Operand) (l : List Nat) (hl : l.length = 32) (ho : o.op = .binOp .neq 41 x y 41) (hw : Region.wanted o (yielded ops a.tmps) = true)
    (hx : a.eval x = .agg (l.map vb).toArray) (hy : a.eval y = .agg (l.map vb).toArray) : Yields Tryd.prog ops o (.bool false) a := by
  refine Or.inl ⟨hw, fun w => ?_⟩
  have h := eq41 9998 l hl w
  unfold execOp
  have h' : (Op.equal 41 (.agg (l.map vb).toArray) (.agg (l.map vb).toArray)).run Tryd.prog w = .ok true w := h
  have hg : Tryd.prog.eqGuardType Tryd.prog.depth 41 = false := by kernel_rfl
  simp only [ho, hx, hy, eqGuard, binOp, Sem.run_bind]
  simp [Result.andThen, hg, h']

theorem wpList_eql41 {ops : Array Oper} {rest : List Oper} {o : Oper} {a : Act} {w : World} {Q : Exit → Act → World → Prop} (hgd : o.guard = none) (x y : Operand) (l : List Nat) (hl : l.length = 32) (ho : o.op = .binOp .eql 41 x y 41)
    (hx : a.eval x = .agg (l.map vb).toArray) (hy : a.eval y = .agg (l.map vb).toArray)
    (h : wpList Tryd.prog ops Q rest (a.put o.dst (.bool true)) w) : wpList Tryd.prog ops Q (o :: rest) a w := by
  refine wpList_plain hgd fun K hK => ?_
  rcases yields_eql41 (ops := ops) (o := o) (a := a) x y l hl ho (by simp [Region.wanted, hgd]) hx hy with ⟨_, he⟩ | ⟨he, _⟩
  · unfold Oper.wp
    rw [he w, Oper.upon_value]
    exact hK _ _ h
  · simp [Region.wanted, hgd] at he

theorem hcells_n (v : Sha.V) (rest : List Nat) (n : Nat) (hr : rest.length = 64) : (hcells v rest n)[72]? = some (.int .i64 (n : Int)) := by
  unfold hcells
  rw [List.getElem?_toArray, List.getElem?_append_right (by simp [vlist])]
  rw [List.getElem?_append_right (by simp [vlist, hr])]
  simp [vlist, hr]

set_option maxHeartbeats 1000000 in
set_option maxRecDepth 100000 in
theorem len_any (K : Nat) (T : TypeId) (l : List Nat) (w : World) (hH : HashAt w K T l) :
    Calls Tryd.prog 33 #[.pointer (some ⟨K, 0, none⟩)] w fun e w' => e = .returned (.int .i64 (l.length : Nat)) ∧ w = w' := by
  obtain ⟨v, rest, hg, hI, _, _⟩ := hH
  have hc : w.cell? ⟨K, 72, none⟩ = some (.int .i64 (l.length : Nat)) := (cell_of_row _ _ 72 _ _ _ hg).trans (hcells_n v rest _ hI.len)
  clear hg hI
  go_enter Tryd.func33, Tryd.ntmps33
  go_wp2
  go_ret
  exact ⟨rfl, rfl⟩

theorem drewB {w w' : World} (h : Below w.heap.size w w') : Below w.heap.size w w'.drew := h.trans ⟨rfl, rfl, rfl, Nat.le_refl _, fun _ _ => rfl⟩

/-- The world behind the first sum: it lies at block g. -/
structure PS (w wr : World) (g : Nat) (sl : List Nat) : Prop where
  bel : Below w.heap.size w wr
  row : wr.heap[g]? = some (.cells (sl.map vb).toArray 41 (0, 0))
  big : w.heap.size ≤ g

theorem PS.lt {w wr : World} {g : Nat} {sl : List Nat} (h : PS w wr g sl) : g < wr.heap.size := (Array.getElem?_eq_some_iff.1 h.row).1
theorem PS.up {w wr wz : World} {g : Nat} {sl : List Nat} (h : PS w wr g sl) (hb : Below wr.heap.size wr wz) : PS w wz g sl := ⟨Below.up h.bel hb, by rw [hb.block _ h.lt]; exact h.row, h.big⟩
theorem PS.but {w wr wz : World} {g K : Nat} {sl : List Nat} (h : PS w wr g sl) (hb : But K wr wz) (hK : w.heap.size ≤ K) (hg : g ≠ K) : PS w wz g sl := ⟨h.bel.trans (hb.below hK h.bel.size), by rw [hb.block _ h.lt hg]; exact h.row, h.big⟩
theorem PS.cells {w wr : World} {g : Nat} {sl : List Nat} (h : PS w wr g sl) : ∀ j v, (sl.map vb)[j]? = some v → wr.cell? ⟨g, 0 + j, none⟩ = some v := fun j v hv => by
  rw [Nat.zero_add, cell_of_row _ _ _ _ _ _ h.row]; simpa using hv

theorem flat_pieces (L : List Nat) (k : Nat) (x : List Nat) (h : x = pieceB L k) : ((upto (pieceB L) (k + 1)).map Sha.sha).flatten = ((upto (pieceB L) k).map Sha.sha).flatten ++ Sha.sha x := by
  rw [upto_succ, h]; simp

theorem addr_add2 (a : Addr) (i j : Nat) : (a.add i).add j = a.add (i + j) := by
  unfold Addr.add
  by_cases h1 : i = 0
  · subst h1; simp
  · by_cases h2 : j = 0
    · subst h2; simp [h1]
    · simp [h1, h2, Nat.add_assoc]

set_option maxRecDepth 100000 in
theorem slice43_lh (a : Addr) (len cap lo hi : Nat) (h : lo < hi) (hh : hi ≤ len) (hc : len ≤ cap) (wz : World) : (Instr.sliceAt 43 (.slice (some a) len cap) (some (.int .i64 (lo : Int))) (some (.int .i64 (hi : Int))) none).run Tryd.prog wz = .ok (.slice (some (a.add lo)) (hi - lo) (cap - lo)) wz := by
  have h1 : (Tryd.prog.info? 5).map (·.size) = some 1 := by kernel_rfl
  cases hq : Tryd.prog.info? 5 with
  | none => simp [hq] at h1
  | some i =>
    have hs : i.size = 1 := by simpa [hq] using h1
    rw [run_sliceAt_slice _ 43 _ _ _ _ Tryd.underlying43]
    rw [run_slice_lh _ 43 (some a) len cap Tryd.underlying43 .i64 .i64 lo hi (by omega) (by omega) (by omega)]
    simp [sizeOf, typeInfo, show Tryd.prog.elem 43 = 5 by kernel_rfl, hq, hs, sliced, Result.andThen]
    intro h0; omega

set_option maxHeartbeats 8000000 in
set_option maxRecDepth 100000 in
theorem parts_short (ao : Option Addr) (cap : Nat) (L : List Nat) (w : World) (hL : Has w (.slice ao L.length cap) L) (hB : Bytes L) (hl : L.length ≤ 32768) (v1 v2 : Value) (c1 c2 : List Int) (h1 : HasI w v1 c1) (h2 : HasI w v2 c2) (hc1 : c1.length ≤ 9223372036854775807) (hc2 : c2.length ≤ 9223372036854775807) (hT : Tabs w) (hH : Half w) :
    Calls Tryd.prog 6 #[.slice ao L.length cap, v1, v2] w fun e w' => e = .returned (.bool true) ∧ Below w.heap.size w w' := by
  have HL : Hid (Has w (.slice ao L.length cap) L ∧ Bytes L ∧ L.length ≤ 32768) := ⟨hL, hB, hl⟩
  have HT : Hid (Tabs w) := hT
  obtain ⟨sl, hsl⟩ : ∃ sl, sl = Sha.sha L := ⟨_, rfl⟩
  have HS : Hid (sl = Sha.sha L ∧ sl.length = 32) := ⟨hsl, by rw [hsl]; exact sha_len _⟩
  obtain ⟨c, hc⟩ : ∃ c, c = (sl.map vb).toArray := ⟨_, rfl⟩
  have HC : Hid (c = (sl.map vb).toArray) := hc
  have HF : Hid ((Tryd.prog.info? 41).map (·.size) = some c.size ∧ (bfill 32 []).size = c.size ∧ c.all (·.oneCell') = true) := by rw [hc, hsl]; exact ⟨hz41 _, ho41 _, all_vb _⟩
  have Z : Hid ((Tryd.prog.info? 41).map (·.size) = some (sl.map vb).length) := by show _ = _; rw [List.length_map, HS.out.2]; kernel_rfl
  obtain ⟨n, hn⟩ : ∃ n, n = L.length := ⟨_, rfl⟩
  have HN : Hid (n = L.length) := hn
  have KK : Hid (Calls Tryd.prog 29 #[] w fun e w' => e = .returned (.bool true) ∧ Below w.heap.size w w') := known_any w hT hH
  have KS : Hid (∀ wz v ps, Below w.heap.size w wz → HasL wz v ps → ps.flatten = L → ps.length ≤ 101 → Calls Tryd.prog 13 #[v] wz fun e w' => e = .returned (.agg (sl.map vb).toArray) ∧ Below wz.heap.size wz w') := fun wz v ps hz hv hp hpl => by
    have h := sha_any v ps wz hv (fun p hp' x hx => hB x (by rw [← hp]; exact List.mem_flatten.2 ⟨p, hp', hx⟩)) (hT.up hz) (by rw [hp]; omega) (by omega)
    rw [hp, ← hsl] at h
    exact h
  have KU : Hid (∀ wz cv, Below w.heap.size w wz → (cv = v1 ∨ cv = v2) → Calls Tryd.prog 30 #[.slice ao n cap, cv] wz fun e w' => ∃ v ps, e = .returned v ∧ (PartsIn w w' wz.heap.size v ps ∧ ps.flatten = L ∧ ps.length ≤ 101 ∧ Below wz.heap.size wz w')) := fun wz cv hz hcv => by
    rw [hn]
    rcases hcv with rfl | rfl
    · exact cutUp_any ao cap L w wz hL hl _ c1 (h1.below hz) hc1
    · exact cutUp_any ao cap L w wz hL hl _ c2 (h2.below hz) hc2
  have KS1 : Hid (∀ wz T2, Below w.heap.size w wz → Calls Tryd.prog 13 #[.slice (some ⟨wz.heap.size, 0, none⟩) 1 1] (wz.alloc (.cells #[.slice ao n cap] T2)) fun e w' => e = .returned (.agg c) ∧ Below w.heap.size w w') := fun wz T2 hz => by
    have hb : Below w.heap.size w (wz.alloc (.cells #[.slice ao n cap] T2)) := hz.alloc hz.size _
    rw [hc]
    refine (KS.out _ _ [L] hb (hasL_one (heap_alloc_new _ _) (by have h := hL.below hb; rw [← hn] at h; exact h)) (by simp) (by simp)).mono fun e w' ⟨h1, h2⟩ => ⟨h1, Below.up hb h2⟩
  have hnI : ¬ ((32768 : Int) < (n : Int)) := by omega
  rw [← hn]
  clear hL hB hT hH hn hsl hc h1 h2 hc1 hc2
  go_enter Tryd.func6, Tryd.ntmps6
  go_upto_region 6 with (first
    | (go_at_call 29; refine KK.out.mono ?_; rintro e w1 ⟨rfl, hb1⟩; have HB1 : Hid (Below w.heap.size w w1) := hb1; clear hb1)
    | (go_at_call 13; refine (KS1.out _ _ HB1.out).mono ?_; rintro e w2 ⟨rfl, hb2⟩; have HB2 : Hid (Below w.heap.size w w2) := hb2; clear hb2)
    | refine wpList_store_row rfl 41 (.tmp 7) (.tmp 20) rfl _ c rfl rfl 41 _ (heap_alloc_new _ _) HF.out.1 HF.out.2.1 HF.out.2.2 ?_)
  refine step_world (fun W => PS w W w2.heap.size sl) ⟨below_setRow (HB2.out.alloc HB2.out.size _) HB2.out.size _, by rw [← HC.out]; exact setRow_heap _ _ _ _ _ _ (heap_alloc_new _ _), HB2.out.size⟩ fun W1 HH1 => ?_
  obtain ⟨g, hg⟩ : ∃ g, g = w2.heap.size := ⟨_, rfl⟩
  rw [← hg] at HH1 ⊢
  have P1 : Hid (PS w W1 g sl) := HH1
  clear HH1 hg HB2 HB1 KK HC HF
  go_simp
  go_cut [26] from 21 (fun s wf => s = .bool false ∧ Hid (PS w wf g sl))
  case first =>
    refine wp_region_any (by kernel_rfl) ?_
    change wpAny _ _ _ _ _ _ _ (World.drew _)
    generalize hw4 : World.drew W1 = w4
    have P4 : Hid (PS w w4 g sl) := by rw [← hw4]; exact P1.out.up ⟨rfl, rfl, rfl, Nat.le_refl _, fun _ _ => rfl⟩
    clear hw4 P1
    refine wpAny_take (i := 0) (v := .slice ao n cap) rfl (by kernel_rfl) (by kernel_rfl) (by kernel_rfl) (fun _ _ _ h => h) (Or.inl ⟨by kernel_rfl, ?_⟩) ?_
    · intro wz; go_simp
    refine wpAny_take (i := 1) (v := v1) rfl (by kernel_rfl) (by kernel_rfl) (by kernel_rfl) (fun _ _ _ h => h) (Or.inl ⟨by kernel_rfl, ?_⟩) ?_
    · intro wz; go_simp
    simp only [Act.put, List.getElem_toArray, List.getElem_cons_zero, List.getElem_cons_succ, List.setIfInBounds_toArray, List.set_cons_zero, List.set_cons_succ]
    refine wpAny_ready (rs := [2, 4]) (by kernel_rfl) (by simp) ?_
    refine AllReady.cons rfl (fun K' hK' => ?_) (ar_load rfl (by kernel_rfl) 41 (.tmp 7) rfl g 0 rfl (sl.map vb) (.array 32 5) P4.out.cells Tryd.underlying41 rfl Z.out ?_ AllReady.nil)
    · go_simp
      refine (KU.out _ v1 P4.out.bel (.inl rfl)).mono ?_
      rintro e w5 ⟨v5, ps, rfl, h5⟩
      have P5 : Hid (PS w w5 g sl) := P4.out.up h5.2.2.2
      have U5 : Hid (HasL w5 v5 ps ∧ ps.flatten = L ∧ ps.length ≤ 101) := ⟨h5.1.has P5.out.bel, h5.2.1, h5.2.2.1⟩
      refine hK' _ _ ?_
      clear hK' K' h5
      refine wpAny_ready (rs := [3, 4]) (by kernel_rfl) (by simp) ?_
      refine AllReady.cons rfl (fun K' hK' => ?_) (ar_load rfl (by kernel_rfl) 41 (.tmp 7) rfl g 0 rfl (sl.map vb) (.array 32 5) P5.out.cells Tryd.underlying41 rfl Z.out ?_ AllReady.nil)
      · go_simp
        refine (KS.out _ _ _ P5.out.bel U5.out.1 U5.out.2.1 U5.out.2.2).mono ?_
        rintro e w6 ⟨rfl, h6⟩
        have P6 : Hid (PS w w6 g sl) := P5.out.up h6
        refine hK' _ _ ?_
        clear hK' K' h6
        refine wpAny_ready (rs := [4]) (by kernel_rfl) (by simp) ?_
        refine (ar_load rfl (by kernel_rfl) 41 (.tmp 7) rfl g 0 rfl (sl.map vb) (.array 32 5) P6.out.cells Tryd.underlying41 rfl Z.out ?_ AllReady.nil)
        try simp only [Act.put, List.getElem_toArray, List.getElem_cons_zero, List.getElem_cons_succ, List.setIfInBounds_toArray, List.set_cons_zero, List.set_cons_succ]
        refine wpAny_take (i := 5) (v := .bool false) rfl (by kernel_rfl) (by kernel_rfl) (by kernel_rfl) (fun _ _ _ h => h) (yields_neq41 (.tmp 24) (.tmp 25) sl HS.out.2 rfl (by kernel_rfl) rfl rfl) ?_
        refine wpAny_done (by kernel_rfl) ?_ _
        go_simp
        go_wp2_with fail
        go_meet
        case rel => exact ⟨rfl, P6.out⟩
      · simp only [Act.put, List.getElem_toArray, List.getElem_cons_zero, List.getElem_cons_succ, List.setIfInBounds_toArray, List.set_cons_zero, List.set_cons_succ]
        refine wpAny_ready (rs := [3]) (by kernel_rfl) (by simp) ?_
        refine AllReady.cons rfl (fun K' hK' => ?_) AllReady.nil
        go_simp
        refine (KS.out _ _ _ P5.out.bel U5.out.1 U5.out.2.1 U5.out.2.2).mono ?_
        rintro e w6 ⟨rfl, h6⟩
        have P6 : Hid (PS w w6 g sl) := P5.out.up h6
        refine hK' _ _ ?_
        clear hK' K' h6
        try simp only [Act.put, List.getElem_toArray, List.getElem_cons_zero, List.getElem_cons_succ, List.setIfInBounds_toArray, List.set_cons_zero, List.set_cons_succ]
        refine wpAny_take (i := 5) (v := .bool false) rfl (by kernel_rfl) (by kernel_rfl) (by kernel_rfl) (fun _ _ _ h => h) (yields_neq41 (.tmp 24) (.tmp 25) sl HS.out.2 rfl (by kernel_rfl) rfl rfl) ?_
        refine wpAny_done (by kernel_rfl) ?_ _
        go_simp
        go_wp2_with fail
        go_meet
        case rel => exact ⟨rfl, P6.out⟩
    · simp only [Act.put, List.getElem_toArray, List.getElem_cons_zero, List.getElem_cons_succ, List.setIfInBounds_toArray, List.set_cons_zero, List.set_cons_succ]
      refine wpAny_ready (rs := [2]) (by kernel_rfl) (by simp) ?_
      refine AllReady.cons rfl (fun K' hK' => ?_) AllReady.nil
      go_simp
      refine (KU.out _ v1 P4.out.bel (.inl rfl)).mono ?_
      rintro e w5 ⟨v5, ps, rfl, h5⟩
      have P5 : Hid (PS w w5 g sl) := P4.out.up h5.2.2.2
      have U5 : Hid (HasL w5 v5 ps ∧ ps.flatten = L ∧ ps.length ≤ 101) := ⟨h5.1.has P5.out.bel, h5.2.1, h5.2.2.1⟩
      refine hK' _ _ ?_
      clear hK' K' h5
      refine wpAny_ready (rs := [3]) (by kernel_rfl) (by simp) ?_
      refine AllReady.cons rfl (fun K' hK' => ?_) AllReady.nil
      go_simp
      refine (KS.out _ _ _ P5.out.bel U5.out.1 U5.out.2.1 U5.out.2.2).mono ?_
      rintro e w6 ⟨rfl, h6⟩
      have P6 : Hid (PS w w6 g sl) := P5.out.up h6
      refine hK' _ _ ?_
      clear hK' K' h6
      try simp only [Act.put, List.getElem_toArray, List.getElem_cons_zero, List.getElem_cons_succ, List.setIfInBounds_toArray, List.set_cons_zero, List.set_cons_succ]
      refine wpAny_take (i := 5) (v := .bool false) rfl (by kernel_rfl) (by kernel_rfl) (by kernel_rfl) (fun _ _ _ h => h) (yields_neq41 (.tmp 24) (.tmp 25) sl HS.out.2 rfl (by kernel_rfl) rfl rfl) ?_
      refine wpAny_done (by kernel_rfl) ?_ _
      go_simp
      go_wp2_with fail
      go_meet
      case rel => exact ⟨rfl, P6.out⟩
  case rest =>
    obtain ⟨rfl, P2⟩ := hcut
    clear P1
    have KN : Hid (Calls Tryd.prog 26 #[] wc fun e w' => e = .returned (.pointer (some ⟨wc.heap.size, 0, none⟩)) ∧ w' = wc.alloc (.cells hnew 98)) := new_any wc (HT.out.up P2.out.bel)
    have HB3 : Hid (Below wc.heap.size wc (wc.alloc (.cells hnew 98)) ∧ HashAt (wc.alloc (.cells hnew 98)) wc.heap.size 98 [] ∧ (wc.alloc (.cells hnew 98)).heap.size = wc.heap.size + 1) := ⟨(Below.refl _ wc).alloc (Nat.le_refl _) _, hash_new wc 98, by simp⟩
    have hKs : w.heap.size ≤ wc.heap.size ∧ g < wc.heap.size ∧ 3 ≤ wc.heap.size := ⟨P2.out.bel.size, P2.out.lt, by have := HT.out.size; have := P2.out.bel.size; omega⟩
    obtain ⟨K, hK⟩ : ∃ K, K = wc.heap.size := ⟨_, rfl⟩
    obtain ⟨nw, hnw⟩ : ∃ nw, nw = hnew := ⟨_, rfl⟩
    rw [← hK] at KN HB3 hKs
    rw [← hnw] at KN HB3
    have KU2 : Hid (Calls Tryd.prog 30 #[.slice ao n cap, v2] (wc.alloc (.cells nw 98)) fun e w' => ∃ v ps, e = .returned v ∧ (PartsIn w w' (K + 1) v ps ∧ ps.flatten = L ∧ ps.length ≤ 101 ∧ HashAt w' K 98 [] ∧ PS w w' g sl)) := by
      have hp := P2.out.up (by rw [← hK]; exact HB3.out.1)
      refine (KU.out _ v2 hp.bel (.inr rfl)).mono fun e w' ⟨v, ps, h1, h2, h3, h4, h5⟩ => ⟨v, ps, h1, by rw [HB3.out.2.2] at h2; exact h2, h3, h4, HB3.out.2.1.below h5 (by have := HB3.out.2.2; omega), hp.up h5⟩
    clear hnw hK
    go_upto_region 10 with (first
      | (go_at_call 26; refine KN.out.mono ?_; rintro e w3 ⟨rfl, rfl⟩)
      | (go_at_call 30; refine KU2.out.mono ?_; rintro e w4 ⟨lv, ps, rfl, h4⟩; have H4 : Hid (PartsIn w w4 (K + 1) lv ps ∧ ps.flatten = L ∧ ps.length ≤ 101 ∧ HashAt w4 K 98 [] ∧ PS w w4 g sl) := h4; clear h4))
    have hps : ps.length ≤ 101 := H4.out.2.2.1
    obtain ⟨lo, lc, rfl⟩ := H4.out.1.form
    clear KN HB3 KU2 P2
    go_wp2_with fail
    go_loopw [10] (fun i wr => ∃ (k : Nat), k ≤ ps.length ∧ i = .int .i64 k ∧ Hid (HashAt wr K 98 (ps.take k).flatten) ∧ Hid (PartsIn w wr (K + 1) (.slice lo ps.length lc) ps) ∧ Hid (PS w wr g sl)) (fun i _ => ps.length - (intOf i).toNat)
    case atStart => exact ⟨0, by omega, rfl, H4.out.2.2.2.1, H4.out.1, H4.out.2.2.2.2⟩
    case round =>
      obtain ⟨k, hk, rfl, HH, HP, HW⟩ := hrel
      by_cases hlt : k < ps.length
      · have hkI : (k : Int) < (ps.length : Int) := by omega
        obtain ⟨a1, rfl⟩ : ∃ a1, lo = some a1 := by
          rcases HP.out.has HW.out.bel with ⟨e, h⟩ | ⟨a, c, e, _⟩
          · rw [h] at hlt; simp at hlt
          · simp only [Value.slice.injEq] at e; exact ⟨a, e.1⟩
        obtain ⟨u, hcu, HU⟩ : ∃ u, wr.cell? (a1.add k) = some u ∧ Hid (Has w u (ps.getD k [])) := by
          obtain ⟨us, q1, q2, q3⟩ := HP.out.own
          refine ⟨us.getD k (.slice none 0 0), ?_, q3 k hlt⟩
          have q0 := q2
          obtain ⟨g1, h | ⟨g2, cap2, cur, hv, hg, hh, hn, hr⟩⟩ := q2
          · obtain ⟨h, _⟩ := h; cases h
          · simp only [Value.slice.injEq, Option.some.injEq] at hv
            obtain ⟨rfl, _, rfl⟩ := hv
            rw [q1] at q0
            exact World.ownsRow.cells (v := .slice (some ⟨g2, 0, none⟩) ps.length lc) (by rw [← q1] at q0 ⊢; exact q0) (g := g2) rfl k _ (by simp [List.getD, List.getElem?_eq_getElem (show k < us.length by omega)])
        obtain ⟨uo, uc, rfl, huc⟩ := HU.out.form
        obtain ⟨pn, hpn⟩ : ∃ pn, pn = (ps.getD k []).length := ⟨_, rfl⟩
        rw [← hpn] at hcu HU
        have C : Hid (Calls Tryd.prog 31 #[.pointer (some ⟨K, 0, none⟩), .slice uo pn uc] wr fun e w' => e = .returned (.tuple #[]) ∧ (HashAt w' K 98 (ps.take (k + 1)).flatten ∧ PartsIn w w' (K + 1) (.slice (some a1) ps.length lc) ps ∧ PS w w' g sl)) := by
          have e : (ps.take (k + 1)).flatten = (ps.take k).flatten ++ ps.getD k [] := flatten_take_succ ps k hlt
          rw [e]
          have hfl : ps.flatten = (ps.take (k + 1)).flatten ++ (ps.drop (k + 1)).flatten := by rw [← List.flatten_append, List.take_append_drop]
          have hlen : (ps.take k).flatten.length + (ps.getD k []).length ≤ 32768 := by
            rw [← List.length_append, ← e]
            have h1 := H4.out.2.1
            have h2 := HL.out.2.2
            rw [← h1, hfl, List.length_append] at h2
            omega
          refine (add_any K 98 _ (ps.getD k []) _ wr HH.out (HU.out.below HW.out.bel) (off_of_has HU.out hKs.1) (fun x hx => HL.out.2.1 x (by rw [← H4.out.2.1, hfl, e]; simp only [List.mem_append]; exact .inl (.inr hx))) (HT.out.up HW.out.bel) hKs.2.2 (by omega)).mono fun e w' ⟨q1, q2, q3⟩ => ⟨q1, q2, ?_, HW.out.but q3 hKs.1 (by omega)⟩
          obtain ⟨us, r1, r2, r3⟩ := HP.out.own
          refine ⟨⟨us, r1, ?_, r3⟩⟩
          have hl' := World.ownsRow.lt r2
          obtain ⟨g1, h | ⟨g2, cap2, cur, hv, hg, hh, hr⟩⟩ := r2
          · exact ⟨g1, .inl h⟩
          · refine ⟨g1, .inr ⟨g2, cap2, cur, hv, hg, (q3.block g2 (Array.getElem?_eq_some_iff.1 hh).1 (by omega)).trans hh, hr⟩⟩
        have C2 : Hid (∀ wz, HashAt wz K 98 (ps.take (k + 1)).flatten ∧ PartsIn w wz (K + 1) (.slice (some a1) ps.length lc) ps ∧ PS w wz g sl → Calls Tryd.prog 32 #[.pointer (some ⟨K, 0, none⟩)] wz fun e w' => ∃ cc, e = .returned (.agg cc) ∧ (HashAt w' K 98 (ps.take (k + 1)).flatten ∧ PartsIn w w' (K + 1) (.slice (some a1) ps.length lc) ps ∧ PS w w' g sl)) := fun wz ⟨q1, q2, q3⟩ => by
          have hfl : ps.flatten = (ps.take (k + 1)).flatten ++ (ps.drop (k + 1)).flatten := by rw [← List.flatten_append, List.take_append_drop]
          have hlen : (ps.take (k + 1)).flatten.length ≤ 32768 := by
            have h1 := H4.out.2.1
            have h2 := HL.out.2.2
            rw [← h1, hfl, List.length_append] at h2
            omega
          refine (sum_any K 98 _ wz q1 (HT.out.up q3.bel) (by omega)).mono fun e w' ⟨s1, s2⟩ => ⟨_, s1, q1.below s2 q1.lt, q2.block fun q hq => s2.block q hq, q3.up s2⟩
        clear hpn huc
        go_wp2_with (first
          | (go_at_call 31; refine C.out.mono ?_; rintro e w5 ⟨rfl, h5⟩; have H5 : Hid (HashAt w5 K 98 (ps.take (k + 1)).flatten ∧ PartsIn w w5 (K + 1) (.slice (some a1) ps.length lc) ps ∧ PS w w5 g sl) := h5; clear h5)
          | (go_at_call 32; refine (C2.out _ H5.out).mono ?_; rintro e w6 ⟨cc, rfl, h6⟩; have H6 : Hid (HashAt w6 K 98 (ps.take (k + 1)).flatten ∧ PartsIn w w6 (K + 1) (.slice (some a1) ps.length lc) ps ∧ PS w w6 g sl) := h6; clear h6))
        go_roundw
        case rel => exact ⟨k + 1, by omega, by go_num, H6.out⟩
        case measure => simp [intOf]; omega
      · have hkI : ¬ (k : Int) < (ps.length : Int) := by omega
        obtain rfl : k = ps.length := by omega
        have H5 : Hid (HashAt wr K 98 L ∧ PS w wr g sl) := ⟨by have h := HH.out; rw [List.take_length, H4.out.2.1] at h; exact h, HW.out⟩
        clear HH HP HW H4 hk hlt hkI
        have K32 : Hid (∀ wz, HashAt wz K 98 L ∧ PS w wz g sl → Calls Tryd.prog 32 #[.pointer (some ⟨K, 0, none⟩)] wz fun e w' => e = .returned (.agg (sl.map vb).toArray) ∧ (HashAt w' K 98 L ∧ PS w w' g sl)) := fun wz ⟨q1, q3⟩ => by
          rw [HS.out.1]
          refine (sum_any K 98 _ wz q1 (HT.out.up q3.bel) (by have := HL.out.2.2; omega)).mono fun e w' ⟨s1, s2⟩ => ⟨s1, q1.below s2 q1.lt, by rw [← HS.out.1]; exact q3.up s2⟩
        have K33 : Hid (∀ wz, HashAt wz K 98 L → Calls Tryd.prog 33 #[.pointer (some ⟨K, 0, none⟩)] wz fun e w' => e = .returned (.int .i64 (n : Int)) ∧ wz = w') := fun wz q1 => by
          rw [HN.out]; exact len_any K 98 L wz q1
        go_upto_region 15 with fail
        go_cut [55] from 45 (fun s wf => s = .bool false ∧ Hid (PS w wf g sl))
        case first =>
          refine wp_region_any (by kernel_rfl) ?_
          change wpAny _ _ _ _ _ _ _ (World.drew _)
          generalize hw4 : World.drew wr = w7
          have P7 : Hid (HashAt w7 K 98 L ∧ PS w w7 g sl) := by rw [← hw4]; exact ⟨H5.out.1.block rfl, H5.out.2.up ⟨rfl, rfl, rfl, Nat.le_refl _, fun _ _ => rfl⟩⟩
          clear hw4 H5
          refine wpAny_take (i := 0) (v := .pointer (some ⟨K, 0, none⟩)) rfl (by kernel_rfl) (by kernel_rfl) (by kernel_rfl) (fun _ _ _ h => h) (Or.inl ⟨by kernel_rfl, ?_⟩) ?_
          · intro wz; go_simp
          simp only [Act.put, List.getElem_toArray, List.getElem_cons_zero, List.setIfInBounds_toArray, List.set_cons_zero, List.set_cons_succ]
          refine wpAny_ready (rs := [1, 2]) (by kernel_rfl) (by simp) ?_
          refine AllReady.cons rfl (fun K' hK' => ?_) (ar_load rfl (by kernel_rfl) 41 (.tmp 7) rfl g 0 rfl (sl.map vb) (.array 32 5) P7.out.2.cells Tryd.underlying41 rfl Z.out ?_ AllReady.nil)
          · go_simp
            refine (K32.out _ P7.out).mono ?_
            rintro e w8 ⟨rfl, h8⟩
            have P8 : Hid (HashAt w8 K 98 L ∧ PS w w8 g sl) := h8
            refine hK' _ _ ?_
            clear hK' K' h8
            refine wpAny_ready (rs := [2]) (by kernel_rfl) (by simp) ?_
            refine (ar_load rfl (by kernel_rfl) 41 (.tmp 7) rfl g 0 rfl (sl.map vb) (.array 32 5) P8.out.2.cells Tryd.underlying41 rfl Z.out ?_ AllReady.nil)
            try simp only [Act.put, List.getElem_toArray, List.getElem_cons_zero, List.getElem_cons_succ, List.setIfInBounds_toArray, List.set_cons_zero, List.set_cons_succ]
            refine wpAny_take (i := 3) (v := .bool false) rfl (by kernel_rfl) (by kernel_rfl) (by kernel_rfl) (fun _ _ _ h => h) (yields_neq41 (.tmp 46) (.tmp 47) sl HS.out.2 rfl (by kernel_rfl) rfl rfl) ?_
            refine wpAny_take (i := 4) (v := .bool false) rfl (by kernel_rfl) (by kernel_rfl) (by kernel_rfl) (fun _ _ _ h => h) (Or.inl ⟨by kernel_rfl, ?_⟩) ?_
            · intro wz; go_simp
            refine wpAny_take (i := 5) (v := .pointer (some ⟨K, 0, none⟩)) rfl (by kernel_rfl) (by kernel_rfl) (by kernel_rfl) (fun _ _ _ h => h) (Or.inl ⟨by kernel_rfl, ?_⟩) ?_
            · intro wz; go_simp
            refine wpAny_take (i := 7) (v := .slice ao n cap) rfl (by kernel_rfl) (by kernel_rfl) (by kernel_rfl) (fun _ _ _ h => h) (Or.inl ⟨by kernel_rfl, ?_⟩) ?_
            · intro wz; go_simp
            refine wpAny_take (i := 8) (v := .int .i64 n) rfl (by kernel_rfl) (by kernel_rfl) (by kernel_rfl) (fun _ _ _ h => h) (Or.inl ⟨by kernel_rfl, ?_⟩) ?_
            · intro wz; go_simp
            simp only [Act.put, List.getElem_toArray, List.getElem_cons_zero, List.getElem_cons_succ, List.setIfInBounds_toArray, List.set_cons_zero, List.set_cons_succ]
            refine wpAny_ready (rs := [6]) (by kernel_rfl) (by simp) ?_
            refine AllReady.cons rfl (fun K' hK' => ?_) AllReady.nil
            go_simp
            refine (K33.out _ P8.out.1).mono ?_
            rintro e w9 ⟨rfl, rfl⟩
            refine hK' _ _ ?_
            clear hK' K'
            refine wpAny_take (i := 9) (v := .bool false) rfl (by kernel_rfl) (by kernel_rfl) (by kernel_rfl) (fun _ _ _ h => h) (Or.inl ⟨by kernel_rfl, ?_⟩) ?_
            · intro wz; go_simp
            refine wpAny_take (i := 10) (v := .bool false) rfl (by kernel_rfl) (by kernel_rfl) (by kernel_rfl) (fun _ _ _ h => h) (Or.inl ⟨by kernel_rfl, ?_⟩) ?_
            · intro wz; go_simp
            refine wpAny_done (by kernel_rfl) ?_ _
            go_simp
            go_wp2_with fail
            go_meet
            case rel => exact ⟨rfl, P8.out.2⟩
          · simp only [Act.put, List.getElem_toArray, List.getElem_cons_zero, List.getElem_cons_succ, List.setIfInBounds_toArray, List.set_cons_zero, List.set_cons_succ]
            refine wpAny_ready (rs := [1]) (by kernel_rfl) (by simp) ?_
            refine AllReady.cons rfl (fun K' hK' => ?_) AllReady.nil
            go_simp
            refine (K32.out _ P7.out).mono ?_
            rintro e w8 ⟨rfl, h8⟩
            have P8 : Hid (HashAt w8 K 98 L ∧ PS w w8 g sl) := h8
            refine hK' _ _ ?_
            clear hK' K' h8
            try simp only [Act.put, List.getElem_toArray, List.getElem_cons_zero, List.getElem_cons_succ, List.setIfInBounds_toArray, List.set_cons_zero, List.set_cons_succ]
            refine wpAny_take (i := 3) (v := .bool false) rfl (by kernel_rfl) (by kernel_rfl) (by kernel_rfl) (fun _ _ _ h => h) (yields_neq41 (.tmp 46) (.tmp 47) sl HS.out.2 rfl (by kernel_rfl) rfl rfl) ?_
            refine wpAny_take (i := 4) (v := .bool false) rfl (by kernel_rfl) (by kernel_rfl) (by kernel_rfl) (fun _ _ _ h => h) (Or.inl ⟨by kernel_rfl, ?_⟩) ?_
            · intro wz; go_simp
            refine wpAny_take (i := 5) (v := .pointer (some ⟨K, 0, none⟩)) rfl (by kernel_rfl) (by kernel_rfl) (by kernel_rfl) (fun _ _ _ h => h) (Or.inl ⟨by kernel_rfl, ?_⟩) ?_
            · intro wz; go_simp
            refine wpAny_take (i := 7) (v := .slice ao n cap) rfl (by kernel_rfl) (by kernel_rfl) (by kernel_rfl) (fun _ _ _ h => h) (Or.inl ⟨by kernel_rfl, ?_⟩) ?_
            · intro wz; go_simp
            refine wpAny_take (i := 8) (v := .int .i64 n) rfl (by kernel_rfl) (by kernel_rfl) (by kernel_rfl) (fun _ _ _ h => h) (Or.inl ⟨by kernel_rfl, ?_⟩) ?_
            · intro wz; go_simp
            simp only [Act.put, List.getElem_toArray, List.getElem_cons_zero, List.getElem_cons_succ, List.setIfInBounds_toArray, List.set_cons_zero, List.set_cons_succ]
            refine wpAny_ready (rs := [6]) (by kernel_rfl) (by simp) ?_
            refine AllReady.cons rfl (fun K' hK' => ?_) AllReady.nil
            go_simp
            refine (K33.out _ P8.out.1).mono ?_
            rintro e w9 ⟨rfl, rfl⟩
            refine hK' _ _ ?_
            clear hK' K'
            refine wpAny_take (i := 9) (v := .bool false) rfl (by kernel_rfl) (by kernel_rfl) (by kernel_rfl) (fun _ _ _ h => h) (Or.inl ⟨by kernel_rfl, ?_⟩) ?_
            · intro wz; go_simp
            refine wpAny_take (i := 10) (v := .bool false) rfl (by kernel_rfl) (by kernel_rfl) (by kernel_rfl) (fun _ _ _ h => h) (Or.inl ⟨by kernel_rfl, ?_⟩) ?_
            · intro wz; go_simp
            refine wpAny_done (by kernel_rfl) ?_ _
            go_simp
            go_wp2_with fail
            go_meet
            case rel => exact ⟨rfl, P8.out.2⟩
        case rest =>
          obtain ⟨rfl, P6⟩ := hcut
          clear H5 K32 K33
          have KP : Hid (Calls Tryd.prog 27 #[] wc fun e w' => e = .returned (.pointer (some ⟨wc.heap.size + 1, 0, none⟩)) ∧ (HashAt w' (wc.heap.size + 1) 100 [] ∧ Below w.heap.size w w')) := by
            refine (newPieces_any wc (HT.out.up P6.out.bel)).mono fun e w' ⟨q1, q2⟩ => ⟨q1, ?_, ?_⟩
            · rw [q2]
              have := hash_new (wc.alloc (.cells hnew 98)) 100
              rw [show (wc.alloc (.cells hnew 98)).heap.size = wc.heap.size + 1 by simp] at this
              exact this
            · rw [q2]; exact (P6.out.bel.alloc P6.out.bel.size _).alloc (by have := P6.out.bel.size; simp; omega) _
          have hK2 : w.heap.size ≤ wc.heap.size + 1 ∧ 3 ≤ wc.heap.size + 1 := ⟨by have := P6.out.bel.size; omega, by have := HT.out.size; have := P6.out.bel.size; omega⟩
          obtain ⟨K2, hK2e⟩ : ∃ K2, K2 = wc.heap.size + 1 := ⟨_, rfl⟩
          rw [← hK2e] at KP hK2
          clear hK2e P6 hKs
          go_upto_region 18 with (go_at_call 27; refine KP.out.mono ?_; rintro e wp ⟨rfl, hp⟩; have HP : Hid (HashAt wp K2 100 [] ∧ Below w.heap.size w wp) := hp; clear hp)
          go_wp2_with fail
          go_loopw [12] (fun i wr => ∃ (k : Nat), k ≤ (n + 511) / 512 ∧ i = .int .i64 ((512 * k : Nat) : Int) ∧ Hid (HashAt wr K2 100 (((upto (pieceB L) k).map Sha.sha).flatten)) ∧ Hid (Below w.heap.size w wr)) (fun i _ => n + 512 - (intOf i).toNat)
          case atStart => exact ⟨0, by omega, rfl, HP.out.1, HP.out.2⟩
          case round =>
            clear HP KP
            obtain ⟨k, hk, rfl, HH, HW⟩ := hrel
            by_cases hlt : 512 * k < n
            · obtain ⟨a, rfl⟩ : ∃ a, ao = some a := by
                rcases HL.out.1 with ⟨e, h⟩ | ⟨a, c, e, _⟩
                · have := HN.out; rw [h] at this; simp at this; omega
                · simp only [Value.slice.injEq] at e; exact ⟨a, e.1⟩
              obtain ⟨lo2, hlo⟩ : ∃ lo, lo = 512 * k := ⟨_, rfl⟩
              obtain ⟨m, hm⟩ : ∃ m, m = min 512 (n - lo2) := ⟨_, rfl⟩
              obtain ⟨hi, hhi⟩ : ∃ hi, hi = lo2 + m := ⟨_, rfl⟩
              obtain ⟨A, hA⟩ : ∃ A, A = a.add lo2 := ⟨_, rfl⟩
              have HLO : Hid (lo2 = 512 * k ∧ k + 1 ≤ (n + 511) / 512 ∧ lo2 + 512 = 512 * (k + 1)) := ⟨hlo, by omega, by omega⟩
              have hcap : n ≤ cap := by obtain ⟨_, _, e, h⟩ := HL.out.1.form; simp only [Value.slice.injEq] at e; have := HN.out; omega
              have HX : Hid (Has w (.slice (some A) m (cap - lo2)) (pieceB L k) ∧ Bytes (pieceB L k)) := by
                refine ⟨?_, fun x hx => HL.out.2.1 x (List.mem_of_mem_drop (List.mem_of_mem_take hx))⟩
                rcases HL.out.1 with ⟨e, h⟩ | ⟨a', c', e, hc', hcell⟩
                · cases e
                · simp only [Value.slice.injEq, Option.some.injEq] at e
                  obtain ⟨rfl, _, rfl⟩ := e
                  have hpl : (pieceB L k).length = m := by unfold pieceB; rw [List.length_take, List.length_drop, ← HN.out, hm, hlo]
                  refine .inr ⟨A, cap - lo2, by rw [hpl], by rw [hpl]; have := HN.out; omega, fun i hi => ?_⟩
                  rw [hpl] at hi
                  have hN := HN.out
                  rw [hA, addr_add2, hcell (lo2 + i) (by omega)]
                  unfold pieceB
                  simp only [List.getD, List.getElem?_take, List.getElem?_drop]
                  rw [if_pos (by omega), hlo]
              have hsl := slice43_lh a n cap lo2 hi (by omega) (by omega) hcap
              rw [← hA, show hi - lo2 = m by omega] at hsl
              have hmin : (if (n : Int) < (lo2 : Int) + 512 then (n : Int) else (lo2 : Int) + 512) = (hi : Int) := by split <;> omega
              have hw1 : IntKind.i64.wrap ((lo2 : Int) + 512) = (lo2 : Int) + 512 := by rw [IntKind.wrap_i64]; omega
              have hltI : (lo2 : Int) < (n : Int) := by omega
              have C13 : Hid (∀ T2, Calls Tryd.prog 13 #[.slice (some ⟨wr.heap.size, 0, none⟩) 1 1] (wr.alloc (.cells #[.slice (some A) m (cap - lo2)] T2)) fun e w' => e = .returned (.agg ((Sha.sha (pieceB L k)).map vb).toArray) ∧ Below wr.heap.size wr w') := fun T2 => by
                have hb : Below wr.heap.size wr (wr.alloc (.cells #[.slice (some A) m (cap - lo2)] T2)) := (Below.refl _ wr).alloc (Nat.le_refl _) _
                have h := sha_any (.slice (some ⟨wr.heap.size, 0, none⟩) 1 1) [pieceB L k] (wr.alloc (.cells #[.slice (some A) m (cap - lo2)] T2)) (hasL_one (heap_alloc_new _ _) (by
                  have hpl : (pieceB L k).length = m := by unfold pieceB; rw [List.length_take, List.length_drop, ← HN.out, hm, hlo]
                  exact HX.out.1.below (Below.up HW.out hb))) (fun p hp => by rw [List.mem_singleton.1 hp]; exact HX.out.2) (HT.out.up (Below.up HW.out hb)) (by
                  have hpl : (pieceB L k).length = m := by unfold pieceB; rw [List.length_take, List.length_drop, ← HN.out, hm, hlo]
                  simp; omega) (by simp)
                rw [show [pieceB L k].flatten = pieceB L k by simp] at h
                exact h.mono fun e w' ⟨q1, q2⟩ => ⟨q1, hb.trans (q2.mono hb.size)⟩
              have C34 : Hid (∀ wz, Below wr.heap.size wr wz → Calls Tryd.prog 34 #[.pointer (some ⟨K2, 0, none⟩), .agg ((Sha.sha (pieceB L k)).map vb).toArray] wz fun e w' => e = .returned (.tuple #[]) ∧ (HashAt w' K2 100 (((upto (pieceB L) (k + 1)).map Sha.sha).flatten) ∧ Below w.heap.size w w')) := fun wz hz => by
                have hll : (((upto (pieceB L) k).map Sha.sha).flatten).length = 32 * k := by rw [flat_len, upto_length]
                refine (padd_any K2 _ (Sha.sha (pieceB L k)) wz (HH.out.below hz HH.out.lt) (sha_len _) (bytes_sha _) (HT.out.up (Below.up HW.out hz)) hK2.2 (by rw [hll]; omega)).mono fun e w' ⟨q1, q2, q3⟩ => ⟨q1, by rw [flat_pieces L k _ rfl]; exact q2, (Below.up HW.out hz).trans (q3.below hK2.1 (Below.up HW.out hz).size)⟩
              obtain ⟨cp, hcp⟩ : ∃ cp, cp = ((Sha.sha (pieceB L k)).map vb).toArray := ⟨_, rfl⟩
              rw [← hcp] at C13 C34
              rw [← hlo]
              clear hlo hm hhi hA hcp hk HX hcap hlt
              go_wp2_with (first
                | (go_at_call 13; refine (C13.out _).mono ?_; rintro e w5 ⟨rfl, h5⟩; have H5 : Hid (Below wr.heap.size wr w5) := h5; clear h5)
                | (go_at_call 34; refine (C34.out _ H5.out).mono ?_; rintro e w6 ⟨rfl, h6⟩; have H6 : Hid (HashAt w6 K2 100 (((upto (pieceB L) (k + 1)).map Sha.sha).flatten) ∧ Below w.heap.size w w6) := h6; clear h6))
              go_roundw
              case rel => exact ⟨k + 1, HLO.out.2.1, by rw [← HLO.out.2.2]; go_num, H6.out⟩
              case measure => simp [intOf]; omega
            · have hkk : k = (n + 511) / 512 := by omega
              obtain ⟨dl, hdl⟩ : ∃ dl, dl = digest L := ⟨_, rfl⟩
              have HD : Hid (dl.length = 32) := by show _ = _; rw [hdl]; exact sha_len _
              have HE : Hid (Sha.sha (((upto (pieceB L) k).map Sha.sha).flatten) = dl) := by show _ = _; rw [hdl, digest, pieces, hkk, HN.out]
              have hll : (((upto (pieceB L) k).map Sha.sha).flatten).length = 32 * k := by rw [flat_len, upto_length]
              have C35 : Hid (Calls Tryd.prog 35 #[.pointer (some ⟨K2, 0, none⟩)] wr fun e w' => e = .returned (.agg (dl.map vb).toArray) ∧ Below wr.heap.size wr w') := by
                rw [← HE.out]; exact psum_any K2 100 _ wr HH.out (HT.out.up HW.out) (by rw [hll]; omega)
              have C18 : Hid (∀ wz, Below wr.heap.size wr wz → Calls Tryd.prog 18 #[.slice ao n cap] wz fun e w' => e = .returned (.agg (dl.map vb).toArray) ∧ Below w.heap.size w w') := fun wz hz => by
                rw [hdl, HN.out]
                have hb := Below.up HW.out hz
                exact (digest_any _ L wz (HL.out.1.below hb) HL.out.2.1 (HT.out.up hb) (by have := HL.out.2.2; omega)).mono fun e w' ⟨q1, q2⟩ => ⟨q1, Below.up hb q2⟩
              have hltI : ¬ (((512 * k : Nat) : Int) < (n : Int)) := by omega
              obtain ⟨lo2, hlo⟩ : ∃ lo, lo = 512 * k := ⟨_, rfl⟩
              rw [← hlo] at hltI ⊢
              clear hlo hkk hlt hdl hll hk HH
              go_wp2_with (first
                | (go_at_call 35; refine C35.out.mono ?_; rintro e w5 ⟨rfl, h5⟩; have H5 : Hid (Below wr.heap.size wr w5) := h5; clear h5)
                | (go_at_call 18; refine (C18.out _ H5.out).mono ?_; rintro e w6 ⟨rfl, h6⟩; have H6 : Hid (Below w.heap.size w w6) := h6; clear h6)
                | (refine wpList_eql41 rfl (.tmp 76) (.tmp 78) dl HD.out rfl rfl rfl ?_))
              go_ret
              exact ⟨rfl, H6.out⟩
end Go.Proofs.YtmglopfjjbnfiaaDoor
