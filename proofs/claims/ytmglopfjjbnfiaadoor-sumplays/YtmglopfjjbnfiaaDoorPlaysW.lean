/-
  twinelaw2.SumPlays: the walk.
-/
import Derived.Test.YtmglopfjjbnfiaaDoorTwo
namespace Go.Proofs.YtmglopfjjbnfiaaDoor
open Go.RowKit

theorem wpList_load_seg_g {ops : Array Oper} {rest : List Oper} {o : Oper} {a : Act} {w : World} {Q : Exit → Act → World → Prop} (hw : Region.wanted o (yielded ops a.tmps) = true) (ty : TypeId) (x : Operand) (ho : o.op = .load ty x)
    (g off : Nat) (hx : a.eval x = .pointer (some ⟨g, off, none⟩)) (cs : List Value) (d : TypeDesc) (hc : ∀ j v, cs[j]? = some v → w.cell? ⟨g, off + j, none⟩ = some v)
    (hu : Tryd.prog.underlying ty = some d) (hd : (match d with | .struct _ | .array _ _ => true | _ => false) = true) (hi : (Tryd.prog.info? ty).map (·.size) = some cs.length)
    (h : wpList Tryd.prog ops Q rest (a.put o.dst (.agg cs.toArray)) w) : wpList Tryd.prog ops Q (o :: rest) a w := by
  refine wpList_step fun K hK => ?_
  rw [if_pos hw]
  have hrun := run_load_seg ty g off cs d hc hu hd hi
  unfold Oper.wp execOp
  simp only [ho, hx, Instr.loadAt, Instr.sureAddr, Sem.run_bind, Sem.run_pure, Result.andThen_ok, hrun]
  exact hK _ _ h

theorem Two.mono {w wr : World} {lo S1 KH1 KP1 S2 KH2 KP2 nb np nb' np' : Nat} (h : Two w wr lo S1 KH1 KP1 S2 KH2 KP2 nb np) (h1 : nb ≤ nb') (h2 : np ≤ np') : Two w wr lo S1 KH1 KP1 S2 KH2 KP2 nb' np' := by
  obtain ⟨bv1, pv1, b1, p1, bv2, pv2, b2, p2, a1, a2, a3, a4, a5, a6, a7⟩ := h
  exact ⟨bv1, pv1, b1, p1, bv2, pv2, b2, p2, a1, a2, by omega, by omega, by omega, by omega, a7⟩

/-- Two sides, and a list of numbers beside them. -/
def TwoE (w wr : World) (lo S1 KH1 KP1 S2 KH2 KP2 nb np E : Nat) (row : Obj) : Prop :=
  ∃ bv1 pv1 b1 p1 bv2 pv2 b2 p2, SideAt wr lo S1 KH1 KP1 bv1 pv1 b1 p1 ∧ SideAt wr lo S2 KH2 KP2 bv2 pv2 b2 p2 ∧ b1.length ≤ nb ∧ b2.length ≤ nb ∧ p1.length ≤ np ∧ p2.length ≤ np ∧ (∀ j, foot S1 KH1 KP1 bv1 pv1 j → ¬ foot S2 KH2 KP2 bv2 pv2 j) ∧ Below lo w wr ∧ ¬ foot S1 KH1 KP1 bv1 pv1 E ∧ ¬ foot S2 KH2 KP2 bv2 pv2 E ∧ wr.heap[E]? = some row

theorem TwoE.swap {w wr : World} {lo S1 KH1 KP1 S2 KH2 KP2 nb np E : Nat} {row : Obj} (h : TwoE w wr lo S1 KH1 KP1 S2 KH2 KP2 nb np E row) : TwoE w wr lo S2 KH2 KP2 S1 KH1 KP1 nb np E row := by
  obtain ⟨bv1, pv1, b1, p1, bv2, pv2, b2, p2, a1, a2, a3, a4, a5, a6, a7, a8, a9, a10, a11⟩ := h
  exact ⟨bv2, pv2, b2, p2, bv1, pv1, b1, p1, a2, a1, a4, a3, a6, a5, fun j h1 h2 => a7 j h2 h1, a8, a10, a9, a11⟩

theorem twoE_new {w wr : World} {lo S1 KH1 KP1 S2 KH2 KP2 nb np : Nat} (h : Two w wr lo S1 KH1 KP1 S2 KH2 KP2 nb np) (c : Array Value) (t : TypeId) : TwoE w (wr.alloc (.cells c t)) lo S1 KH1 KP1 S2 KH2 KP2 nb np wr.heap.size (.cells c t (0, 0)) := by
  obtain ⟨bv1, pv1, b1, p1, bv2, pv2, b2, p2, a1, a2, a3, a4, a5, a6, a7, a8⟩ := h
  have hb : Below wr.heap.size wr (wr.alloc (.cells c t)) := (Below.refl _ wr).alloc (Nat.le_refl _) _
  have hl := a1.foot_lt (k := S1) (.inl rfl)
  exact ⟨bv1, pv1, b1, p1, bv2, pv2, b2, p2, a1.below hb, a2.below hb, a3, a4, a5, a6, a7, a8.alloc (by omega) _, fun hf => by have := (a1.foot_lt hf).2; omega, fun hf => by have := (a2.foot_lt hf).2; omega, heap_alloc_new _ _⟩

theorem twoE_asks {w wr : World} {lo S1 KH1 KP1 S2 KH2 KP2 nb np E : Nat} {row : Obj} (h : TwoE w wr lo S1 KH1 KP1 S2 KH2 KP2 nb np E row) (x : OpD) (hx : x.kind = 2 ∨ x.kind = 3 ∨ x.kind = 5) (hlw : lo = w.heap.size) (hT : Tabs w) (hnb : nb ≤ 90000) (hnp : np ≤ 90000) :
    Calls Tryd.prog 28 #[.pointer (some ⟨S1, 0, none⟩), .agg (opCells x.kind x.which x.bv x.pc)] wr fun e w' => e = .returned (.bool true) ∧ TwoE w w' lo S1 KH1 KP1 S2 KH2 KP2 nb np E row := by
  obtain ⟨bv1, pv1, b1, p1, bv2, pv2, b2, p2, a1, a2, a3, a4, a5, a6, a7, a8, a9, a10, a11⟩ := h
  have hbl : Below w.heap.size w wr := by rw [← hlw]; exact a8
  refine (asks_any x hx lo S1 KH1 KP1 bv1 pv1 b1 p1 wr a1 (hT.up hbl) (by omega) (by omega)).mono fun e w' ⟨q1, q2⟩ => ⟨q1, ?_⟩
  obtain ⟨bv', pv', b', p', c1, c2, c3, c4, c5⟩ := q2
  have hE := (Array.getElem?_eq_some_iff.1 a11).1
  refine ⟨bv', pv', b', p', bv2, pv2, b2, p2, c1, a2.keep fun k hk => c4.block k (a2.foot_lt hk).2 (fun hf => a7 k hf hk), by omega, a4, by omega, a6, fun j hj h2j => ?_, ?_, fun hf => ?_, a10, (c4.block E hE a9).trans a11⟩
  · rcases c5 j hj with h | h
    · exact a7 j h h2j
    · have := (a2.foot_lt h2j).2; omega
  · refine a8.trans (c4.below ?_ fun k hk => (a1.foot_lt hk).1)
    have := a1.foot_lt (k := S1) (.inl rfl); omega
  · rcases c5 E hf with h | h
    · exact a9 h
    · omega

set_option maxHeartbeats 8000000 in
set_option maxRecDepth 100000 in
theorem plays_law (ao : Option Addr) (cap : Nat) (L : List OpD) (w : World) (hL : HasOps w (.slice ao L.length cap) L) (hLl : L.length ≤ 9223372036854775807) (hT : Tabs w) :
    Calls Tryd.prog 5 #[.slice ao L.length cap] w fun e w' => e = .returned (.bool true) ∧ Below w.heap.size w w' := by
  have HL : Hid (∀ (i : Nat) (x : OpD), L[i]? = some x → ∃ g o, ao = some ⟨g, o, none⟩ ∧
    (∀ j y, (opCells x.kind x.which x.bv x.pc)[j]? = some y → w.cell? ⟨g, o + i * 35 + j, none⟩ = some y) ∧ Has w x.bv x.ob ∧ Bytes x.ob ∧ x.pc.length = 32 ∧ Bytes x.pc ∧ x.ob.length ≤ 9223372036854775807) := by
    obtain ⟨ao', cap', e, h⟩ := hL
    simp only [Value.slice.injEq, true_and] at e
    obtain ⟨rfl, _⟩ := e
    exact h
  have HT : Hid (Tabs w) := hT
  obtain ⟨n, hn⟩ : ∃ n, n = L.length := ⟨_, rfl⟩
  have HN : Hid (n = L.length) := hn
  have C23 : Hid (Calls Tryd.prog 23 #[.int .i64 32768] w fun e w' => e = .returned (.pointer (some ⟨w.heap.size, 0, none⟩)) ∧ (CountAt w' w.heap.size 32768 ∧ Below w.heap.size w w')) := many_any w
  rw [← hn] at hLl ⊢
  clear hL hT hn
  go_enter Tryd.func5, Tryd.ntmps5
  go_upto_region 2 with (go_at_call 23; refine C23.out.mono ?_; rintro e w1 ⟨rfl, h1⟩; have H1 : Hid (CountAt w1 w.heap.size 32768 ∧ Below w.heap.size w w1) := h1; clear h1)
  obtain ⟨C, hC⟩ : ∃ C, C = w.heap.size := ⟨_, rfl⟩
  have HC : Hid (C = w.heap.size) := hC
  rw [← hC] at ⊢
  clear C23 hC
  go_wp2_with fail
  go_loopw [4] (fun i wr => ∃ (k : Nat) (z : Int), k ≤ n ∧ i = .int .i64 k ∧ z ≤ 32768 ∧ Hid (z = 32768 - (weight (L.take k) : Int)) ∧ Hid (CountAt wr C z) ∧ Hid (Below w.heap.size w wr)) (fun i _ => n - (intOf i).toNat)
  case atStart => exact ⟨0, 32768, by omega, rfl, by omega, rfl, by rw [HC.out]; exact H1.out.1, H1.out.2⟩
  case round =>
    clear H1
    obtain ⟨k, z, hk, rfl, hz, HZ, HCt, HW⟩ := hrel
    have K24 : Hid (Calls Tryd.prog 24 #[.pointer (some ⟨C, 0, none⟩)] wr fun e w' => e = .returned (.bool (decide (0 ≤ z))) ∧ wr = w') := ok_any C z wr HCt.out
    by_cases hgo : k < n ∧ 0 ≤ z
    · obtain ⟨hlt, h0⟩ := hgo
      have hkI : (k : Int) < (n : Int) := by omega
      have hdz : decide (0 ≤ z) = true := by simp [h0]
      rw [hdz] at K24
      obtain ⟨x, hx⟩ : ∃ x, L[k]? = some x := ⟨_, List.getElem?_eq_getElem (by have := HN.out; omega)⟩
      obtain ⟨g, o, rfl, hcells, hov, _, _, _, hol⟩ := HL.out k x hx
      obtain ⟨bo, bc, hbf, _⟩ := hov.form
      obtain ⟨m, hm⟩ : ∃ m, m = x.ob.length := ⟨_, rfl⟩
      rw [← hm] at hbf hol
      have hcb : wr.cell? ⟨g, o + k * 35 + 2, none⟩ = some (.slice bo m bc) := by
        have h := hcells 2 x.bv rfl
        rw [HW.out.cell (block_lt_of_cell h), h, hbf]
      obtain ⟨q, hw1⟩ : ∃ q, IntKind.i64.wrap (1 + (m : Int)) = q := ⟨_, rfl⟩
      have hzq : IntKind.i64.wrap (z - q) = z - (1 + m : Nat) := by rw [← hw1, IntKind.wrap_i64, IntKind.wrap_i64]; omega
      have K25 : Hid (Calls Tryd.prog 25 #[.pointer (some ⟨C, 0, none⟩), .int .i64 q] wr fun e w' => ∃ q, e = .returned (.bool q) ∧ (CountAt w' C (z - (1 + m : Nat)) ∧ But C wr w')) :=
        (cadd_any C z q _ wr HCt.out h0 hzq).mono fun e w' ⟨⟨q, q1⟩, q2⟩ => ⟨q, q1, q2⟩
      clear hzq
      clear hcells hov hbf hk
      have HZ2 : Hid (z - (1 + m : Nat) = 32768 - (weight (L.take (k + 1)) : Int)) := by show _ = _; rw [weight_snoc L k x hx, HZ.out, ← hm]; omega
      have hCg : w.heap.size ≤ C := by have := HC.out; omega
      clear hx hm
      go_wp2_with (first
        | (go_at_call 24; refine K24.out.mono ?_; rintro e w' ⟨rfl, rfl⟩)
        | (go_at_call 25; refine K25.out.mono ?_; rintro e w5 ⟨q, rfl, h5⟩; have H5 : Hid (CountAt w5 C (z - (1 + m : Nat)) ∧ Below w.heap.size w w5) := ⟨h5.1, HW.out.trans (h5.2.below hCg HW.out.size)⟩; clear h5))
      go_roundw
      case rel => exact ⟨k + 1, z - (1 + m : Nat), by omega, by go_num, by omega, HZ2.out, H5.out.1, H5.out.2⟩
      case measure => simp [intOf]; omega
    · by_cases h0 : z < 0
      · have hdz : decide (0 ≤ z) = false := by simp; omega
        rw [hdz] at K24
        by_cases hlt : k < n
        · have hkI : (k : Int) < (n : Int) := by omega
          go_wp2_with (go_at_call 24; refine K24.out.mono ?_; rintro e w' ⟨rfl, rfl⟩)
          go_ret
          exact ⟨rfl, HW.out⟩
        · have hkI : ¬ (k : Int) < (n : Int) := by omega
          go_wp2_with (go_at_call 24; refine K24.out.mono ?_; rintro e w' ⟨rfl, rfl⟩)
          go_ret
          exact ⟨rfl, HW.out⟩
      · have hdz : decide (0 ≤ z) = true := by simp; omega
        rw [hdz] at K24
        obtain rfl : k = n := by omega
        have hkI : ¬ (k : Int) < (k : Int) := by omega
        by_cases h200 : 200 < k
        · have h2I : (200 : Int) < (k : Int) := by omega
          go_wp2_with (go_at_call 24; refine K24.out.mono ?_; rintro e w' ⟨rfl, rfl⟩)
          go_ret
          exact ⟨rfl, HW.out⟩
        · have h2I : ¬ (200 : Int) < (k : Int) := by omega
          have HWT : Hid (weight L ≤ 32768) := by
            have h := HZ.out
            rw [HN.out, List.take_length] at h
            show _ ≤ _
            omega
          go_upto_region 8 with (go_at_call 24; refine K24.out.mono ?_; rintro e w' ⟨rfl, rfl⟩)
          refine step_world (fun W => Below w.heap.size w W) HW.out fun wa HHa => ?_
          have HA : Hid (Below w.heap.size w wa) := HHa
          clear HHa HW HCt HZ K24 hz hk hLl h0 hdz
          have hs3 := HT.out.size
          have C26 : Hid (∀ wz, Below w.heap.size w wz → Calls Tryd.prog 26 #[] wz fun e w' => e = .returned (.pointer (some ⟨wz.heap.size, 0, none⟩)) ∧ (HashAt w' wz.heap.size 98 [] ∧ Below wz.heap.size wz w')) := fun wz hz => (new_any wz (HT.out.up hz)).mono fun e w' ⟨q1, q2⟩ => ⟨q1, by rw [q2]; exact hash_new wz 98, by rw [q2]; exact (Below.refl _ wz).alloc (Nat.le_refl _) _⟩
          have C27 : Hid (∀ wz, Below w.heap.size w wz → Calls Tryd.prog 27 #[] wz fun e w' => e = .returned (.pointer (some ⟨wz.heap.size + 1, 0, none⟩)) ∧ (HashAt w' (wz.heap.size + 1) 100 [] ∧ Below wz.heap.size wz w')) := fun wz hz => (newPieces_any wz (HT.out.up hz)).mono fun e w' ⟨q1, q2⟩ => ⟨q1, by
            rw [q2]
            have := hash_new (wz.alloc (.cells hnew 98)) 100
            rw [show (wz.alloc (.cells hnew 98)).heap.size = wz.heap.size + 1 by simp] at this
            exact this, by rw [q2]; exact ((Below.refl _ wz).alloc (Nat.le_refl _) _).alloc (by simp) _⟩
          go_upto_region 9 with (first
            | (go_at_call 26; refine (C26.out _ HA.out).mono ?_; rintro e wb ⟨rfl, hb⟩; have HB : Hid (HashAt wb wa.heap.size 98 [] ∧ Below wa.heap.size wa wb) := hb; clear hb)
            | (go_at_call 27; refine (C27.out _ (Below.up HA.out HB.out.2)).mono ?_; rintro e wc ⟨rfl, hc⟩; have HCc : Hid (HashAt wc (wb.heap.size + 1) 100 [] ∧ HashAt wc wa.heap.size 98 [] ∧ Below wa.heap.size wa wc ∧ wa.heap.size < wb.heap.size) := ⟨hc.1, HB.out.1.below hc.2 HB.out.1.lt, HB.out.2.trans (hc.2.mono HB.out.2.size), HB.out.1.lt⟩; clear hc))
          obtain ⟨KH1, hKH1⟩ : ∃ x, x = wa.heap.size := ⟨_, rfl⟩
          obtain ⟨KP1, hKP1⟩ : ∃ x, x = wb.heap.size + 1 := ⟨_, rfl⟩
          obtain ⟨S1, hS1⟩ : ∃ x, x = wc.heap.size := ⟨_, rfl⟩
          rw [← hKH1, ← hKP1] at HCc
          rw [← hKH1, ← hKP1, ← hS1]
          have HD1 : Hid (KH1 = wa.heap.size ∧ KH1 < KP1 ∧ KP1 < S1 ∧ w.heap.size ≤ KH1 ∧ Below w.heap.size w wc) := ⟨hKH1, by have := HCc.out.2.2.2; omega, by have := HCc.out.1.lt; omega, by have := HA.out.size; omega, Below.up HA.out (by rw [← hKH1]; exact HCc.out.2.2.1)⟩
          have hsd1 : SideAt (wc.alloc (.cells #[.pointer (some ⟨KH1, 0, none⟩), .pointer (some ⟨KP1, 0, none⟩), .slice none 0 0, .slice none 0 0] 65)) w.heap.size S1 KH1 KP1 (.slice none 0 0) (.slice none 0 0) [] [] := by
            rw [hS1]
            exact side_new HCc.out.2.1 HCc.out.1 ⟨HD1.out.2.2.2.1, by have := HD1.out; omega⟩ (by have := HD1.out; omega) rfl
          refine step_world (fun W => SideAt W w.heap.size S1 KH1 KP1 (.slice none 0 0) (.slice none 0 0) [] [] ∧ Below w.heap.size w W ∧ W.heap.size = S1 + 1) ⟨hsd1, HD1.out.2.2.2.2.alloc HD1.out.2.2.2.2.size _, by rw [hS1]; simp⟩ fun wd HHd => ?_
          have HDd : Hid (SideAt wd w.heap.size S1 KH1 KP1 (.slice none 0 0) (.slice none 0 0) [] [] ∧ Below w.heap.size w wd ∧ wd.heap.size = S1 + 1) := HHd
          clear HHd hsd1 hKH1 hKP1 hS1 HB HCc HA
          go_upto_region 10 with (first
            | (go_at_call 26; refine (C26.out _ HDd.out.2.1).mono ?_; rintro e we ⟨rfl, he⟩; have HE : Hid (HashAt we wd.heap.size 98 [] ∧ Below wd.heap.size wd we) := he; clear he)
            | (go_at_call 27; refine (C27.out _ (Below.up HDd.out.2.1 HE.out.2)).mono ?_; rintro e wf ⟨rfl, hf⟩; have HF : Hid (HashAt wf (we.heap.size + 1) 100 [] ∧ HashAt wf wd.heap.size 98 [] ∧ Below wd.heap.size wd wf ∧ wd.heap.size < we.heap.size) := ⟨hf.1, HE.out.1.below hf.2 HE.out.1.lt, HE.out.2.trans (hf.2.mono HE.out.2.size), HE.out.1.lt⟩; clear hf))
          obtain ⟨KH2, hKH2⟩ : ∃ x, x = wd.heap.size := ⟨_, rfl⟩
          obtain ⟨KP2, hKP2⟩ : ∃ x, x = we.heap.size + 1 := ⟨_, rfl⟩
          obtain ⟨S2, hS2⟩ : ∃ x, x = wf.heap.size := ⟨_, rfl⟩
          rw [← hKH2, ← hKP2] at HF
          rw [← hKH2, ← hKP2, ← hS2]
          have HD2 : Hid (KH2 = S1 + 1 ∧ KH2 < KP2 ∧ KP2 < S2 ∧ Below w.heap.size w wf) := ⟨by have := HDd.out.2.2; omega, by have := HF.out.2.2.2; omega, by have := HF.out.1.lt; omega, Below.up HDd.out.2.1 (by rw [← hKH2]; exact HF.out.2.2.1)⟩
          have htwo : Two w (wf.alloc (.cells #[.pointer (some ⟨KH2, 0, none⟩), .pointer (some ⟨KP2, 0, none⟩), .slice none 0 0, .slice none 0 0] 65)) w.heap.size S1 KH1 KP1 S2 KH2 KP2 0 0 := by
            have hx : SideAt (wf.alloc (.cells #[.pointer (some ⟨KH2, 0, none⟩), .pointer (some ⟨KP2, 0, none⟩), .slice none 0 0, .slice none 0 0] 65)) w.heap.size S2 KH2 KP2 (.slice none 0 0) (.slice none 0 0) [] [] := by
              rw [hS2]
              exact side_new HF.out.2.1 HF.out.1 ⟨by have := HD1.out; have := HD2.out; omega, by have := HD1.out; have := HD2.out; omega⟩ (by have := HD2.out; omega) rfl
            have hb2 : Below wd.heap.size wd (wf.alloc (.cells #[.pointer (some ⟨KH2, 0, none⟩), .pointer (some ⟨KP2, 0, none⟩), .slice none 0 0, .slice none 0 0] 65)) := by
              have := HF.out.2.2.1
              rw [hKH2] at this
              exact this.alloc this.size _
            refine ⟨_, _, [], [], _, _, [], [], HDd.out.1.below hb2, hx, Nat.le_refl _, Nat.le_refl _, Nat.le_refl _, Nat.le_refl _, fun j h1 h2 => ?_, HD2.out.2.2.2.alloc HD2.out.2.2.2.size _⟩
            have q1 := HD1.out
            have q2 := HD2.out
            rcases h1 with h1 | h1 | h1 | h1 | h1
            · rcases h2 with h2 | h2 | h2 | h2 | h2
              · omega
              · omega
              · omega
              · cases h2
              · cases h2
            · rcases h2 with h2 | h2 | h2 | h2 | h2
              · omega
              · omega
              · omega
              · cases h2
              · cases h2
            · rcases h2 with h2 | h2 | h2 | h2 | h2
              · omega
              · omega
              · omega
              · cases h2
              · cases h2
            · cases h1
            · cases h1
          refine step_world (fun W => Two w W w.heap.size S1 KH1 KP1 S2 KH2 KP2 0 0) htwo fun wg HHg => ?_
          have HG : Hid (Two w wg w.heap.size S1 KH1 KP1 S2 KH2 KP2 0 0) := HHg
          obtain ⟨c1, c2, c3, c4⟩ : wg.cell? ⟨S1, 0, none⟩ = some (.pointer (some ⟨KH1, 0, none⟩)) ∧ wg.cell? ⟨S1, 1, none⟩ = some (.pointer (some ⟨KP1, 0, none⟩)) ∧ wg.cell? ⟨S2, 0, none⟩ = some (.pointer (some ⟨KH2, 0, none⟩)) ∧ wg.cell? ⟨S2, 1, none⟩ = some (.pointer (some ⟨KP2, 0, none⟩)) := by
            obtain ⟨bv1, pv1, b1, p1, bv2, pv2, b2, p2, a1, a2, _⟩ := HHg
            exact ⟨a1.cell.1, a1.cell.2.1, a2.cell.1, a2.cell.2.1⟩
          clear HHg htwo hKH2 hKP2 hS2 HE HF HDd HD1 HD2 C26 C27
          go_upto_region 12 with fail
          clear c1 c2 c3 c4
          go_wp2_with fail
          go_loopw [7] (fun i wr => ∃ (j : Nat), j ≤ k ∧ i = .int .i64 j ∧ Hid (Two w wr w.heap.size S1 KH1 KP1 S2 KH2 KP2 (weight (L.take j)) (32 * j))) (fun i _ => k - (intOf i).toNat)
          case atStart => exact ⟨0, by omega, rfl, HG.out⟩
          case round =>
            clear HG
            obtain ⟨j, hj, rfl, HG⟩ := hrel
            have hgw : Below w.heap.size w wr := by obtain ⟨_, _, _, _, _, _, _, _, _, _, _, _, _, _, _, q⟩ := HG.out; exact q
            have HGW : Hid (Below w.heap.size w wr) := hgw
            clear hgw
            by_cases hlt : j < k
            · have hjI : (j : Int) < (k : Int) := by omega
              obtain ⟨x, hx⟩ : ∃ x, L[j]? = some x := ⟨_, List.getElem?_eq_getElem (by have := HN.out; omega)⟩
              obtain ⟨g, o, rfl, hcells, hov, hob, hpc, hpb, _⟩ := HL.out j x hx
              have hwm : x.ob.length ≤ 32768 := Nat.le_trans (weight_mem L j x hx) HWT.out
              have hwj : weight (L.take j) ≤ 32768 := Nat.le_trans (weight_le L j) HWT.out
              have hwn := weight_snoc L j x hx
              have HWN : Hid (weight (L.take (j + 1)) ≤ 32768 ∧ weight (L.take j) + x.ob.length ≤ weight (L.take (j + 1)) ∧ 32 * j + 32 ≤ 32 * (j + 1) ∧ 32 * (j + 1) ≤ 6400) := ⟨Nat.le_trans (weight_le L (j + 1)) HWT.out, by omega, by omega, by omega⟩
              obtain ⟨cs, hcs⟩ : ∃ cs, cs = (opCells x.kind x.which x.bv x.pc).toList := ⟨_, rfl⟩
              have hcsA : cs.toArray = opCells x.kind x.which x.bv x.pc := by rw [hcs]
              have HCS : Hid (∀ wz, Below w.heap.size w wz → ∀ i v, cs[i]? = some v → wz.cell? ⟨g, o + j * 35 + i, none⟩ = some v) := fun wz hz i v hv => by
                have h := hcells i v (by rw [hcs] at hv; simpa using hv)
                rw [hz.cell (block_lt_of_cell h)]; exact h
              have HCZ : Hid ((Tryd.prog.info? 58).map (·.size) = some cs.length) := by
                show _ = _
                rw [hcs, show (opCells x.kind x.which x.bv x.pc).toList.length = 35 by simp [opCells, hpc]]; kernel_rfl
              obtain ⟨kd, hkd⟩ : ∃ kd, kd = x.kind := ⟨_, rfl⟩
              obtain ⟨wh, hwh⟩ : ∃ wh, wh = x.which := ⟨_, rfl⟩
              have HKD : Hid (∀ wz, Below w.heap.size w wz → wz.cell? ⟨g, o + j * 35, none⟩ = some (.int .i64 kd) ∧ wz.cell? ⟨g, o + j * 35 + 1, none⟩ = some (.int .i64 wh)) := fun wz hz => ⟨HCS.out wz hz 0 _ (by rw [hcs, hkd]; rfl), HCS.out wz hz 1 _ (by rw [hcs, hwh]; rfl)⟩
              have K1 : Hid (Calls Tryd.prog 28 #[.pointer (some ⟨S1, 0, none⟩), .agg cs.toArray] wr fun e w' => e = .returned (.bool true) ∧ Two w w' w.heap.size S1 KH1 KP1 S2 KH2 KP2 (weight (L.take (j + 1))) (32 * (j + 1))) := by
                rw [hcsA]
                refine (two_calls HG.out x (by omega) rfl HT.out hov hob hpc hpb (by omega) hwm (by omega)).mono fun e w' ⟨q1, q2⟩ => ⟨q1, ?_⟩
                exact Two.mono q2 HWN.out.2.1 HWN.out.2.2.1
              have K2 : Hid (Calls Tryd.prog 28 #[.pointer (some ⟨S2, 0, none⟩), .agg cs.toArray] wr fun e w' => e = .returned (.bool true) ∧ Two w w' w.heap.size S1 KH1 KP1 S2 KH2 KP2 (weight (L.take (j + 1))) (32 * (j + 1))) := by
                rw [hcsA]
                refine (two_calls HG.out.swap x (by omega) rfl HT.out hov hob hpc hpb (by omega) hwm (by omega)).mono fun e w' ⟨q1, q2⟩ => ⟨q1, ?_⟩
                exact Two.mono q2.swap HWN.out.2.1 HWN.out.2.2.1
              have A1 : Hid (∀ wz, (kd = 2 ∨ kd = 3 ∨ kd = 5) → Two w wz w.heap.size S1 KH1 KP1 S2 KH2 KP2 (weight (L.take (j + 1))) (32 * (j + 1)) → Calls Tryd.prog 28 #[.pointer (some ⟨S1, 0, none⟩), .agg cs.toArray] wz fun e w' => e = .returned (.bool true) ∧ Two w w' w.heap.size S1 KH1 KP1 S2 KH2 KP2 (weight (L.take (j + 1))) (32 * (j + 1))) := fun wz hk3 h => by
                rw [hcsA]
                exact two_asks h x (by rw [← hkd]; exact hk3) rfl HT.out (by have := HWN.out; omega) (by have := HWN.out; omega)
              have A2 : Hid (∀ wz, (kd = 2 ∨ kd = 3 ∨ kd = 5) → Two w wz w.heap.size S1 KH1 KP1 S2 KH2 KP2 (weight (L.take (j + 1))) (32 * (j + 1)) → Calls Tryd.prog 28 #[.pointer (some ⟨S2, 0, none⟩), .agg cs.toArray] wz fun e w' => e = .returned (.bool true) ∧ Two w w' w.heap.size S1 KH1 KP1 S2 KH2 KP2 (weight (L.take (j + 1))) (32 * (j + 1))) := fun wz hk3 h => by
                rw [hcsA]
                exact (two_asks h.swap x (by rw [← hkd]; exact hk3) rfl HT.out (by have := HWN.out; omega) (by have := HWN.out; omega)).mono fun e w' ⟨q1, q2⟩ => ⟨q1, q2.swap⟩
              have q1 := (HKD.out wr HGW.out).2
              have TWB : Hid (∀ wz nb np, Two w wz w.heap.size S1 KH1 KP1 S2 KH2 KP2 nb np → Below w.heap.size w wz) := fun wz nb np h => by obtain ⟨_, _, _, _, _, _, _, _, _, _, _, _, _, _, _, q⟩ := h; exact q
              clear hcells hov hob hpc hpb hwm hwj hwn hcs hcsA hkd hwh hx HG
              by_cases hw1 : wh = 1
              · subst hw1
                go_upto_region 20 with (first
                  | (go_at_call 28; refine K2.out.mono ?_; rintro e w5 ⟨rfl, h5⟩; have H5 : Hid (Two w w5 w.heap.size S1 KH1 KP1 S2 KH2 KP2 (weight (L.take (j + 1))) (32 * (j + 1))) := h5; clear h5)
                  | refine wpList_load_seg rfl 58 (.tmp 91) rfl g (o + j * 35) rfl cs (.struct (Tryd.prog.fieldsOf 58)) (HCS.out _ HGW.out) (by kernel_rfl) rfl HCZ.out ?_)
                have q0 := (HKD.out w5 (TWB.out _ _ _ H5.out)).1
                clear q1 K1 K2
                by_cases k2 : kd = 2
                · subst k2
                  go_wp2_with (first
                    | (go_at_call 28; refine (A2.out _ (by decide) H5.out).mono ?_; rintro e w6 ⟨rfl, h6⟩; have H6 : Hid (Two w w6 w.heap.size S1 KH1 KP1 S2 KH2 KP2 (weight (L.take (j + 1))) (32 * (j + 1))) := h6; clear h6)
                    | refine wpList_load_seg_g (by kernel_rfl) 58 (.tmp 114) rfl g (o + j * 35) rfl cs (.struct (Tryd.prog.fieldsOf 58)) (HCS.out _ (TWB.out _ _ _ H5.out)) (by kernel_rfl) rfl HCZ.out ?_)
                  go_roundw
                  case rel => exact ⟨j + 1, by omega, by go_num, H6.out⟩
                  case measure => simp [intOf]; omega
                by_cases k3 : kd = 3
                · subst k3
                  go_wp2_with (first
                    | (go_at_call 28; refine (A2.out _ (by decide) H5.out).mono ?_; rintro e w6 ⟨rfl, h6⟩; have H6 : Hid (Two w w6 w.heap.size S1 KH1 KP1 S2 KH2 KP2 (weight (L.take (j + 1))) (32 * (j + 1))) := h6; clear h6)
                    | refine wpList_load_seg_g (by kernel_rfl) 58 (.tmp 114) rfl g (o + j * 35) rfl cs (.struct (Tryd.prog.fieldsOf 58)) (HCS.out _ (TWB.out _ _ _ H5.out)) (by kernel_rfl) rfl HCZ.out ?_)
                  go_roundw
                  case rel => exact ⟨j + 1, by omega, by go_num, H6.out⟩
                  case measure => simp [intOf]; omega
                by_cases k5 : kd = 5
                · subst k5
                  go_wp2_with (first
                    | (go_at_call 28; refine (A2.out _ (by decide) H5.out).mono ?_; rintro e w6 ⟨rfl, h6⟩; have H6 : Hid (Two w w6 w.heap.size S1 KH1 KP1 S2 KH2 KP2 (weight (L.take (j + 1))) (32 * (j + 1))) := h6; clear h6)
                    | refine wpList_load_seg_g (by kernel_rfl) 58 (.tmp 114) rfl g (o + j * 35) rfl cs (.struct (Tryd.prog.fieldsOf 58)) (HCS.out _ (TWB.out _ _ _ H5.out)) (by kernel_rfl) rfl HCZ.out ?_)
                  go_roundw
                  case rel => exact ⟨j + 1, by omega, by go_num, H6.out⟩
                  case measure => simp [intOf]; omega
                have e2 : (kd == 2) = false := by simp [k2]
                have e3 : (kd == 3) = false := by simp [k3]
                have e5 : (kd == 5) = false := by simp [k5]
                go_wp2_with fail
                go_roundw
                case rel => exact ⟨j + 1, by omega, by go_num, H5.out⟩
                case measure => simp [intOf]; omega
              · have ew : (wh == 1) = false := by simp [hw1]
                go_upto_region 20 with (first
                  | (go_at_call 28; refine K1.out.mono ?_; rintro e w5 ⟨rfl, h5⟩; have H5 : Hid (Two w w5 w.heap.size S1 KH1 KP1 S2 KH2 KP2 (weight (L.take (j + 1))) (32 * (j + 1))) := h5; clear h5)
                  | refine wpList_load_seg rfl 58 (.tmp 91) rfl g (o + j * 35) rfl cs (.struct (Tryd.prog.fieldsOf 58)) (HCS.out _ HGW.out) (by kernel_rfl) rfl HCZ.out ?_)
                have q0 := (HKD.out w5 (TWB.out _ _ _ H5.out)).1
                clear q1 K1 K2
                by_cases k2 : kd = 2
                · subst k2
                  go_wp2_with (first
                    | (go_at_call 28; refine (A1.out _ (by decide) H5.out).mono ?_; rintro e w6 ⟨rfl, h6⟩; have H6 : Hid (Two w w6 w.heap.size S1 KH1 KP1 S2 KH2 KP2 (weight (L.take (j + 1))) (32 * (j + 1))) := h6; clear h6)
                    | refine wpList_load_seg_g (by kernel_rfl) 58 (.tmp 114) rfl g (o + j * 35) rfl cs (.struct (Tryd.prog.fieldsOf 58)) (HCS.out _ (TWB.out _ _ _ H5.out)) (by kernel_rfl) rfl HCZ.out ?_)
                  go_roundw
                  case rel => exact ⟨j + 1, by omega, by go_num, H6.out⟩
                  case measure => simp [intOf]; omega
                by_cases k3 : kd = 3
                · subst k3
                  go_wp2_with (first
                    | (go_at_call 28; refine (A1.out _ (by decide) H5.out).mono ?_; rintro e w6 ⟨rfl, h6⟩; have H6 : Hid (Two w w6 w.heap.size S1 KH1 KP1 S2 KH2 KP2 (weight (L.take (j + 1))) (32 * (j + 1))) := h6; clear h6)
                    | refine wpList_load_seg_g (by kernel_rfl) 58 (.tmp 114) rfl g (o + j * 35) rfl cs (.struct (Tryd.prog.fieldsOf 58)) (HCS.out _ (TWB.out _ _ _ H5.out)) (by kernel_rfl) rfl HCZ.out ?_)
                  go_roundw
                  case rel => exact ⟨j + 1, by omega, by go_num, H6.out⟩
                  case measure => simp [intOf]; omega
                by_cases k5 : kd = 5
                · subst k5
                  go_wp2_with (first
                    | (go_at_call 28; refine (A1.out _ (by decide) H5.out).mono ?_; rintro e w6 ⟨rfl, h6⟩; have H6 : Hid (Two w w6 w.heap.size S1 KH1 KP1 S2 KH2 KP2 (weight (L.take (j + 1))) (32 * (j + 1))) := h6; clear h6)
                    | refine wpList_load_seg_g (by kernel_rfl) 58 (.tmp 114) rfl g (o + j * 35) rfl cs (.struct (Tryd.prog.fieldsOf 58)) (HCS.out _ (TWB.out _ _ _ H5.out)) (by kernel_rfl) rfl HCZ.out ?_)
                  go_roundw
                  case rel => exact ⟨j + 1, by omega, by go_num, H6.out⟩
                  case measure => simp [intOf]; omega
                have e2 : (kd == 2) = false := by simp [k2]
                have e3 : (kd == 3) = false := by simp [k3]
                have e5 : (kd == 5) = false := by simp [k5]
                go_wp2_with fail
                go_roundw
                case rel => exact ⟨j + 1, by omega, by go_num, H5.out⟩
                case measure => simp [intOf]; omega
            · have hjI : ¬ (j : Int) < (k : Int) := by omega
              obtain rfl : j = k := by omega
              have hwj : weight (L.take j) ≤ 32768 := Nat.le_trans (weight_le L j) HWT.out
              obtain ⟨nb, hnb⟩ : ∃ nb, nb = weight (L.take j) := ⟨_, rfl⟩
              obtain ⟨np, hnp⟩ : ∃ np, np = 32 * j := ⟨_, rfl⟩
              rw [← hnb, ← hnp] at HG
              have HE0 : Hid (TwoE w (wr.alloc (.cells #[.int .i64 2, .int .i64 3, .int .i64 5] 3)) w.heap.size S1 KH1 KP1 S2 KH2 KP2 nb np wr.heap.size (.cells #[.int .i64 2, .int .i64 3, .int .i64 5] 3 (0, 0))) := twoE_new HG.out _ 3
              have hbd : nb ≤ 32768 ∧ np ≤ 6400 := by omega
              clear hnb hnp hwj
              go_upto_region 24 with fail
              refine step_world (fun W => TwoE w W w.heap.size S1 KH1 KP1 S2 KH2 KP2 nb np wr.heap.size (.cells #[.int .i64 2, .int .i64 3, .int .i64 5] 3 (0, 0))) HE0.out fun w8 HH8 => ?_
              obtain ⟨E, hE⟩ : ∃ E, E = wr.heap.size := ⟨_, rfl⟩
              rw [← hE] at HH8 ⊢
              have H8 : Hid (TwoE w w8 w.heap.size S1 KH1 KP1 S2 KH2 KP2 nb np E (.cells #[.int .i64 2, .int .i64 3, .int .i64 5] 3 (0, 0))) := HH8
              clear HH8 hE HE0 HG HGW
              go_loopw [121] (fun i wr => ∃ (m : Nat), m ≤ 3 ∧ i = .int .i64 m ∧ Hid (TwoE w wr w.heap.size S1 KH1 KP1 S2 KH2 KP2 nb np E (.cells #[.int .i64 2, .int .i64 3, .int .i64 5] 3 (0, 0)))) (fun i _ => 3 - (intOf i).toNat)
              case atStart => exact ⟨0, by omega, rfl, H8.out⟩
              case round =>
                clear H8
                obtain ⟨m, hm, rfl, HE⟩ := hrel
                by_cases hm3 : m < 3
                · have hmI : (m : Int) < 3 := by omega
                  obtain ⟨kk, hkk, hck⟩ : ∃ kk : Int, (kk = 2 ∨ kk = 3 ∨ kk = 5) ∧ wr.cell? ⟨E, m, none⟩ = some (.int .i64 kk) := by
                    obtain ⟨_, _, _, _, _, _, _, _, _, _, _, _, _, _, _, _, _, _, q⟩ := HE.out
                    have hc := cell_of_row _ _ m _ _ _ q
                    match m, hm3, hc with
                    | 0, _, hc => exact ⟨2, by decide, hc⟩
                    | 1, _, hc => exact ⟨3, by decide, hc⟩
                    | 2, _, hc => exact ⟨5, by decide, hc⟩
                  have A1 : Hid (∀ wz, TwoE w wz w.heap.size S1 KH1 KP1 S2 KH2 KP2 nb np E (.cells #[.int .i64 2, .int .i64 3, .int .i64 5] 3 (0, 0)) → Calls Tryd.prog 28 #[.pointer (some ⟨S1, 0, none⟩), .agg #[.int .i64 kk, .int .i64 0, .slice none 0 0, .int .u8 0, .int .u8 0, .int .u8 0, .int .u8 0, .int .u8 0, .int .u8 0, .int .u8 0, .int .u8 0, .int .u8 0, .int .u8 0, .int .u8 0, .int .u8 0, .int .u8 0, .int .u8 0, .int .u8 0, .int .u8 0, .int .u8 0, .int .u8 0, .int .u8 0, .int .u8 0, .int .u8 0, .int .u8 0, .int .u8 0, .int .u8 0, .int .u8 0, .int .u8 0, .int .u8 0, .int .u8 0, .int .u8 0, .int .u8 0, .int .u8 0, .int .u8 0]] wz fun e w' => e = .returned (.bool true) ∧ TwoE w w' w.heap.size S1 KH1 KP1 S2 KH2 KP2 nb np E (.cells #[.int .i64 2, .int .i64 3, .int .i64 5] 3 (0, 0))) := fun wz h =>
                    twoE_asks h ⟨kk, 0, .slice none 0 0, [], List.replicate 32 0⟩ hkk rfl HT.out (by omega) (by omega)
                  have A2 : Hid (∀ wz, TwoE w wz w.heap.size S1 KH1 KP1 S2 KH2 KP2 nb np E (.cells #[.int .i64 2, .int .i64 3, .int .i64 5] 3 (0, 0)) → Calls Tryd.prog 28 #[.pointer (some ⟨S2, 0, none⟩), .agg #[.int .i64 kk, .int .i64 0, .slice none 0 0, .int .u8 0, .int .u8 0, .int .u8 0, .int .u8 0, .int .u8 0, .int .u8 0, .int .u8 0, .int .u8 0, .int .u8 0, .int .u8 0, .int .u8 0, .int .u8 0, .int .u8 0, .int .u8 0, .int .u8 0, .int .u8 0, .int .u8 0, .int .u8 0, .int .u8 0, .int .u8 0, .int .u8 0, .int .u8 0, .int .u8 0, .int .u8 0, .int .u8 0, .int .u8 0, .int .u8 0, .int .u8 0, .int .u8 0, .int .u8 0, .int .u8 0, .int .u8 0]] wz fun e w' => e = .returned (.bool true) ∧ TwoE w w' w.heap.size S1 KH1 KP1 S2 KH2 KP2 nb np E (.cells #[.int .i64 2, .int .i64 3, .int .i64 5] 3 (0, 0))) := fun wz h =>
                    (twoE_asks h.swap ⟨kk, 0, .slice none 0 0, [], List.replicate 32 0⟩ hkk rfl HT.out (by omega) (by omega)).mono fun e w' ⟨q1, q2⟩ => ⟨q1, q2.swap⟩
                  clear hkk
                  go_wp2_with (first
                    | (go_at_call_of 28 (Value.pointer (some ⟨S1, 0, none⟩)); refine (A1.out _ HE.out).mono ?_; rintro e w9 ⟨rfl, h9⟩; have H9 : Hid (TwoE w w9 w.heap.size S1 KH1 KP1 S2 KH2 KP2 nb np E (.cells #[.int .i64 2, .int .i64 3, .int .i64 5] 3 (0, 0))) := h9; clear h9)
                    | (go_at_call_of 28 (Value.pointer (some ⟨S2, 0, none⟩)); refine (A2.out _ H9.out).mono ?_; rintro e wx ⟨rfl, hx⟩; have HX : Hid (TwoE w wx w.heap.size S1 KH1 KP1 S2 KH2 KP2 nb np E (.cells #[.int .i64 2, .int .i64 3, .int .i64 5] 3 (0, 0))) := hx; clear hx))
                  go_roundw
                  case rel => exact ⟨m + 1, by omega, by go_num, HX.out⟩
                  case measure => simp [intOf]; omega
                · have hmI : ¬ (m : Int) < 3 := by omega
                  have HB : Hid (Below w.heap.size w wr) := by obtain ⟨_, _, _, _, _, _, _, _, _, _, _, _, _, _, _, q, _⟩ := HE.out; exact q
                  go_wp2
                  go_ret
                  exact ⟨rfl, HB.out⟩
end Go.Proofs.YtmglopfjjbnfiaaDoor
