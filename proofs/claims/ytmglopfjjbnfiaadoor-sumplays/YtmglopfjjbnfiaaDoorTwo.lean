/-
  Two sides beside one another: a call on one of them.
-/
import Derived.Test.YtmglopfjjbnfiaaDoorPlays1
import Derived.Test.YtmglopfjjbnfiaaDoorCount
namespace Go.Proofs.YtmglopfjjbnfiaaDoor
open Go.RowKit

theorem Played.mono {w w' : World} {lo S KH KP : Nat} {bv pv : Value} {nb np nb' np' : Nat} (h : Played w w' lo S KH KP bv pv nb np) (h1 : nb ≤ nb') (h2 : np ≤ np') : Played w w' lo S KH KP bv pv nb' np' := by
  obtain ⟨bv', pv', b', p', a, b, c, d⟩ := h
  exact ⟨bv', pv', b', p', a, by omega, by omega, d⟩

/-- A call that only asks. -/
theorem asks_any (x : OpD) (hx : x.kind = 2 ∨ x.kind = 3 ∨ x.kind = 5) (lo S KH KP : Nat) (bv pv : Value) (b p : List Nat) (w : World) (hs : SideAt w lo S KH KP bv pv b p) (hT : Tabs w) (hb : b.length ≤ 90000) (hp : p.length ≤ 90000) :
    Calls Tryd.prog 28 #[.pointer (some ⟨S, 0, none⟩), .agg (opCells x.kind x.which x.bv x.pc)] w fun e w' => e = .returned (.bool true) ∧ Played w w' lo S KH KP bv pv b.length p.length := by
  obtain ⟨kind, which, ov, ob, pc⟩ := x
  simp only at hx ⊢
  rcases hx with rfl | rfl | rfl
  · exact plays_sum lo S KH KP bv pv ov b p pc which w hs hT hb
  · exact plays_len lo S KH KP bv pv ov b p pc which w hs hT
  · exact plays_psum lo S KH KP bv pv ov b p pc which w hs hT hp

theorem plays_any (x : OpD) (lo S KH KP : Nat) (bv pv : Value) (b p : List Nat) (wi w : World) (hs : SideAt w lo S KH KP bv pv b p) (hT : Tabs w) (hlo : 3 ≤ lo) (hwi : wi.heap.size ≤ lo) (hov : Has wi x.bv x.ob) (hbi : Below wi.heap.size wi w) (hob : Bytes x.ob) (hpc : x.pc.length = 32) (hpb : Bytes x.pc) (hb : b.length + x.ob.length ≤ 90000) (hol : x.ob.length ≤ 32768) (hp : p.length ≤ 90000) :
    Calls Tryd.prog 28 #[.pointer (some ⟨S, 0, none⟩), .agg (opCells x.kind x.which x.bv x.pc)] w fun e w' => e = .returned (.bool true) ∧ Played w w' lo S KH KP bv pv (b.length + x.ob.length) (p.length + 32) := by
  by_cases h235 : x.kind = 2 ∨ x.kind = 3 ∨ x.kind = 5
  · exact (asks_any x h235 lo S KH KP bv pv b p w hs hT (by omega) hp).mono fun e w' ⟨q1, q2⟩ => ⟨q1, q2.mono (by omega) (by omega)⟩
  · obtain ⟨kind, which, ov, ob, pc⟩ := x
    simp only at *
    by_cases h1 : kind = 1
    · subst h1
      exact (plays_add lo S KH KP bv pv ov b p pc ob which wi w hs hT hlo hwi hov hbi hob hb hol).mono fun e w' ⟨q1, q2⟩ => ⟨q1, q2.mono (by omega) (by omega)⟩
    · by_cases h4 : kind = 4
      · subst h4
        exact (plays_piece lo S KH KP bv pv ov b p pc which w hs hT hlo hp hpc hpb).mono fun e w' ⟨q1, q2⟩ => ⟨q1, q2.mono (by omega) (by omega)⟩
      · exact (plays_none lo S KH KP bv pv ov b p pc kind which w hs hT h1 (fun e => h235 (.inl e)) (fun e => h235 (.inr (.inl e))) h4 (fun e => h235 (.inr (.inr e)))).mono fun e w' ⟨q1, q2⟩ => ⟨q1, q2.mono (by omega) (by omega)⟩

/-- Two sides, apart from one another. -/
def Two (w wr : World) (lo S1 KH1 KP1 S2 KH2 KP2 nb np : Nat) : Prop :=
  ∃ bv1 pv1 b1 p1 bv2 pv2 b2 p2, SideAt wr lo S1 KH1 KP1 bv1 pv1 b1 p1 ∧ SideAt wr lo S2 KH2 KP2 bv2 pv2 b2 p2 ∧ b1.length ≤ nb ∧ b2.length ≤ nb ∧ p1.length ≤ np ∧ p2.length ≤ np ∧ (∀ j, foot S1 KH1 KP1 bv1 pv1 j → ¬ foot S2 KH2 KP2 bv2 pv2 j) ∧ Below lo w wr

theorem Two.swap {w wr : World} {lo S1 KH1 KP1 S2 KH2 KP2 nb np : Nat} (h : Two w wr lo S1 KH1 KP1 S2 KH2 KP2 nb np) : Two w wr lo S2 KH2 KP2 S1 KH1 KP1 nb np := by
  obtain ⟨bv1, pv1, b1, p1, bv2, pv2, b2, p2, a1, a2, a3, a4, a5, a6, a7, a8⟩ := h
  exact ⟨bv2, pv2, b2, p2, bv1, pv1, b1, p1, a2, a1, a4, a3, a6, a5, fun j h1 h2 => a7 j h2 h1, a8⟩

theorem two_played {w wr w' : World} {lo S1 KH1 KP1 S2 KH2 KP2 nb np nb' np' : Nat} {bv1 pv1 : Value} {bv2 pv2 : Value} {b2 p2 : List Nat} {b1 p1 : List Nat} (h1 : SideAt wr lo S1 KH1 KP1 bv1 pv1 b1 p1) (h2 : SideAt wr lo S2 KH2 KP2 bv2 pv2 b2 p2) (hb2 : b2.length ≤ nb) (hp2 : p2.length ≤ np) (hd : ∀ j, foot S1 KH1 KP1 bv1 pv1 j → ¬ foot S2 KH2 KP2 bv2 pv2 j) (hw : Below lo w wr)
    (hnb : nb ≤ nb') (hnp : np ≤ np') (hpl : Played wr w' lo S1 KH1 KP1 bv1 pv1 nb' np') : Two w w' lo S1 KH1 KP1 S2 KH2 KP2 nb' np' := by
  obtain ⟨bv', pv', b', p', c1, c2, c3, c4, c5⟩ := hpl
  refine ⟨bv', pv', b', p', bv2, pv2, b2, p2, c1, h2.keep fun k hk => c4.block k (h2.foot_lt hk).2 (fun hf => hd k hf hk), c2, by omega, c3, by omega, fun j hj h2j => ?_, ?_⟩
  · rcases c5 j hj with h | h
    · exact hd j h h2j
    · have := (h2.foot_lt h2j).2; omega
  · refine hw.trans (c4.below ?_ fun k hk => (h1.foot_lt hk).1)
    have := h1.foot_lt (k := S1) (.inl rfl); omega

theorem two_calls {w wr : World} {lo S1 KH1 KP1 S2 KH2 KP2 nb np : Nat} (h : Two w wr lo S1 KH1 KP1 S2 KH2 KP2 nb np) (x : OpD) (hlo : 3 ≤ lo) (hlw : lo = w.heap.size) (hT : Tabs w) (hov : Has w x.bv x.ob) (hob : Bytes x.ob) (hpc : x.pc.length = 32) (hpb : Bytes x.pc) (hnb : nb + x.ob.length ≤ 90000) (hol : x.ob.length ≤ 32768) (hnp : np ≤ 90000) :
    Calls Tryd.prog 28 #[.pointer (some ⟨S1, 0, none⟩), .agg (opCells x.kind x.which x.bv x.pc)] wr fun e w' => e = .returned (.bool true) ∧ Two w w' lo S1 KH1 KP1 S2 KH2 KP2 (nb + x.ob.length) (np + 32) := by
  obtain ⟨bv1, pv1, b1, p1, bv2, pv2, b2, p2, a1, a2, a3, a4, a5, a6, a7, a8⟩ := h
  have hbl : Below w.heap.size w wr := by rw [← hlw]; exact a8
  exact (plays_any x lo S1 KH1 KP1 bv1 pv1 b1 p1 w wr a1 (hT.up hbl) hlo (by omega) hov hbl hob hpc hpb (by omega) hol (by omega)).mono fun e w' ⟨q1, q2⟩ => ⟨q1, two_played a1 a2 a4 a6 a7 a8 (by omega) (by omega) (q2.mono (by omega) (by omega))⟩

theorem two_asks {w wr : World} {lo S1 KH1 KP1 S2 KH2 KP2 nb np : Nat} (h : Two w wr lo S1 KH1 KP1 S2 KH2 KP2 nb np) (x : OpD) (hx : x.kind = 2 ∨ x.kind = 3 ∨ x.kind = 5) (hlw : lo = w.heap.size) (hT : Tabs w) (hnb : nb ≤ 90000) (hnp : np ≤ 90000) :
    Calls Tryd.prog 28 #[.pointer (some ⟨S1, 0, none⟩), .agg (opCells x.kind x.which x.bv x.pc)] wr fun e w' => e = .returned (.bool true) ∧ Two w w' lo S1 KH1 KP1 S2 KH2 KP2 nb np := by
  obtain ⟨bv1, pv1, b1, p1, bv2, pv2, b2, p2, a1, a2, a3, a4, a5, a6, a7, a8⟩ := h
  have hbl : Below w.heap.size w wr := by rw [← hlw]; exact a8
  exact (asks_any x hx lo S1 KH1 KP1 bv1 pv1 b1 p1 wr a1 (hT.up hbl) (by omega) (by omega)).mono fun e w' ⟨q1, q2⟩ => ⟨q1, two_played a1 a2 a4 a6 a7 a8 (by omega) (by omega) (q2.mono (by omega) (by omega))⟩

/-- A new side. -/
theorem side_new {wb wd : World} {lo KH KP : Nat} (hH : HashAt wb KH 98 []) (hP : HashAt wb KP 100 []) (hl : lo ≤ KH ∧ lo ≤ KP) (hne : KH ≠ KP) (hd : wd = wb.alloc (.cells (sideRow KH KP (.slice none 0 0) (.slice none 0 0)) 65)) :
    SideAt wd lo wb.heap.size KH KP (.slice none 0 0) (.slice none 0 0) [] [] := by
  have hb : Below wb.heap.size wb wd := by rw [hd]; exact (Below.refl _ wb).alloc (Nat.le_refl _) _
  have h1 := hH.lt
  have h2 := hP.lt
  refine ⟨by rw [hd]; exact heap_alloc_new _ _, hH.below hb h1, hP.below hb h2, Owns.nil _ _, Owns.nil _ _, ⟨by omega, hl.1, hl.2⟩, ⟨by omega, by omega, hne⟩, fun k hk => by simp [Value.ownBlock] at hk, fun k hk => by simp [Value.ownBlock] at hk, fun x hx => by simp at hx, fun x hx => by simp at hx⟩
end Go.Proofs.YtmglopfjjbnfiaaDoor
