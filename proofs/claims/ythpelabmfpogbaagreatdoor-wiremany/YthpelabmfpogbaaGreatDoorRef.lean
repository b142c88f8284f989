/-
  The reference's reader: Read, fail, At, Raw, Byte, End.
-/
import Derived.Test.YthpelabmfpogbaaGreatDoorRaw
import Derived.Test.YthpelabmfpogbaaGreatDoorHelp
namespace Go.Proofs.YthpelabmfpogbaaGreatDoor
open Go.RowKit Wire

/-- The reference's reader at block M: its bytes l (in a row of its own below M), how many are taken, its fault and its place. -/
def RfS (w : World) (lo M : Nat) (l : List Int) (s : St) : Prop :=
  ∃ v, w.heap[M]? = some (.cells #[v, .int .i64 s.p, .int .i64 s.fe, .int .i64 s.fa] 79 (0, 0)) ∧ Owns w lo v l ∧ (∀ k, v.ownBlock = some k → k < M) ∧ lo ≤ M ∧ s.p ≤ l.length ∧ l.length ≤ 1048576

theorem rcells_of {w : World} {R : Nat} {c0 c1 c2 c3 : Value} (h : w.heap[R]? = some (.cells #[c0, c1, c2, c3] 79 (0, 0))) :
    w.cell? ⟨R, 0, none⟩ = some c0 ∧ w.cell? ⟨R, 1, none⟩ = some c1 ∧ w.cell? ⟨R, 2, none⟩ = some c2 ∧ w.cell? ⟨R, 3, none⟩ = some c3 ∧ (∀ o, w.frozen? ⟨R, o, none⟩ = false) := by
  refine ⟨?_, ?_, ?_, ?_, ?_⟩ <;> simp [World.cell?, World.frozen?, h]

theorem RfS.lt {w : World} {lo R : Nat} {l : List Int} {s : St} (h : RfS w lo R l s) : R < w.heap.size := by
  obtain ⟨v, hh, _⟩ := h
  exact (Array.getElem?_eq_some_iff.1 hh).1

theorem RfS.kept {w w' : World} {lo R : Nat} {l : List Int} {s : St} (h : RfS w lo R l s) (hb : ∀ k, lo ≤ k → k ≤ R → w'.heap[k]? = w.heap[k]?) : RfS w' lo R l s := by
  obtain ⟨v, hh, ho, hk, hl, hr⟩ := h
  exact ⟨v, (hb R hl (Nat.le_refl _)).trans hh, ho.block (fun k e => hb k (ho.lt k e).1 (Nat.le_of_lt (hk k e))), hk, hl, hr⟩

theorem RfS.drewN {w : World} {lo R : Nat} {l : List Int} {s : St} (h : RfS w lo R l s) (n : Nat) : RfS (w.drewN n) lo R l s := h.kept fun _ _ _ => rfl
theorem grown_drewN (w : World) (n : Nat) (r : Option Nat) : w.grownBy (w.drewN n) r := ⟨rfl, rfl, rfl, Nat.le_refl _, fun _ _ _ => rfl⟩

set_option maxHeartbeats 400000 in
set_option maxRecDepth 100000 in
theorem refAt_any (lo M : Nat) (l : List Int) (s : St) (w : World) (hr : RfS w lo M l s) :
    Calls Tryz.prog 58 #[.pointer (some ⟨M, 0, none⟩)] w fun e w' => e = .returned (.int .i64 s.p) ∧ w' = w := by
  obtain ⟨v, hh, ho, hk, hl, hp, hn⟩ := hr
  obtain ⟨h0, h1, h2, h3, hfz⟩ := rcells_of hh
  clear hh ho hk h0 h2 h3
  go_enter Tryz.func58, Tryz.ntmps58
  go_wp2
  go_ret
  exact ⟨rfl, rfl⟩

set_option maxHeartbeats 400000 in
set_option maxRecDepth 100000 in
theorem refFail_any (lo M : Nat) (l : List Int) (s : St) (P E : Int) (w : World) (hr : RfS w lo M l s) :
    Calls Tryz.prog 98 #[.pointer (some ⟨M, 0, none⟩), .int .i64 P, .int .i64 E] w fun e w' => e = .returned (.tuple #[]) ∧ RfS w' lo M l ⟨s.p, P, E⟩ ∧ w.grownBy w' (some M) := by
  obtain ⟨v, hh, ho, hk, hl, hp, hn⟩ := hr
  obtain ⟨h0, h1, h2, h3, hfz⟩ := rcells_of hh
  have hg : w.grownBy ((w.setCell ⟨M, 2, none⟩ (.int .i64 E)).setCell ⟨M, 3, none⟩ (.int .i64 P)) (some M) := grown_trans (grown_setCell _ _ _ _) (grown_setCell _ _ _ _)
  have F : RfS ((w.setCell ⟨M, 2, none⟩ (.int .i64 E)).setCell ⟨M, 3, none⟩ (.int .i64 P)) lo M l ⟨s.p, P, E⟩ := by
    refine ⟨v, ?_, ho.block fun k e => hg.block k (ho.lt k e).2 (fun e' => by have := hk k e; simp at e'; omega), hk, hl, hp, hn⟩
    have q1 := heap_setCell_at (o := 2) (.int .i64 E) hh
    have q2 := heap_setCell_at (o := 3) (.int .i64 P) q1
    rw [q2]; rfl
  clear hh ho hk h0 h1
  go_enter Tryz.func98, Tryz.ntmps98
  go_wp2
  go_end0
  exact ⟨rfl, F, hg⟩

set_option maxHeartbeats 400000 in
set_option maxRecDepth 100000 in
theorem refRead_any (vb : Value) (b : List Int) (w : World) (hb : Has w vb b) (hlen : b.length ≤ 1048576) :
    Calls Tryz.prog 17 #[vb] w fun e w' => ∃ R, e = .returned (.pointer (some ⟨R, 0, none⟩)) ∧ w.heap.size ≤ R ∧ RfS w' w.heap.size R b ⟨0, 0, 0⟩ ∧ Below w.heap.size w w' := by
  obtain ⟨ao, cap, hv, _⟩ := hb.form
  subst hv
  go_enter Tryz.func17, Tryz.ntmps17
  go_wp2_with (at_builtin; refine wpList_append_has rfl (.tmp 4) (.tmp 5) rfl w.heap.size _ _ [] b rfl rfl (Owns.nil _ _) hb (by simp; omega) (Nat.le_refl _) ?_)
  intro v1 w1 ho1 hb1
  obtain ⟨ao1, cp1, hv1, _⟩ := ho1.has.form
  subst hv1
  have hb2 : Below w1.heap.size w1 (w1.alloc (.cells #[.slice ao1 b.length cp1, .int .i64 0, .int .i64 0, .int .i64 0] 79)) := (Below.refl _ _).alloc (Nat.le_refl _) _
  have R1 : RfS (w1.alloc (.cells #[.slice ao1 b.length cp1, .int .i64 0, .int .i64 0, .int .i64 0] 79)) w.heap.size w1.heap.size b ⟨0, 0, 0⟩ :=
    ⟨_, heap_alloc_new w1 _, ho1.below hb2 (Nat.le_refl _), fun k hk => (ho1.lt k hk).2, hb1.size, Nat.zero_le _, hlen⟩
  have R2 := Below.up hb1 hb2
  have R3 := hb1.size
  clear hb2 ho1 hb1 hb
  go_wp2
  go_ret
  exact ⟨_, rfl, R3, R1, R2⟩

set_option maxHeartbeats 400000 in
set_option maxRecDepth 100000 in
theorem refEnd_any (lo M : Nat) (l : List Int) (s : St) (w : World) (hr : RfS w lo M l s) :
    Calls Tryz.prog 68 #[.pointer (some ⟨M, 0, none⟩)] w fun e w' => e = .returned (.tuple #[]) ∧ RfS w' lo M l (endS l s) ∧ w.grownBy w' (some M) := by
  have HR : Hid (RfS w lo M l s) := hr
  obtain ⟨p, fa, fe⟩ := s
  obtain ⟨v, hh, ho, hk, hl, hp, hn⟩ := hr
  obtain ⟨ao, cap, hv, hcap⟩ := ho.has.form
  subst hv
  obtain ⟨h0, h1, h2, h3, hfz⟩ := rcells_of hh
  simp only at h1 h2 h3 hp
  clear hh ho hk
  by_cases hf : fe = 0
  · subst hf
    by_cases hpl : p < l.length
    · have e1 : endS l ⟨p, fa, 0⟩ = ⟨p, p, 13⟩ := by simp [endS, hpl]
      rw [e1]
      go_enter Tryz.func68, Tryz.ntmps68
      go_wp2_with fail
      go_quiet (fail)
      go_wp2_with (go_at_call 98; refine (refFail_any lo M l _ _ _ _ (RfS.drewN HR.out _)).mono ?_; rintro e w1 ⟨rfl, hr1, hg1⟩)
      go_end0
      exact ⟨rfl, hr1, ⟨hg1.os, hg1.tape, hg1.output, hg1.size, hg1.block⟩⟩
    · have e1 : endS l ⟨p, fa, 0⟩ = ⟨p, fa, 0⟩ := by simp [endS, hpl]
      rw [e1]
      go_enter Tryz.func68, Tryz.ntmps68
      go_wp2_with fail
      go_quiet (fail)
      go_wp2
      go_end0
      exact ⟨rfl, RfS.drewN HR.out _, grown_drewN _ _ _⟩
  · have e1 : endS l ⟨p, fa, fe⟩ = ⟨p, fa, fe⟩ := by simp [endS, hf]
    rw [e1]
    have hfb : (fe == 0) = false := by simpa using hf
    go_enter Tryz.func68, Tryz.ntmps68
    go_wp2_with fail
    go_quiet (fail)
    go_wp2
    go_end0
    exact ⟨rfl, RfS.drewN HR.out _, grown_drewN _ _ _⟩
end Go.Proofs.YthpelabmfpogbaaGreatDoor
