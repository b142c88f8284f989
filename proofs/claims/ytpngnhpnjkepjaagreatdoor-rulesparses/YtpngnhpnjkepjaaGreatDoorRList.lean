/-
  slices.Clone at rules, List by contract.
-/
import Derived.Test.YtpngnhpnjkepjaaGreatDoorRParse
namespace Go.Proofs.YtpngnhpnjkepjaaGreatDoor
open Go.RowKit
attribute [local go_sem] run_store_func

theorem HasR.cellsAt {w : World} {g cap : Nat} {L : List Ru} (h : HasR w (.slice (some ⟨g, 0, none⟩) L.length cap) L) : ∀ (j : Nat) (u : Value), (rcs L)[j]? = some u → w.cell? ⟨g, j, none⟩ = some u := by
  intro j u hj
  rcases h with ⟨e, _⟩ | ⟨_, g2, cp, e, _, hc⟩
  · cases e
  · cases e
    have hl := (List.getElem?_eq_some_iff.1 hj).1
    rw [rcs_len] at hl
    obtain ⟨r, hr⟩ : ∃ r, L[j / 2]? = some r := ⟨_, List.getElem?_eq_getElem (by omega)⟩
    have h1 := hc _ r hr
    have h2 := rcs_at hr
    rcases Nat.mod_two_eq_zero_or_one j with e | e
    · have : j = j / 2 * 2 := by omega
      rw [this] at hj ⊢
      rw [h2.1] at hj
      rw [← hj]; exact h1.1
    · have : j = j / 2 * 2 + 1 := by omega
      rw [this] at hj ⊢
      rw [h2.2] at hj
      rw [← hj]; exact h1.2
theorem rcs_one (L : List Ru) : ∀ u ∈ rcs L, u.oneCell' = true := by
  intro u hu
  unfold rcs at hu
  obtain ⟨l, hl, hu⟩ := List.mem_flatten.1 hu
  obtain ⟨r, _, rfl⟩ := List.mem_map.1 hl
  simp [rc] at hu
  rcases hu with rfl | rfl <;> rfl
set_option maxHeartbeats 1000000 in
set_option maxRecDepth 100000 in
theorem cloneR_any (v : Value) (L : List Ru) (w : World) (hv : HasR w v L) (hn : L.length ≤ 1048576) :
    Calls Tryz.prog 22 #[v] w fun e w' => ∃ v', e = .returned v' ∧ OwnsR w' w.heap.size v' L ∧ (L = [] → v' = .slice none 0 0) ∧ Below w.heap.size w w' := by
  obtain ⟨i0, hi, hz0, hz1, hz2⟩ := info_parts Tryz.info57
  have q23 : ∀ (w : World) (a : Option Addr) (n c n' c' : Nat), (binOp .eql 22 (.slice a n c) (.slice none n' c')).run Tryz.prog w = .ok (.bool a.isNone) w := fun w a n c n' c' => Lib.run_eql_slice_nil w _ _ a n c n' c' Tryz.underlying22
  rcases hv with ⟨rfl, rfl⟩ | ⟨hne, g, cap, rfl, hg, hc⟩
  · go_enter Tryz.func22, Tryz.ntmps22
    go_wp2
    go_ret
    exact ⟨_, rfl, World.ownsRow_nil _ _ _ _, fun _ => rfl, Below.refl _ _⟩
  · have hcs : ∀ (j : Nat) (u : Value), (rcs L)[j]? = some u → w.cell? ⟨g, j, none⟩ = some u := HasR.cellsAt (cap := cap) (.inr ⟨hne, g, cap, rfl, hg, hc⟩)
    have HC : Hid (∀ (j : Nat) (u : Value), (rcs L)[j]? = some u → w.cell? ⟨g, j, none⟩ = some u) := hcs
    have hl := rcs_len L
    clear hc hcs
    go_enter Tryz.func22, Tryz.ntmps22
    go_wp2_with (at_builtin; refine wpList_append_own _ rfl _ _ 22 rfl w.heap.size 57 i0 (.agg #[.int .i64 0, .string ⟨#[]⟩]) 2 24 Tryz.underlying22 hi hz0 hz1 hz2 rfl (by decide) _ 0 [] rfl (World.ownsRow_made w #[] 0 (Nat.le_refl _) (Nat.zero_le _) rfl) ⟨g, 0, none⟩ L.length cap (rcs L) rfl hl ?c1 ?c2 ?c3 ?c4 ?c5 ?_)
    case c1 =>
      intro j u hj
      rw [show (⟨g, 0, none⟩ : Addr).add j = ⟨g, j, none⟩ from by cases j <;> simp [Addr.add]]
      exact cell_alloc_l _ (HC.out j u hj)
    case c2 => exact rcs_one L
    case c3 => unfold maxLen; omega
    case c4 => omega
    case c5 => simp
    intro v' w1 hown' hgrow _
    have R1 : OwnsR w1 w.heap.size v' L := by
      unfold OwnsR
      simpa using hown'
    have R2 : Below w.heap.size w w1 := ((Below.refl _ w).alloc (Nat.le_refl _) _).grown hgrow (by simp) (fun k hk => by simp [Value.ownBlock] at hk; omega)
    clear hown' hgrow
    go_wp2
    go_ret
    exact ⟨_, rfl, R1, fun e => absurd e hne, R2⟩
theorem one_heap3 {w : World} {p : Nat} {v a b : Value} {T : TypeId} (h : w.heap[p]? = some (.cells #[v, a, b] T)) : w.cell? ⟨p, 0, none⟩ = some v := (three_heap h).1
set_option maxRecDepth 100000 in
/-- List -/
theorem list_any (p : Nat) (L : List Ru) (w : World) (h : IsL w p L) (hn : L.length ≤ 1048576) :
    Calls Tryz.prog 15 #[.pointer (some ⟨p, 0, none⟩)] w fun e w' => ∃ v', e = .returned v' ∧ OwnsR w' w.heap.size v' L ∧ (L = [] → v' = .slice none 0 0) ∧ Below w.heap.size w w' := by
  obtain ⟨v, sv, pv, h1, h2⟩ := h
  have c0 := one_heap3 h1
  have C := cloneR_any v L w h2 hn
  obtain ⟨ao, cap, rfl⟩ := h2.form
  go_enter Tryz.func15, Tryz.ntmps15
  go_wp2_with (go_at_call 22; refine C.mono ?_; rintro e w1 ⟨v', rfl, a1, a2, a3⟩)
  go_ret
  exact ⟨_, rfl, a1, a2, a3⟩
end Go.Proofs.YtpngnhpnjkepjaaGreatDoor
