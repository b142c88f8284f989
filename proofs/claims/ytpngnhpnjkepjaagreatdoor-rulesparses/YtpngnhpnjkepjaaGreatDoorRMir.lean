/-
  Mirror, None by contract.
-/
import Derived.Test.YtpngnhpnjkepjaaGreatDoorRList
namespace Go.Proofs.YtpngnhpnjkepjaaGreatDoor
open Go.RowKit

def mirK (k : Nat) : Nat := if k = 2 then 3 else if k = 3 then 2 else k
def mirR (L : List Ru) : List Ru := L.map fun r => (mirK r.1, r.2)
theorem mirK_mirK (k : Nat) : mirK (mirK k) = k := by
  unfold mirK
  repeat' split
  all_goals omega
theorem mirR_mirR (L : List Ru) : mirR (mirR L) = L := by
  unfold mirR
  rw [List.map_map]
  conv => rhs; rw [← List.map_id L]
  refine List.map_congr_left fun r _ => ?_
  simp [mirK_mirK]
theorem mirK_good {k : Nat} (h : k = 1 ∨ k = 2 ∨ k = 3) : mirK k = 1 ∨ mirK k = 2 ∨ mirK k = 3 := by
  rcases h with rfl | rfl | rfl <;> decide
theorem mirR_good {L : List Ru} (h : ∀ r ∈ L, r.1 = 1 ∨ r.1 = 2 ∨ r.1 = 3) : ∀ r ∈ mirR L, r.1 = 1 ∨ r.1 = 2 ∨ r.1 = 3 := by
  intro r hr
  obtain ⟨x, hx, rfl⟩ := List.mem_map.1 hr
  exact mirK_good (h x hx)
theorem mirR_len (L : List Ru) : (mirR L).length = L.length := by simp [mirR]
set_option maxRecDepth 100000 in
theorem mirrored_any (k : Nat) (w : World) (hk : k = 1 ∨ k = 2 ∨ k = 3) : Calls Tryz.prog 23 #[.int .i64 (k : Int)] w fun e w' => e = .returned (.int .i64 (mirK k : Int)) ∧ w' = w := by
  rcases hk with rfl | rfl | rfl
  all_goals
    go_enter Tryz.func23, Tryz.ntmps23
    go_wp2
    go_ret
    exact ⟨rfl, rfl⟩
set_option maxRecDepth 100000 in
theorem none_any (w : World) : Calls Tryz.prog 5 #[] w fun e w' => ∃ p, e = .returned (.pointer (some ⟨p, 0, none⟩)) ∧ IsNew w.heap.size w' p [] ∧ Below w.heap.size w w' := by
  have C := of_any (.slice none 0 0) [] w (.inl ⟨rfl, rfl⟩) (by simp) (by simp)
  go_enter Tryz.func5, Tryz.ntmps5
  go_wp2_with (go_at_call 14; refine C.mono ?_; rintro e w1 ⟨p, rfl, h1, h2⟩)
  go_ret
  obtain ⟨_, ⟨sv, pv, hb⟩, hge⟩ := h1
  exact ⟨p, rfl, ⟨_, sv, pv, hb, .inl ⟨rfl, rfl⟩, hge, fun b hb => by cases hb⟩, h2⟩
/-- so far -/
def mirN (L : List Ru) (n : Nat) : List Ru := (mirR L).take n ++ L.drop n
theorem mirN_len {L : List Ru} {n : Nat} (h : n ≤ L.length) : (mirN L n).length = L.length := by
  simp [mirN, mirR_len]; omega
theorem mirN_at {L : List Ru} {n : Nat} {r : Ru} (h : L[n]? = some r) : (mirN L n)[n]? = some r := by
  have hl := (List.getElem?_eq_some_iff.1 h).1
  unfold mirN
  rw [List.getElem?_append_right (by simp [mirR_len]; omega)]
  simp [mirR_len, Nat.min_eq_left (Nat.le_of_lt hl), h]
theorem rcs_set : ∀ (A : List Ru) (r : Ru) (B : List Ru) (k : Nat), (rcs (A ++ r :: B)).set (A.length * 2) (.int .i64 (k : Int)) = rcs (A ++ (k, r.2) :: B)
  | [], r, B, k => rfl
  | a :: A, r, B, k => by
    have ih := rcs_set A r B k
    have e1 : rcs ((a :: A) ++ r :: B) = .int .i64 (a.1 : Int) :: .string (ofB a.2) :: rcs (A ++ r :: B) := rfl
    have e2 : rcs ((a :: A) ++ (k, r.2) :: B) = .int .i64 (a.1 : Int) :: .string (ofB a.2) :: rcs (A ++ (k, r.2) :: B) := rfl
    rw [e1, e2, ← ih, List.length_cons, show (A.length + 1) * 2 = A.length * 2 + 1 + 1 from by omega]
    rfl
theorem mirN_set {L : List Ru} {n : Nat} {r : Ru} (h : L[n]? = some r) : (rcs (mirN L n)).set (n * 2) (.int .i64 (mirK r.1 : Int)) = rcs (mirN L (n + 1)) := by
  obtain ⟨hl, hr⟩ := List.getElem?_eq_some_iff.1 h
  have e1 : mirN L n = (mirR L).take n ++ r :: L.drop (n + 1) := by unfold mirN; rw [List.drop_eq_getElem_cons hl, hr]
  have e2 : mirN L (n + 1) = (mirR L).take n ++ (mirK r.1, r.2) :: L.drop (n + 1) := by
    unfold mirN
    rw [List.take_add_one]
    have : (mirR L)[n]? = some (mirK r.1, r.2) := by unfold mirR; rw [List.getElem?_map, h]; rfl
    rw [this]; simp
  have e3 : ((mirR L).take n).length = n := by simp [mirR_len]; omega
  have h4 := rcs_set ((mirR L).take n) r (L.drop (n + 1)) (mirK r.1)
  rw [e3] at h4
  rw [e1, e2]
  exact h4
theorem mirN_all (L : List Ru) : mirN L L.length = mirR L := by simp [mirN, ← mirR_len L]
theorem mirN_zero (L : List Ru) : mirN L 0 = L := by simp [mirN]
set_option maxHeartbeats 4000000 in
set_option maxRecDepth 100000 in
theorem mirror_any (p : Nat) (L : List Ru) (w : World) (h : IsL w p L) (hL : ∀ r ∈ L, r.1 = 1 ∨ r.1 = 2 ∨ r.1 = 3) (hn : L.length ≤ 64) :
    Calls Tryz.prog 8 #[.pointer (some ⟨p, 0, none⟩)] w fun e w' => ∃ q, e = .returned (.pointer (some ⟨q, 0, none⟩)) ∧ IsNew w.heap.size w' q (mirR L) ∧ Below w.heap.size w w' := by
  obtain ⟨v, sv, pv, h1, h2⟩ := h
  have c0 := one_heap3 h1
  obtain ⟨N, hN⟩ : ∃ N, L.length = N := ⟨_, rfl⟩
  have HN : Hid (L.length = N) := hN
  have C32 : Calls Tryz.prog 22 #[v] w fun e w1 => ∃ so sc, e = .returned (.slice so N sc) ∧ Hid (OwnsR w1 w.heap.size (.slice so N sc) L ∧ (L = [] → Value.slice so N sc = .slice none 0 0) ∧ Below w.heap.size w w1) := by
    refine (cloneR_any v L w h2 (by omega)).mono ?_
    rintro e w1 ⟨v1, rfl, ho, hnil, hb1⟩
    obtain ⟨so, sc, hvf⟩ := owns_form ho
    rw [hN] at hvf
    subst hvf
    exact ⟨so, sc, rfl, ho, hnil, hb1⟩
  obtain ⟨ao, cap, hvf⟩ := h2.form
  rw [hN] at hvf
  subst hvf
  have HL : Hid (∀ r ∈ L, r.1 = 1 ∨ r.1 = 2 ∨ r.1 = 3) := hL
  clear hL h1 h2 hN
  go_enter Tryz.func8, Tryz.ntmps8
  go_wp2_with (go_at_call 22; refine C32.mono ?_; rintro e w1 ⟨so, sc, rfl, HO⟩)
  go_loopw [12] (fun k wr => ∃ n : Nat, k = .int .i64 (n : Int) ∧ n ≤ N ∧ Hid (OwnsR wr w.heap.size (.slice so N sc) (mirN L n) ∧ Below w.heap.size w wr)) (fun k wr => N - iOf k)
  case atStart => exact ⟨0, rfl, Nat.zero_le _, by rw [mirN_zero]; exact HO.out.1, HO.out.2.2⟩
  case round =>
    obtain ⟨n, rfl, hnN, HS⟩ := hrel
    have hn64 : N ≤ 64 := by rw [← HN.out]; exact hn
    by_cases hlt : n < N
    · have i1 : (n : Int) < (N : Int) := by omega
      obtain ⟨r, hr⟩ : ∃ r, L[n]? = some r := ⟨_, List.getElem?_eq_getElem (by rw [HN.out]; exact hlt)⟩
      obtain ⟨g, rfl⟩ : ∃ g, so = some ⟨g, 0, none⟩ := by
        rcases HS.out.1.2 with ⟨e, _⟩ | ⟨g, _, _, e, _⟩
        · cases e; omega
        · cases e; exact ⟨g, rfl⟩
      have hml : (mirN L n).length = N := by rw [mirN_len (by rw [HN.out]; omega)]; exact HN.out
      have hown : wr.ownsRow w.heap.size 57 2 (.slice (some ⟨g, 0, none⟩) N sc) N (rcs (mirN L n)) := by have := HS.out.1; unfold OwnsR at this; rw [hml] at this; exact this
      have y0 : wr.cell? ⟨g, n * 2, none⟩ = some (.int .i64 (r.1 : Int)) := by rw [World.ownsRow.cellAt hown _ (by omega)]; exact (rcs_at (mirN_at hr)).1
      have y1 := World.ownsRow.frozenAt hown (n * 2)
      obtain ⟨st1, st2⟩ := World.ownsRow.stored hown (n * 2) (.int .i64 (mirK r.1 : Int))
      rw [mirN_set hr] at st1
      have hml2 : (mirN L (n + 1)).length = N := by rw [mirN_len (by rw [HN.out]; omega)]; exact HN.out
      have hgl := (World.ownsRow.lt hown g rfl).1
      have HS2 : Hid (OwnsR (wr.setCell ⟨g, n * 2, none⟩ (.int .i64 (mirK r.1 : Int))) w.heap.size (.slice (some ⟨g, 0, none⟩) N sc) (mirN L (n + 1)) ∧ Below w.heap.size w (wr.setCell ⟨g, n * 2, none⟩ (.int .i64 (mirK r.1 : Int)))) := by
        refine ⟨?_, HS.out.2.setCell (p := ⟨g, n * 2, none⟩) hgl _⟩
        unfold OwnsR
        rw [hml2]
        exact st1
      have C33 := fun W => mirrored_any r.1 W (HL.out r (List.mem_of_getElem? hr))
      generalize mirK r.1 = mk at *
      clear hr hml hown st1 st2 hml2 HS
      go_wp2_with (go_at_call 23; refine (C33 _).mono ?_; rintro e w2 ⟨rfl, rfl⟩)
      go_roundw
      case rel => exact ⟨n + 1, by go_num, by omega, HS2⟩
      case measure => simp; omega
    · have hn2 : n = N := by omega
      subst hn2
      have e := mirN_all L
      rw [HN.out] at e
      have hR : HasR wr (.slice so n sc) (mirR L) := by
        rw [← e]
        refine HS.out.1.has fun q => ?_
        have q2 : L = [] := by
          have := congrArg List.length q
          rw [mirN_len (by rw [HN.out]; exact Nat.le_refl _)] at this
          exact List.length_eq_zero_iff.1 this
        exact HO.out.2.1 q2
      have C31 := of_any (.slice so n sc) (mirR L) wr hR (mirR_good HL.out) (by rw [mirR_len]; omega)
      have HB : Hid (Below w.heap.size w wr ∧ HasR wr (.slice so n sc) (mirR L) ∧ ∀ b, (Value.slice so n sc).ownBlock = some b → w.heap.size ≤ b) := ⟨HS.out.2, hR, fun b hb => (World.ownsRow.lt HS.out.1 b hb).1⟩
      clear hR HS
      go_wp2_with (go_at_call 14; refine C31.mono ?_; rintro e w2 ⟨q, rfl, h1, h2⟩)
      go_ret
      obtain ⟨_, ⟨sv, pv, hb⟩, hge⟩ := h1
      exact ⟨q, rfl, ⟨_, sv, pv, hb, HB.out.2.1.up h2, Nat.le_trans HB.out.1.size hge, HB.out.2.2⟩, Below.up HB.out.1 h2⟩
end Go.Proofs.YtpngnhpnjkepjaaGreatDoor
