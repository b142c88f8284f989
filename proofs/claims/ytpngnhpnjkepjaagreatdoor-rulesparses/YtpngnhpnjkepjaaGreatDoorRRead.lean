/-
  word, cut, read by contract.
-/
import Derived.Test.YtpngnhpnjkepjaaGreatDoorRShelf
import Derived.Test.YtpngnhpnjkepjaaGreatDoorRN
namespace Go.Proofs.YtpngnhpnjkepjaaGreatDoor
open Go.RowKit

theorem Tryz.info57 : (Tryz.prog.info? 57).map (fun i => (i.zero, i.size, i.bytes)) = some (some (.agg #[.int .i64 0, .string ⟨#[]⟩]), 2, 24) := by kernel_rfl
/-- a rule's value -/
def rv (r : Ru) : Value := .agg #[.int .i64 (r.1 : Int), .string (ofB r.2)]
set_option maxRecDepth 100000 in
theorem word_any (k : Nat) (w : World) (hk : k = 1 ∨ k = 2 ∨ k = 3) : Calls Tryz.prog 46 #[.int .i64 (k : Int)] w fun e w' => e = .returned (.string (ofB (headB k))) ∧ w' = w := by
  rcases hk with rfl | rfl | rfl
  all_goals
    go_enter Tryz.func46, Tryz.ntmps46
    go_wp2
    go_ret
    exact ⟨rfl, rfl⟩
theorem two_heap {w : World} {g : Nat} {a b : Value} {T : TypeId} (h : w.heap[g]? = some (.cells #[a, b] T)) : w.cell? ⟨g, 0, none⟩ = some a ∧ w.cell? ⟨g, 1, none⟩ = some b ∧ w.frozen? ⟨g, 0, none⟩ = false ∧ w.frozen? ⟨g, 1, none⟩ = false := by
  simp [World.cell?, World.frozen?, h]
theorem two_new {w w1 : World} {a b : Value} {T : TypeId} (h : Below (w.alloc (.cells #[a, b] T)).heap.size (w.alloc (.cells #[a, b] T)) w1) : w1.heap[w.heap.size]? = some (.cells #[a, b] T) :=
  (h.block w.heap.size (by simp)).trans (World.alloc_heap_new w _)
theorem heap_up {w w' : World} {g : Nat} {x : Obj} (hg : w.heap[g]? = some x) (h : Below w.heap.size w w') : w'.heap[g]? = some x :=
  (h.block g (Array.getElem?_eq_some_iff.1 hg).1).trans hg
theorem heap_old {w : World} {g : Nat} {x : Obj} (o : Obj) (hg : w.heap[g]? = some x) : (w.alloc o).heap[g]? = some x :=
  (Below.heap_alloc w o g (Array.getElem?_eq_some_iff.1 hg).1).trans hg
def cutV (o : Option Ru) : Value := .tuple #[(match o with | some r => rv r | none => rv (0, [])), .bool o.isSome]
theorem cutR_at {l : By} {k : Nat} (hk : k = 1 ∨ k = 2 ∨ k = 3) (hn : ∀ j, 1 ≤ j → j < k → ¬ headB j <+: l) (h : headB k <+: l) : cutR l = some (k, l.drop (headB k).length) := by
  unfold cutR
  rcases hk with rfl | rfl | rfl
  · rw [if_pos h]; rfl
  · rw [if_neg (hn 1 (by omega) (by omega)), if_pos h]; rfl
  · rw [if_neg (hn 1 (by omega) (by omega)), if_neg (hn 2 (by omega) (by omega)), if_pos h]; rfl
theorem cutR_none {l : By} (hn : ∀ j, 1 ≤ j → j < 4 → ¬ headB j <+: l) : cutR l = none := by
  unfold cutR
  rw [if_neg (hn 1 (by omega) (by omega)), if_neg (hn 2 (by omega) (by omega)), if_neg (hn 3 (by omega) (by omega))]
theorem ofB_size (l : By) : (ofB l).size = l.length := by rw [← tl_len, tl_ofB]
set_option maxHeartbeats 1000000 in
set_option maxRecDepth 100000 in
theorem cut_any (s : ByteArray) (w : World) (hs : s.size ≤ 4000) :
    Calls Tryz.prog 51 #[.string s] w fun e w' => e = .returned (cutV (cutR (tl s))) ∧ Below w.heap.size w w' := by
  obtain ⟨i0, hi, hz0, hz1, hz2⟩ := info_parts Tryz.info57
  obtain ⟨C, hC⟩ : ∃ C, cutR (tl s) = C := ⟨_, rfl⟩
  have HC : Hid (cutR (tl s) = C) := hC
  rw [hC]
  clear hC
  go_enter Tryz.func51, Tryz.ntmps51
  go_wp2
  go_loopw [4] (fun k wr => ∃ n : Nat, k = .int .i64 (n : Int) ∧ 1 ≤ n ∧ n ≤ 4 ∧ Hid (∀ j, 1 ≤ j → j < n → ¬ headB j <+: tl s) ∧ wr = w.alloc (.cells #[.int .i64 0, .string ⟨#[]⟩] 57)) (fun k wr => 4 - iOf k)
  case atStart => exact ⟨1, rfl, Nat.le_refl _, by omega, fun j h1 h2 => by omega, rfl⟩
  case round =>
    obtain ⟨n, rfl, h1, h2, HN, rfl⟩ := hrel
    have hb0 : Below w.heap.size w (w.alloc (.cells #[.int .i64 0, .string ⟨#[]⟩] 57)) := (Below.refl _ w).alloc (Nat.le_refl _) _
    by_cases hlt : n ≤ 3
    · have i1 : (n : Int) ≤ 3 := by omega
      have hk : n = 1 ∨ n = 2 ∨ n = 3 := by omega
      have CW := fun W => word_any n W hk
      have hh : (headB n).length ≤ 9 := by rcases hk with rfl | rfl | rfl <;> decide
      by_cases hp : headB n <+: tl s
      · obtain ⟨r, hr⟩ := hp
        have hv : cutR (tl s) = some (n, (tl s).drop (headB n).length) := cutR_at hk HN.out ⟨r, hr⟩
        have CP := fun W => cutPrefix_yes s (ofB (headB n)) r W (by omega) (by rw [tl_ofB]; exact hr.symm)
        have hx : s.extract (ofB (headB n)).size s.size = ofB r := by
          refine ext_of _ _ ?_
          rw [tl_ofB, tl_extract, ofB_size, ← hr]
          simp
          rw [← tl_len, ← hr]; simp
        rw [hx] at CP
        have CC := fun W => clone_any (ofB r) W (by
          rw [ofB_size]
          have := congrArg List.length hr
          rw [List.length_append, tl_len] at this; omega)
        have hC : C = some (n, r) := by rw [← HC.out, hv, ← hr, List.drop_left]
        subst hC
        clear HN hr hx hv HC
        generalize ofB (headB n) = H at *
        go_wp2_with (first
          | (go_at_call 46; refine (CW _).mono ?_; rintro e w1 ⟨rfl, rfl⟩)
          | (go_at_call 83; refine (CP _).mono ?_; rintro e w1 ⟨rfl, rfl⟩)
          | (go_at_call 84; refine (CC _).mono ?_; rintro e w1 ⟨rfl, hg⟩; obtain ⟨c0, c1, f0, f1⟩ := two_heap (two_new hg)))
        refine ⟨rfl, _, ?_, rfl, ((hb0.trans (hg.mono (by simp))).setCell (p := ⟨w.heap.size, 0, none⟩) (Nat.le_refl _) _).setCell (p := ⟨w.heap.size, 1, none⟩) (Nat.le_refl _) _⟩
        simp [results, Tryz.f51, go_sem, c0, c1, cutV, rv]
      · have CP := fun W => cutPrefix_no s (ofB (headB n)) W (by omega) (by rw [ofB_size]; omega) (fun r q => hp ⟨r, by rw [tl_ofB] at q; exact q.symm⟩)
        have HN2 : Hid (∀ j, 1 ≤ j → j < n + 1 → ¬ headB j <+: tl s) := fun j h1 h2 => by
          by_cases e : j = n
          · subst e; exact hp
          · exact HN.out j h1 (by omega)
        clear hp
        generalize ofB (headB n) = H at *
        go_wp2_with (first
          | (go_at_call 46; refine (CW _).mono ?_; rintro e w1 ⟨rfl, rfl⟩)
          | (go_at_call 83; refine (CP _).mono ?_; rintro e w1 ⟨rfl, rfl⟩))
        go_roundw
        case rel => exact ⟨n + 1, by go_num, by omega, by omega, HN2, trivial⟩
        case measure => simp; omega
    · have hn : n = 4 := by omega
      subst hn
      have hC : C = none := by rw [← HC.out]; exact cutR_none HN.out
      subst hC
      clear HN HC
      obtain ⟨c0, c1, f0, f1⟩ := two_heap (World.alloc_heap_new w (.cells #[.int .i64 0, .string ⟨#[]⟩] 57))
      go_wp2
      refine ⟨rfl, _, ?_, rfl, hb0⟩
      simp [results, Tryz.f51, go_sem, c0, c1, cutV, rv]
      rfl
theorem matchV_root (p : By) : matchV p [] = (false, if patOK p = true then 0 else 32) := by
  unfold matchV
  by_cases h : patOK p = false
  · rw [if_pos h, if_neg (by rw [h]; simp)]
  · rw [if_neg h, if_neg (by decide), if_pos (by rfl), if_pos (by simpa using h)]
theorem cutR_size {l : By} {r : Ru} (h : cutR l = some r) : r.2.length ≤ l.length := by
  have := congrArg List.length (cutR_some h).1
  unfold lineR at this
  rw [List.length_append] at this; omega
set_option maxHeartbeats 1000000 in
set_option maxRecDepth 100000 in
theorem read_any (s : ByteArray) (n : Nat) (w : World) (hs : s.size ≤ 4000) (hn : n ≤ 4000) :
    Calls Tryz.prog 21 #[.string s, .int .i64 (n : Int)] w fun e w' => e = .returned (.tuple #[rv (readR (tl s) n).1, .int .i64 (readR (tl s) n).2]) ∧ Below w.heap.size w w' := by
  obtain ⟨i0, hi, hz0, hz1, hz2⟩ := info_parts Tryz.info57
  have C48 := fun W => cut_any s W hs
  have hb0 : Below w.heap.size w (w.alloc (.cells #[.int .i64 0, .string ⟨#[]⟩] 57)) := (Below.refl _ w).alloc (Nat.le_refl _) _
  obtain ⟨R, hR⟩ : ∃ R, readR (tl s) n = R := ⟨_, rfl⟩
  rw [hR]
  unfold readR at hR
  cases hc : cutR (tl s) with
  | none =>
    rw [hc] at hR C48
    subst hR
    clear hc
    go_enter Tryz.func21, Tryz.ntmps21
    go_wp2_with (first
      | (go_at_call 51; refine (C48 _).mono ?_; rintro e w1 ⟨rfl, hg⟩; unfold cutV rv; obtain ⟨c0, c1, f0, f1⟩ := two_heap (two_new hg); have hlt := hg.size; rw [World.size_alloc] at hlt; replace hlt : w.heap.size < w1.heap.size := hlt))
    refine ⟨rfl, _, ?_, rfl, (((hb0.trans (hg.mono (by simp))).setCell (p := ⟨w.heap.size, 0, none⟩) (Nat.le_refl _) _).setCell (p := ⟨w.heap.size, 1, none⟩) (Nat.le_refl _) _).alloc (by simp; omega) _⟩
    simp [results, Tryz.f21, go_sem, c0, c1, rv, hlt]
    rfl
  | some r =>
    have C49 := fun W => match_any (ofB r.2) ⟨#[]⟩ W (by rw [ofB_size]; have := cutR_size hc; rw [tl_len] at this; omega) (by decide)
    rw [tl_ofB, show tl ⟨#[]⟩ = [] from tl_ofB [], matchV_root] at C49
    rw [hc] at hR C48
    clear hc
    obtain ⟨k, p⟩ := r
    simp only at hR C49
    by_cases h1 : 64 ≤ n
    · rw [if_pos h1] at hR
      subst hR
      have i1 : (64 : Int) ≤ (n : Int) := by omega
      go_enter Tryz.func21, Tryz.ntmps21
      go_wp2_with (first
        | (go_at_call 51; refine (C48 _).mono ?_; rintro e w1 ⟨rfl, hg⟩; unfold cutV rv; obtain ⟨c0, c1, f0, f1⟩ := two_heap (two_new hg); have hlt := hg.size; rw [World.size_alloc] at hlt; replace hlt : w.heap.size < w1.heap.size := hlt))
      refine ⟨rfl, _, ?_, rfl, (((hb0.trans (hg.mono (by simp))).setCell (p := ⟨w.heap.size, 0, none⟩) (Nat.le_refl _) _).setCell (p := ⟨w.heap.size, 1, none⟩) (Nat.le_refl _) _).alloc (by simp; omega) _⟩
      simp [results, Tryz.f21, go_sem, c0, c1, rv, hlt]
      rfl
    · rw [if_neg h1] at hR
      have i1 : (n : Int) < 64 := by omega
      by_cases h2 : patOK p = true
      · rw [if_pos h2] at hR
        rw [if_pos h2] at C49
        subst hR
        go_enter Tryz.func21, Tryz.ntmps21
        go_wp2_with (first
          | (go_at_call 51; refine (C48 _).mono ?_; rintro e w1 ⟨rfl, hg⟩; unfold cutV rv; obtain ⟨c0, c1, f0, f1⟩ := two_heap (two_new hg); have hlt := hg.size; rw [World.size_alloc] at hlt; replace hlt : w.heap.size < w1.heap.size := hlt)
          | (go_at_call 52; refine (C49 _).mono ?_; rintro e w2 ⟨rfl, hg2⟩; obtain ⟨d0, d1, q0, q1⟩ := two_heap (two_new hg2); obtain ⟨e0, e1, p0, p1⟩ := two_heap (heap_up (heap_old _ (two_new hg)) hg2); have hlt2 := hg2.size; rw [World.size_alloc] at hlt2; replace hlt2 : w1.heap.size < w2.heap.size := hlt2))
        refine ⟨rfl, _, ?_, rfl, ((((hb0.trans (hg.mono (by simp))).alloc (by omega) _).trans (hg2.mono (by simp; omega))).setCell (p := ⟨w.heap.size, 0, none⟩) (Nat.le_refl _) _).setCell (p := ⟨w.heap.size, 1, none⟩) (Nat.le_refl _) _⟩
        simp [results, Tryz.f21, go_sem, e0, e1, rv]
      · rw [if_neg h2] at hR
        rw [if_neg h2] at C49
        subst hR
        go_enter Tryz.func21, Tryz.ntmps21
        go_wp2_with (first
          | (go_at_call 51; refine (C48 _).mono ?_; rintro e w1 ⟨rfl, hg⟩; unfold cutV rv; obtain ⟨c0, c1, f0, f1⟩ := two_heap (two_new hg); have hlt := hg.size; rw [World.size_alloc] at hlt; replace hlt : w.heap.size < w1.heap.size := hlt)
          | (go_at_call 52; refine (C49 _).mono ?_; rintro e w2 ⟨rfl, hg2⟩; obtain ⟨d0, d1, q0, q1⟩ := two_heap (two_new hg2); obtain ⟨e0, e1, p0, p1⟩ := two_heap (heap_up (heap_old _ (two_new hg)) hg2); have hlt2 := hg2.size; rw [World.size_alloc] at hlt2; replace hlt2 : w1.heap.size < w2.heap.size := hlt2))
        refine ⟨rfl, _, ?_, rfl, ((((hb0.trans (hg.mono (by simp))).alloc (by omega) _).trans (hg2.mono (by simp; omega))).setCell (p := ⟨w.heap.size, 0, none⟩) (Nat.le_refl _) _).setCell (p := ⟨w.heap.size, 1, none⟩) (Nat.le_refl _) _⟩
        simp [results, Tryz.f21, go_sem, e0, e1, rv]
        rfl
end Go.Proofs.YtpngnhpnjkepjaaGreatDoor
