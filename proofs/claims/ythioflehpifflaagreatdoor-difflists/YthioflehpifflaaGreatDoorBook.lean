/-
  The Book's Hold; its done by the contracts of marks and grows.
-/
import Derived.Test.YthioflehpifflaaGreatDoorBk0
import Derived.Test.YthioflehpifflaaGreatDoorMarks
import Derived.Test.YthioflehpifflaaGreatDoorRN
import Derived.Deep.Cut
namespace Go.Proofs.YthioflehpifflaaGreatDoor
open Go.RowKit

/-- A list that is kept: its value, the value of what it must hold, what that is. -/
structure Ot where
  v : Value
  tv : Value
  c : List Ru

/-- It holds what it must. -/
def Ot.ok (w : World) (x : Ot) : Prop := HasQ w x.v x.c ∧ HasQ w x.tv x.c ∧ x.c.length ≤ 1048576

theorem row_at {w : World} {lo e : Nat} {v : Value} {xs : List Value} (h : w.ownsRow lo e 1 v xs.length xs) {j : Nat} (hj : j < xs.length) :
    ∃ g cap, v = .slice (some ⟨g, 0, none⟩) xs.length cap ∧ w.cell? ⟨g, j, none⟩ = some (xs[j]) := by
  have h0 := h
  obtain ⟨_, h | ⟨g, cap, cur, hv, _⟩⟩ := h
  · omega
  · subst hv
    refine ⟨g, cap, rfl, ?_⟩
    have := World.ownsRow.cells h0 (g := g) rfl j xs[j] (List.getElem?_eq_getElem hj)
    rwa [show (⟨g, 0, none⟩ : Addr).add j = ⟨g, j, none⟩ from by
      unfold Addr.add; split
      · rename_i e; rw [e]
      · simp] at this

set_option maxHeartbeats 4000000 in
set_option maxRecDepth 100000 in
theorem bookHold_changes (lo K : Nat) (os ws : List Ot) (hO hT hW hN : Value) (w : World) (c4 : w.cell? ⟨K, 40, none⟩ = some hO) (c5 : w.cell? ⟨K, 41, none⟩ = some hT) (c6 : w.cell? ⟨K, 42, none⟩ = some hW) (c7 : w.cell? ⟨K, 43, none⟩ = some hN)
    (rO : w.ownsRow lo 22 1 hO os.length (os.map Ot.v)) (rT : w.ownsRow lo 22 1 hT os.length (os.map Ot.tv)) (rW : w.ownsRow lo 22 1 hW ws.length (ws.map Ot.v)) (rN : w.ownsRow lo 22 1 hN ws.length (ws.map Ot.tv))
    (hos : ∀ x ∈ os, x.ok w) (hws : ∀ x ∈ ws, x.ok w) (hol : os.length ≤ 1000000) (hwl : ws.length ≤ 1000000) :
    Calls Tryz.prog 37 #[.pointer (some ⟨K, 0, none⟩)] w fun e w' => e = .returned (.bool true) ∧ Below w.heap.size w w' := by
  obtain ⟨oO, kO, eO⟩ := row_form rO
  obtain ⟨oT, kT, eT⟩ := row_form rT
  obtain ⟨oW, kW, eW⟩ := row_form rW
  obtain ⟨oN, kN, eN⟩ := row_form rN
  subst eO eT eW eN
  have RO : Hid (w.ownsRow lo 22 1 (.slice oO os.length kO) os.length (os.map Ot.v)) := rO
  have RT : Hid (w.ownsRow lo 22 1 (.slice oT os.length kT) os.length (os.map Ot.tv)) := rT
  have RW : Hid (w.ownsRow lo 22 1 (.slice oW ws.length kW) ws.length (ws.map Ot.v)) := rW
  have RN : Hid (w.ownsRow lo 22 1 (.slice oN ws.length kN) ws.length (ws.map Ot.tv)) := rN
  have HS : Hid (∀ x ∈ os, x.ok w) := hos
  have HS2 : Hid (∀ x ∈ ws, x.ok w) := hws
  have C4 : Hid (w.cell? ⟨K, 40, none⟩ = some (.slice oO os.length kO)) := c4
  have C6 : Hid (w.cell? ⟨K, 42, none⟩ = some (.slice oW ws.length kW)) := c6
  clear rO rT rW rN hos hws
  have CK : Hid (∀ o y W, w.cell? ⟨K, o, none⟩ = some y → Below w.heap.size w W → W.cell? ⟨K, o, none⟩ = some y) := fun o y W h hW => (hW.cell (p := ⟨K, o, none⟩) (World.block_lt_of_cell? _ ⟨K, o, none⟩ h)).trans h
  go_enter Tryz.func37, Tryz.ntmps37
  go_wp2
  go_loopw [3] (fun i wr => ∃ k : Nat, k ≤ os.length ∧ i = .int .i64 k ∧ Hid (Below w.heap.size w wr)) (fun i _ => os.length - iOf i)
  case atStart => exact ⟨0, Nat.zero_le _, rfl, Below.refl _ _⟩
  case round =>
    obtain ⟨k, hk, rfl, HW⟩ := hrel
    have d4 := CK.out _ _ _ c4 HW.out
    by_cases hlt : k < os.length
    · have i1 : (k : Int) < (os.length : Int) := by omega
      obtain ⟨gB, cB, eB, qB⟩ := row_at (xs := os.map Ot.v) (by simpa using RO.out) (j := k) (by simpa using hlt)
      obtain ⟨gA, cA, eA, qA⟩ := row_at (xs := os.map Ot.tv) (by simpa using RT.out) (j := k) (by simpa using hlt)
      simp at eB eA
      obtain ⟨rfl, rfl⟩ := eB
      obtain ⟨rfl, rfl⟩ := eA
      obtain ⟨x, hx⟩ : ∃ x, os[k] = x := ⟨_, rfl⟩
      obtain ⟨hv, ht, hl⟩ := HS.out x (hx ▸ List.getElem_mem hlt)
      simp [hx] at qB qA
      have INV : ∀ W, Below w.heap.size w W → W.cell? ⟨K, 40, none⟩ = some (.slice (some ⟨gB, 0, none⟩) os.length kO) ∧ W.cell? ⟨K, 41, none⟩ = some (.slice (some ⟨gA, 0, none⟩) os.length kT) ∧ W.cell? ⟨gB, k, none⟩ = some x.v ∧ W.cell? ⟨gA, k, none⟩ = some x.tv := fun W hW => ⟨(hW.cell (p := ⟨K, 40, none⟩) (World.block_lt_of_cell? _ ⟨K, 40, none⟩ c4)).trans c4, (hW.cell (p := ⟨K, 41, none⟩) (World.block_lt_of_cell? _ ⟨K, 41, none⟩ c5)).trans c5, (hW.cell (p := ⟨gB, k, none⟩) (World.block_lt_of_cell? _ ⟨gB, k, none⟩ qB)).trans qB, (hW.cell (p := ⟨gA, k, none⟩) (World.block_lt_of_cell? _ ⟨gA, k, none⟩ qA)).trans qA⟩
      have HINV : Hid (∀ W, Below w.heap.size w W → W.cell? ⟨K, 40, none⟩ = some (.slice (some ⟨gB, 0, none⟩) os.length kO) ∧ W.cell? ⟨K, 41, none⟩ = some (.slice (some ⟨gA, 0, none⟩) os.length kT) ∧ W.cell? ⟨gB, k, none⟩ = some x.v ∧ W.cell? ⟨gA, k, none⟩ = some x.tv) := INV
      have HC : Hid (∀ W, Below w.heap.size w W → Calls Tryz.prog 63 #[x.v, x.tv] W fun e w' => e = .returned (.bool true) ∧ Below W.heap.size W w') := fun W hW => sameKept_eq x.v x.tv x.c W (hv.below hW) (ht.below hW) hl
      obtain ⟨xo, xc, hxv, _⟩ := hv.form
      obtain ⟨yo, yc, hyv, _⟩ := ht.form
      obtain ⟨d4, d5, q4, q5⟩ := INV wr HW.out
      clear INV hv ht hl hx qA qB
      rw [hxv] at HINV HC q4
      rw [hyv] at HINV HC q5
      clear hxv hyv
      generalize x.c.length = xn at *
      go_upto_region 4 with fail
      refine wp_region_N 100 (fun W => W.cell? ⟨K, 40, none⟩ = some (.slice (some ⟨gB, 0, none⟩) os.length kO) ∧ W.cell? ⟨K, 41, none⟩ = some (.slice (some ⟨gA, 0, none⟩) os.length kT) ∧ W.cell? ⟨gB, k, none⟩ = some (.slice xo xn xc) ∧ W.cell? ⟨gA, k, none⟩ = some (.slice yo xn yc)) ?_
      have hI := HINV.out wr.drew HW.out.drew
      have HWd : Hid (Below w.heap.size w wr.drew) := HW.out.drew
      generalize wr.drew = w1 at *
      try simp only [Act.put, List.setIfInBounds_toArray, List.set_cons_zero, List.set_cons_succ]
      refine tN 0 14 (.pointer (some ⟨K, 0, none⟩)) rfl (by kernel_rfl) hI (fun _ _ _ h => h) (fun wz hz => ?_) ?_
      · rfl
      try simp only [Act.put, List.setIfInBounds_toArray, List.set_cons_zero, List.set_cons_succ]
      refine tN 1 15 (.pointer (some ⟨K, 0, none⟩)) rfl (by kernel_rfl) hI (fun _ _ _ h => h) (fun wz hz => ?_) ?_
      · go_simp
      try simp only [Act.put, List.setIfInBounds_toArray, List.set_cons_zero, List.set_cons_succ]
      refine tN 2 16 (.pointer (some ⟨K, 40, none⟩)) rfl (by kernel_rfl) hI (fun _ _ _ h => h) (fun wz hz => ?_) ?_
      · go_simp
      try simp only [Act.put, List.setIfInBounds_toArray, List.set_cons_zero, List.set_cons_succ]
      refine tN 3 17 (.slice (some ⟨gB, 0, none⟩) os.length kO) rfl (by kernel_rfl) hI (fun _ _ _ h => h) (fun wz hz => ?_) ?_
      · obtain ⟨z0, z1, z2, z3⟩ := hz; go_simp
      try simp only [Act.put, List.setIfInBounds_toArray, List.set_cons_zero, List.set_cons_succ]
      refine tN 4 18 (.int .i64 (k : Int)) rfl (by kernel_rfl) hI (fun _ _ _ h => h) (fun wz hz => ?_) ?_
      · rfl
      try simp only [Act.put, List.setIfInBounds_toArray, List.set_cons_zero, List.set_cons_succ]
      refine tN 5 19 (.pointer (some ⟨gB, k, none⟩)) rfl (by kernel_rfl) hI (fun _ _ _ h => h) (fun wz hz => ?_) ?_
      · go_simp
      try simp only [Act.put, List.setIfInBounds_toArray, List.set_cons_zero, List.set_cons_succ]
      refine tN 6 20 (.slice xo xn xc) rfl (by kernel_rfl) hI (fun _ _ _ h => h) (fun wz hz => ?_) ?_
      · obtain ⟨z0, z1, z2, z3⟩ := hz; go_simp
      try simp only [Act.put, List.setIfInBounds_toArray, List.set_cons_zero, List.set_cons_succ]
      refine tN 7 21 (.pointer (some ⟨K, 0, none⟩)) rfl (by kernel_rfl) hI (fun _ _ _ h => h) (fun wz hz => ?_) ?_
      · rfl
      try simp only [Act.put, List.setIfInBounds_toArray, List.set_cons_zero, List.set_cons_succ]
      refine tN 8 22 (.pointer (some ⟨K, 0, none⟩)) rfl (by kernel_rfl) hI (fun _ _ _ h => h) (fun wz hz => ?_) ?_
      · go_simp
      try simp only [Act.put, List.setIfInBounds_toArray, List.set_cons_zero, List.set_cons_succ]
      refine tN 9 23 (.pointer (some ⟨K, 41, none⟩)) rfl (by kernel_rfl) hI (fun _ _ _ h => h) (fun wz hz => ?_) ?_
      · go_simp
      try simp only [Act.put, List.setIfInBounds_toArray, List.set_cons_zero, List.set_cons_succ]
      refine tN 10 24 (.slice (some ⟨gA, 0, none⟩) os.length kT) rfl (by kernel_rfl) hI (fun _ _ _ h => h) (fun wz hz => ?_) ?_
      · obtain ⟨z0, z1, z2, z3⟩ := hz; go_simp
      try simp only [Act.put, List.setIfInBounds_toArray, List.set_cons_zero, List.set_cons_succ]
      refine tN 11 25 (.int .i64 (k : Int)) rfl (by kernel_rfl) hI (fun _ _ _ h => h) (fun wz hz => ?_) ?_
      · rfl
      try simp only [Act.put, List.setIfInBounds_toArray, List.set_cons_zero, List.set_cons_succ]
      refine tN 12 26 (.pointer (some ⟨gA, k, none⟩)) rfl (by kernel_rfl) hI (fun _ _ _ h => h) (fun wz hz => ?_) ?_
      · go_simp
      try simp only [Act.put, List.setIfInBounds_toArray, List.set_cons_zero, List.set_cons_succ]
      refine tN 13 27 (.slice yo xn yc) rfl (by kernel_rfl) hI (fun _ _ _ h => h) (fun wz hz => ?_) ?_
      · obtain ⟨z0, z1, z2, z3⟩ := hz; go_simp
      try simp only [Act.put, List.setIfInBounds_toArray, List.set_cons_zero, List.set_cons_succ]
      refine readyN [14] (by kernel_rfl) (by simp) ?_
      refine AllN.call 14 28 63 #[.slice xo xn xc, .slice yo xn yc] rfl (by kernel_rfl) (by go_simp) ((HC.out w1 HWd.out).mono ?_) AllN.nil
      rintro e w2 ⟨rfl, hb2⟩
      have HW2 : Hid (Below w.heap.size w w2) := HWd.out.trans (hb2.mono HWd.out.size)
      refine ⟨_, rfl, HINV.out w2 HW2.out, ?_⟩
      have hI2 := HINV.out w2 HW2.out
      try simp only [Act.put, List.setIfInBounds_toArray, List.set_cons_zero, List.set_cons_succ]
      refine tN 15 29 (.bool false) rfl (by kernel_rfl) hI2 (fun _ _ _ h => h) (fun wz hz => ?_) ?_
      · go_simp
      try simp only [Act.put, List.setIfInBounds_toArray, List.set_cons_zero, List.set_cons_succ]
      refine doneN (by kernel_rfl) ?_
      clear hI hI2 HINV HC d4 d5 q4 q5 hb2
      go_wp2
      go_roundw
      case rel => exact ⟨k + 1, by omega, by go_num, HW2⟩
      case measure => simp; omega
    · have i1 : ¬ ((k : Int) < (os.length : Int)) := by omega
      go_wp2
      clear d4
      go_loopw [4] (fun i wz => ∃ k : Nat, k ≤ ws.length ∧ i = .int .i64 k ∧ Hid (Below w.heap.size w wz)) (fun i _ => ws.length - iOf i)
      case atStart => exact ⟨0, Nat.zero_le _, rfl, HW⟩
      case round =>
        clear HW
        obtain ⟨k, hk, rfl, HW⟩ := hrel
        have d6 := CK.out _ _ _ c6 HW.out
        by_cases hlt : k < ws.length
        · have i1 : (k : Int) < (ws.length : Int) := by omega
          obtain ⟨gB, cB, eB, qB⟩ := row_at (xs := ws.map Ot.v) (by simpa using RW.out) (j := k) (by simpa using hlt)
          obtain ⟨gA, cA, eA, qA⟩ := row_at (xs := ws.map Ot.tv) (by simpa using RN.out) (j := k) (by simpa using hlt)
          simp at eB eA
          obtain ⟨rfl, rfl⟩ := eB
          obtain ⟨rfl, rfl⟩ := eA
          obtain ⟨x, hx⟩ : ∃ x, ws[k] = x := ⟨_, rfl⟩
          obtain ⟨hv, ht, hl⟩ := HS2.out x (hx ▸ List.getElem_mem hlt)
          simp [hx] at qB qA
          have INV : ∀ W, Below w.heap.size w W → W.cell? ⟨K, 42, none⟩ = some (.slice (some ⟨gB, 0, none⟩) ws.length kW) ∧ W.cell? ⟨K, 43, none⟩ = some (.slice (some ⟨gA, 0, none⟩) ws.length kN) ∧ W.cell? ⟨gB, k, none⟩ = some x.v ∧ W.cell? ⟨gA, k, none⟩ = some x.tv := fun W hW => ⟨(hW.cell (p := ⟨K, 42, none⟩) (World.block_lt_of_cell? _ ⟨K, 42, none⟩ c6)).trans c6, (hW.cell (p := ⟨K, 43, none⟩) (World.block_lt_of_cell? _ ⟨K, 43, none⟩ c7)).trans c7, (hW.cell (p := ⟨gB, k, none⟩) (World.block_lt_of_cell? _ ⟨gB, k, none⟩ qB)).trans qB, (hW.cell (p := ⟨gA, k, none⟩) (World.block_lt_of_cell? _ ⟨gA, k, none⟩ qA)).trans qA⟩
          have HINV : Hid (∀ W, Below w.heap.size w W → W.cell? ⟨K, 42, none⟩ = some (.slice (some ⟨gB, 0, none⟩) ws.length kW) ∧ W.cell? ⟨K, 43, none⟩ = some (.slice (some ⟨gA, 0, none⟩) ws.length kN) ∧ W.cell? ⟨gB, k, none⟩ = some x.v ∧ W.cell? ⟨gA, k, none⟩ = some x.tv) := INV
          have HC : Hid (∀ W, Below w.heap.size w W → Calls Tryz.prog 63 #[x.v, x.tv] W fun e w' => e = .returned (.bool true) ∧ Below W.heap.size W w') := fun W hW => sameKept_eq x.v x.tv x.c W (hv.below hW) (ht.below hW) hl
          obtain ⟨xo, xc, hxv, _⟩ := hv.form
          obtain ⟨yo, yc, hyv, _⟩ := ht.form
          obtain ⟨d4, d5, q4, q5⟩ := INV wr HW.out
          clear INV hv ht hl hx qA qB
          rw [hxv] at HINV HC q4
          rw [hyv] at HINV HC q5
          clear hxv hyv
          generalize x.c.length = xn at *
          go_upto_region 9 with fail
          refine wp_region_N 100 (fun W => W.cell? ⟨K, 42, none⟩ = some (.slice (some ⟨gB, 0, none⟩) ws.length kW) ∧ W.cell? ⟨K, 43, none⟩ = some (.slice (some ⟨gA, 0, none⟩) ws.length kN) ∧ W.cell? ⟨gB, k, none⟩ = some (.slice xo xn xc) ∧ W.cell? ⟨gA, k, none⟩ = some (.slice yo xn yc)) ?_
          have hI := HINV.out wr.drew HW.out.drew
          have HWd : Hid (Below w.heap.size w wr.drew) := HW.out.drew
          generalize wr.drew = w1 at *
          try simp only [Act.put, List.setIfInBounds_toArray, List.set_cons_zero, List.set_cons_succ]
          refine tN 0 39 (.pointer (some ⟨K, 0, none⟩)) rfl (by kernel_rfl) hI (fun _ _ _ h => h) (fun wz hz => ?_) ?_
          · rfl
          try simp only [Act.put, List.setIfInBounds_toArray, List.set_cons_zero, List.set_cons_succ]
          refine tN 1 40 (.pointer (some ⟨K, 0, none⟩)) rfl (by kernel_rfl) hI (fun _ _ _ h => h) (fun wz hz => ?_) ?_
          · go_simp
          try simp only [Act.put, List.setIfInBounds_toArray, List.set_cons_zero, List.set_cons_succ]
          refine tN 2 41 (.pointer (some ⟨K, 42, none⟩)) rfl (by kernel_rfl) hI (fun _ _ _ h => h) (fun wz hz => ?_) ?_
          · go_simp
          try simp only [Act.put, List.setIfInBounds_toArray, List.set_cons_zero, List.set_cons_succ]
          refine tN 3 42 (.slice (some ⟨gB, 0, none⟩) ws.length kW) rfl (by kernel_rfl) hI (fun _ _ _ h => h) (fun wz hz => ?_) ?_
          · obtain ⟨z0, z1, z2, z3⟩ := hz; go_simp
          try simp only [Act.put, List.setIfInBounds_toArray, List.set_cons_zero, List.set_cons_succ]
          refine tN 4 43 (.int .i64 (k : Int)) rfl (by kernel_rfl) hI (fun _ _ _ h => h) (fun wz hz => ?_) ?_
          · rfl
          try simp only [Act.put, List.setIfInBounds_toArray, List.set_cons_zero, List.set_cons_succ]
          refine tN 5 44 (.pointer (some ⟨gB, k, none⟩)) rfl (by kernel_rfl) hI (fun _ _ _ h => h) (fun wz hz => ?_) ?_
          · go_simp
          try simp only [Act.put, List.setIfInBounds_toArray, List.set_cons_zero, List.set_cons_succ]
          refine tN 6 45 (.slice xo xn xc) rfl (by kernel_rfl) hI (fun _ _ _ h => h) (fun wz hz => ?_) ?_
          · obtain ⟨z0, z1, z2, z3⟩ := hz; go_simp
          try simp only [Act.put, List.setIfInBounds_toArray, List.set_cons_zero, List.set_cons_succ]
          refine tN 7 46 (.pointer (some ⟨K, 0, none⟩)) rfl (by kernel_rfl) hI (fun _ _ _ h => h) (fun wz hz => ?_) ?_
          · rfl
          try simp only [Act.put, List.setIfInBounds_toArray, List.set_cons_zero, List.set_cons_succ]
          refine tN 8 47 (.pointer (some ⟨K, 0, none⟩)) rfl (by kernel_rfl) hI (fun _ _ _ h => h) (fun wz hz => ?_) ?_
          · go_simp
          try simp only [Act.put, List.setIfInBounds_toArray, List.set_cons_zero, List.set_cons_succ]
          refine tN 9 48 (.pointer (some ⟨K, 43, none⟩)) rfl (by kernel_rfl) hI (fun _ _ _ h => h) (fun wz hz => ?_) ?_
          · go_simp
          try simp only [Act.put, List.setIfInBounds_toArray, List.set_cons_zero, List.set_cons_succ]
          refine tN 10 49 (.slice (some ⟨gA, 0, none⟩) ws.length kN) rfl (by kernel_rfl) hI (fun _ _ _ h => h) (fun wz hz => ?_) ?_
          · obtain ⟨z0, z1, z2, z3⟩ := hz; go_simp
          try simp only [Act.put, List.setIfInBounds_toArray, List.set_cons_zero, List.set_cons_succ]
          refine tN 11 50 (.int .i64 (k : Int)) rfl (by kernel_rfl) hI (fun _ _ _ h => h) (fun wz hz => ?_) ?_
          · rfl
          try simp only [Act.put, List.setIfInBounds_toArray, List.set_cons_zero, List.set_cons_succ]
          refine tN 12 51 (.pointer (some ⟨gA, k, none⟩)) rfl (by kernel_rfl) hI (fun _ _ _ h => h) (fun wz hz => ?_) ?_
          · go_simp
          try simp only [Act.put, List.setIfInBounds_toArray, List.set_cons_zero, List.set_cons_succ]
          refine tN 13 52 (.slice yo xn yc) rfl (by kernel_rfl) hI (fun _ _ _ h => h) (fun wz hz => ?_) ?_
          · obtain ⟨z0, z1, z2, z3⟩ := hz; go_simp
          try simp only [Act.put, List.setIfInBounds_toArray, List.set_cons_zero, List.set_cons_succ]
          refine readyN [14] (by kernel_rfl) (by simp) ?_
          refine AllN.call 14 53 63 #[.slice xo xn xc, .slice yo xn yc] rfl (by kernel_rfl) (by go_simp) ((HC.out w1 HWd.out).mono ?_) AllN.nil
          rintro e w2 ⟨rfl, hb2⟩
          have HW2 : Hid (Below w.heap.size w w2) := HWd.out.trans (hb2.mono HWd.out.size)
          refine ⟨_, rfl, HINV.out w2 HW2.out, ?_⟩
          have hI2 := HINV.out w2 HW2.out
          try simp only [Act.put, List.setIfInBounds_toArray, List.set_cons_zero, List.set_cons_succ]
          refine tN 15 54 (.bool false) rfl (by kernel_rfl) hI2 (fun _ _ _ h => h) (fun wz hz => ?_) ?_
          · go_simp
          try simp only [Act.put, List.setIfInBounds_toArray, List.set_cons_zero, List.set_cons_succ]
          refine doneN (by kernel_rfl) ?_
          clear hI hI2 HINV HC d4 d5 q4 q5 hb2
          go_wp2
          go_roundw
          case rel => exact ⟨k + 1, by omega, by go_num, HW2⟩
          case measure => simp; omega
        · have i1 : ¬ ((k : Int) < (ws.length : Int)) := by omega
          go_wp2
          go_ret
          exact ⟨rfl, HW.out⟩

theorem bookHold_any (lo K : Nat) (os ws : List Ot) (hO hT hW hN : Value) (w : World) (hbad : w.cell? ⟨K, 1, none⟩ = some (.bool false)) (hi : Idle w K)
    (c4 : w.cell? ⟨K, 40, none⟩ = some hO) (c5 : w.cell? ⟨K, 41, none⟩ = some hT) (c6 : w.cell? ⟨K, 42, none⟩ = some hW) (c7 : w.cell? ⟨K, 43, none⟩ = some hN)
    (rO : w.ownsRow lo 22 1 hO os.length (os.map Ot.v)) (rT : w.ownsRow lo 22 1 hT os.length (os.map Ot.tv)) (rW : w.ownsRow lo 22 1 hW ws.length (ws.map Ot.v)) (rN : w.ownsRow lo 22 1 hN ws.length (ws.map Ot.tv))
    (hos : ∀ x ∈ os, x.ok w) (hws : ∀ x ∈ ws, x.ok w) (hol : os.length ≤ 1000000) (hwl : ws.length ≤ 1000000) :
    Calls Tryz.prog 9 #[.pointer (some ⟨K, 0, none⟩)] w fun e w' => e = .returned (.bool true) ∧ Below w.heap.size w w' :=
  hold_by K w (fun w' => Below w.heap.size w w') (bookHold_changes lo K os ws hO hT hW hN w c4 c5 c6 c7 rO rT rW rN hos hws hol hwl) (fun _ h i h1 h2 h3 => (h.cell (p := ⟨K, i, none⟩) (World.block_lt_of_cell? _ ⟨K, i, none⟩ (hi i h1 h2 h3))).trans (hi i h1 h2 h3)) hi hbad

set_option maxHeartbeats 1600000 in
set_option maxRecDepth 100000 in
theorem done_by (K turn : Nat) (w : World) (Q1 Q2 : World → Prop) (h3 : w.cell? ⟨K, 3, none⟩ = some (.int .i64 1)) (hf : ∀ o, w.frozen? ⟨K, o, none⟩ = false) (ht : turn ≤ 1000000)
    (hM : Calls Tryz.prog 82 #[.pointer (some ⟨K, 0, none⟩)] (w.setCell ⟨K, 3, none⟩ (.int .i64 0)) fun e w' => e = .returned (.tuple #[]) ∧ Q1 w')
    (hG : ∀ w1, Q1 w1 → Calls Tryz.prog 83 #[.pointer (some ⟨K, 0, none⟩)] w1 fun e w' => e = .returned (.tuple #[]) ∧ Q2 w')
    (hT : ∀ w2, Q2 w2 → w2.cell? ⟨K, 2, none⟩ = some (.int .i64 turn) ∧ ∀ o, w2.frozen? ⟨K, o, none⟩ = false) :
    Calls Tryz.prog 57 #[.pointer (some ⟨K, 0, none⟩)] w fun e w' => e = .returned (.tuple #[]) ∧ ∃ w2, Q2 w2 ∧ w' = w2.setCell ⟨K, 2, none⟩ (.int .i64 (turn + 1 : Nat)) := by
  have HG : Hid (∀ w1, Q1 w1 → Calls Tryz.prog 83 #[.pointer (some ⟨K, 0, none⟩)] w1 fun e w' => e = .returned (.tuple #[]) ∧ Q2 w') := hG
  have HT : Hid (∀ w2, Q2 w2 → w2.cell? ⟨K, 2, none⟩ = some (.int .i64 turn) ∧ ∀ o, w2.frozen? ⟨K, o, none⟩ = false) := hT
  have HM : Hid (Calls Tryz.prog 82 #[.pointer (some ⟨K, 0, none⟩)] (w.setCell ⟨K, 3, none⟩ (.int .i64 0)) fun e w' => e = .returned (.tuple #[]) ∧ Q1 w') := hM
  clear hM hG hT
  go_enter Tryz.func57, Tryz.ntmps57
  go_wp2_with fail
  refine HM.out.mono ?_
  rintro e w1 ⟨rfl, hq1⟩
  have C := HG.out w1 hq1
  have HC : Hid (Calls Tryz.prog 83 #[.pointer (some ⟨K, 0, none⟩)] w1 fun e w' => e = .returned (.tuple #[]) ∧ Q2 w') := C
  clear C hq1
  go_wp2_with fail
  refine HC.out.mono ?_
  rintro e w2 ⟨rfl, hq2⟩
  obtain ⟨k2, kf⟩ := HT.out w2 hq2
  have HQ : Hid (Q2 w2) := hq2
  clear hq2 h3 hf
  go_wp2
  go_end0
  exact ⟨rfl, w2, HQ.out, by simp⟩
end Go.Proofs.YthioflehpifflaaGreatDoor
