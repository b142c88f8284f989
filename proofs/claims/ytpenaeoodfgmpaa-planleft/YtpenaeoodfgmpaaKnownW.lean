/-
  known by contract.
-/
import Derived.Test.YtpenaeoodfgmpaaKnownR
import Derived.Test.YtpenaeoodfgmpaaPlainW
import Derived.Test.YtpenaeoodfgmpaaEq
namespace Go.Proofs.Ytpenaeoodfgmpaa
open Go.RowKit

def c80 : Cd := ⟨⟨#[]⟩, 2, 0, 0, 1, 1, 0, 0, 0, 0⟩
def c81 : Cd := ⟨⟨#[97]⟩, 3, 1, 0, 0, 3, 3, 100, 1, 40⟩
def c82 : Cd := ⟨⟨#[98]⟩, 1, 0, 0, 0, 2, 0, 0, 0, 0⟩
def c83 : Cd := ⟨⟨#[99]⟩, 3, 2, 0, 2, 0, 0, 0, 0, 0⟩
def c84 : Cd := ⟨⟨#[100]⟩, 3, 1, 0, 1, 4, 2, 10, 0, 0⟩
def L8 : List Cd := [c80, c81, c82, c83, c84]
theorem k12 : (planF L8 12).items.length = 3 ∧ (planF L8 12).left = [] ∧ (planF L8 12).na = 0 ∧ (planF L8 12).ba = 0 ∧ (planF L8 12).nb = 4 ∧ (planF L8 12).bb = 100 := by decide +kernel
theorem k11 : (planF L8 11).items.length = 2 ∧ (planF L8 11).left = [4] := by decide +kernel
theorem k3 : (planF L8 3).items.length = 1 ∧ (planF L8 3).left = [1, 2, 4] := by decide +kernel
theorem k12i : (planF L8 12).items[1]? = some ⟨2, 3, ⟨#[99]⟩, 3, 1, 0, 0⟩ := by kernel_rfl
theorem ok8 : ∀ c ∈ L8, c.ok := by
  intro c hc
  simp only [L8, List.mem_cons, List.not_mem_nil, or_false] at hc
  rcases hc with rfl | rfl | rfl | rfl | rfl <;> simp [Cd.ok, InR, c80, c81, c82, c83, c84]
theorem has8 (w : World) : HasC (w.alloc (.cells (flat cc L8).toArray 43)) (.slice (some ⟨w.heap.size, 0, none⟩) 5 5) L8 := RowC.has (heap_alloc_new w _) ok8 rfl
/-- three plans that lie in variables -/
theorem k8_open {v : Value} {p : Int → Pl} {lo : Nat} {W0 : World} {done : Nat → Bool} {V : Nat → Value} {w : World} (hall : ∀ i, i < 12 → done i = true) (h : K8 v p lo W0 done V w) :
    ∃ b1 b2 b3 i1 l1 i2 l2 i3 l3, V 6 = ptr b1 ∧ V 7 = ptr b2 ∧ V 8 = ptr b3 ∧ w.heap[b1]? = some (.cells (pCells (p 12) i1 l1) 34 (0, 0)) ∧ w.heap[b2]? = some (.cells (pCells (p 11) i2 l2) 34 (0, 0)) ∧ w.heap[b3]? = some (.cells (pCells (p 3) i3 l3) 34 (0, 0)) ∧
      OwnsI w lo i1 (p 12).items ∧ OwnsN w lo l1 (p 12).left ∧ OwnsI w lo i2 (p 11).items ∧ OwnsN w lo l2 (p 11).left ∧ OwnsI w lo i3 (p 3).items ∧ OwnsN w lo l3 (p 3).left ∧ Below lo W0 w ∧ lo ≤ w.heap.size := by
  obtain ⟨_, _, _, a, b, c, d, _⟩ := h
  obtain ⟨b1, c1, q1, _, q3, _, q5⟩ := d 6 (by decide) (hall 6 (by omega))
  obtain ⟨b2, c2, r1, _, r3, _, r5⟩ := d 7 (by decide) (hall 7 (by omega))
  obtain ⟨b3, c3, s1, _, s3, _, s5⟩ := d 8 (by decide) (hall 8 (by omega))
  obtain ⟨i1, l1, x1, x2, x3, _⟩ := c 1 (by decide) (hall 1 (by omega))
  obtain ⟨i2, l2, y1, y2, y3, _⟩ := c 3 (by decide) (hall 3 (by omega))
  obtain ⟨i3, l3, z1, z2, z3, _⟩ := c 5 (by decide) (hall 5 (by omega))
  have e1 := (q5 (hall 9 (by omega))).symm.trans x1
  have e2 := (r5 (hall 10 (by omega))).symm.trans y1
  have e3 := (s5 (hall 11 (by omega))).symm.trans z1
  injection e1 with e1
  injection e2 with e2
  injection e3 with e3
  subst e1 e2 e3
  exact ⟨b1, b2, b3, i1, l1, i2, l2, i3, l3, q1, r1, s1, q3, r3, s3, x2, x3, y2, y3, z2, z3, a, b⟩
set_option maxHeartbeats 4000000 in
set_option maxRecDepth 100000 in
theorem known_any (w : World) : Calls Try.prog 8 #[] w fun e w' => e = .returned (.bool true) ∧ G w w' := by
  have HH := hid (has8 w)
  go_enter Try.func8, Try.ntmps8
  go_upto_region 2 with fail
  have g2 := G.al (w.alloc (.cells (flat cc L8).toArray 43)) (.cells #[.slice (some ⟨w.heap.size, 0, none⟩) 5 5] 24)
  have HG2 := hid ((G.al w (.cells (flat cc L8).toArray 43)).up g2)
  have CC := hid (fun (most : Int) (W' : World) (hW : G ((w.alloc (.cells (flat cc L8).toArray 43)).alloc (.cells #[.slice (some ⟨w.heap.size, 0, none⟩) 5 5] 24)) W') => of_any (some ⟨w.heap.size, 0, none⟩) 5 L8 most W' ((HH.out.up g2).up hW) (by decide))
  have HRW : Hid (((w.alloc (.cells (flat cc L8).toArray 43)).alloc (.cells #[.slice (some ⟨w.heap.size, 0, none⟩) 5 5] 24)).heap[w.heap.size + 1]? = some (.cells #[.slice (some ⟨w.heap.size, 0, none⟩) 5 5] 24 (0, 0))) := by
    have := heap_alloc_new (w.alloc (.cells (flat cc L8).toArray 43)) (.cells #[.slice (some ⟨w.heap.size, 0, none⟩) 5 5] 24)
    simpa [Hid] using this
  refine known_reg (.slice (some ⟨w.heap.size, 0, none⟩) 5 5) (w.heap.size + 1) (fun m => planF L8 m) _ ((w.alloc (.cells (flat cc L8).toArray 43)).alloc (.cells #[.slice (some ⟨w.heap.size, 0, none⟩) 5 5] 24)) rfl rfl HRW.out CC.out fun done V w2 hall hK => ?_
  obtain ⟨b1, b2, b3, i1, l1, i2, l2, i3, l3, v6, v7, v8, r1, r2, r3, x1, x2, y1, y2, z1, z2, hb, hlo⟩ := k8_open hall hK
  rw [fold8, v6, v7, v8]
  generalize V 0 = V0
  generalize V 1 = V1
  generalize V 2 = V2
  generalize V 3 = V3
  generalize V 4 = V4
  generalize V 5 = V5
  obtain ⟨ai1, ci1, e⟩ := owns_form x1
  subst e
  obtain ⟨al1, cl1, e⟩ := owns_form x2
  subst e
  obtain ⟨ai2, ci2, e⟩ := owns_form y1
  subst e
  obtain ⟨al2, cl2, e⟩ := owns_form y2
  subst e
  obtain ⟨ai3, ci3, e⟩ := owns_form z1
  subst e
  obtain ⟨al3, cl3, e⟩ := owns_form z2
  subst e
  simp only [k12, k11, k3, pCells] at r1 r2 r3
  have hI := x1.has
  have hN2 := y2.has
  have hN3 := z2.has
  rw [k12.1] at hI
  simp only [k11.2] at hN2
  simp only [k3.2] at hN3
  have HX := hid hI
  have HN2 := hid hN2
  have HN3 := hid hN3
  have HB := hid (And.intro hb hlo)
  have p10 := cell_of_row w2 b1 0 _ _ _ r1
  have p11 := cell_of_row w2 b1 1 _ _ _ r1
  have p12 := cell_of_row w2 b1 2 _ _ _ r1
  have p13 := cell_of_row w2 b1 3 _ _ _ r1
  have p14 := cell_of_row w2 b1 4 _ _ _ r1
  have p15 := cell_of_row w2 b1 5 _ _ _ r1
  have p20 := cell_of_row w2 b2 0 _ _ _ r2
  have p21 := cell_of_row w2 b2 1 _ _ _ r2
  have p30 := cell_of_row w2 b3 0 _ _ _ r3
  have p31 := cell_of_row w2 b3 1 _ _ _ r3
  simp only [List.getElem?_toArray, List.getElem?_cons_zero, List.getElem?_cons_succ, List.length_nil, List.length_cons] at p10 p11 p12 p13 p14 p15 p20 p21 p30 p31
  have hb1 : b1 < w2.heap.size := (Array.getElem?_eq_some_iff.1 r1).1
  have hb2 : b2 < w2.heap.size := (Array.getElem?_eq_some_iff.1 r2).1
  have hb3 : b3 < w2.heap.size := (Array.getElem?_eq_some_iff.1 r3).1
  obtain ⟨gi, oi, hai, hli⟩ := hI.at k12i
  subst hai
  have HLI := hid hli
  have HS1 := hid (sameInts_yes al2 (some ⟨w2.heap.size, 0, none⟩) cl2 1 [4] [4] (w2.alloc (.cells #[.int .i64 4] 3)) (hN2.up (G.al _ _)) ⟨_, _, rfl, fun i x hi => ⟨_, _, rfl, by
    match i, hi with
    | 0, hi => simp at hi; subst hi; rw [new_cell]; rfl⟩⟩ rfl (by decide))
  have HS2 := hid (fun (w3 : World) (h : G w2 w3) => sameInts_yes al3 (some ⟨w3.heap.size, 0, none⟩) cl3 3 [1, 2, 4] [1, 2, 4] (w3.alloc (.cells #[.int .i64 1, .int .i64 2, .int .i64 4] 3)) ((hN3.up h).up (G.al _ _)) ⟨_, _, rfl, fun i x hi => ⟨_, _, rfl, by
    match i, hi with
    | 0, hi => simp at hi; subst hi; rw [new_cell]; rfl
    | 1, hi => simp at hi; subst hi; rw [new_cell]; rfl
    | 2, hi => simp at hi; subst hi; rw [new_cell]; rfl⟩⟩ rfl (by decide))
  simp only [List.length_nil, List.length_cons, Nat.zero_add, Nat.reduceAdd] at HS1 HS2 p21 p31
  clear hI hN2 hN3 hb hlo x1 x2 y1 y2 z1 z2 r1 r2 r3 v6 v7 v8 hK hall g2 CC HRW hli HN2 HN3 HX
  unfold ptr
  go_simp
  go_upto_region 5 with (first
    | (go_at_call_of 14 (Value.slice al2 1 cl2); refine HS1.out.mono ?_; rintro e w3 ⟨rfl, n3, hw3⟩; have H3 : Hid (G w2 w3) := (by rw [hw3]; exact (G.al _ _).drewN n3); clear hw3; have s30 := (H3.out.cell (p := ⟨b3, 0, none⟩) hb3).trans p30; have s31 := (H3.out.cell (p := ⟨b3, 1, none⟩) hb3).trans p31)
    | (go_at_call 14; refine (HS2.out _ H3.out).mono ?_; rintro e w4 ⟨rfl, n4, hw4⟩; have H4 : Hid (G w2 w4) := (by rw [hw4]; exact (H3.out.up (G.al _ _)).drewN n4); clear hw4))
  have t0 : w4.cell? ⟨gi, oi + 7 + 0, none⟩ = some (.int .i64 2) := (HLI.out.up H4.out) 0 _ rfl
  have t1 : w4.cell? ⟨gi, oi + 7 + 1, none⟩ = some (.int .i64 3) := (HLI.out.up H4.out) 1 _ rfl
  have t2 : w4.cell? ⟨gi, oi + 7 + 2, none⟩ = some (.string ⟨#[99]⟩) := (HLI.out.up H4.out) 2 _ rfl
  have t3 : w4.cell? ⟨gi, oi + 7 + 3, none⟩ = some (.int .i64 3) := (HLI.out.up H4.out) 3 _ rfl
  have t4 : w4.cell? ⟨gi, oi + 7 + 4, none⟩ = some (.int .i64 1) := (HLI.out.up H4.out) 4 _ rfl
  have t5 : w4.cell? ⟨gi, oi + 7 + 5, none⟩ = some (.int .i64 0) := (HLI.out.up H4.out) 5 _ rfl
  have t6 : w4.cell? ⟨gi, oi + 7 + 6, none⟩ = some (.int .i64 0) := (HLI.out.up H4.out) 6 _ rfl
  rw [Nat.add_zero] at t0
  have u1 : w4.cell? ⟨gi, oi + 8, none⟩ = some (.int .i64 3) := t1
  have u2 : w4.cell? ⟨gi, oi + 9, none⟩ = some (.string ⟨#[99]⟩) := t2
  have u3 : w4.cell? ⟨gi, oi + 10, none⟩ = some (.int .i64 3) := t3
  have u4 : w4.cell? ⟨gi, oi + 11, none⟩ = some (.int .i64 1) := t4
  have u5 : w4.cell? ⟨gi, oi + 12, none⟩ = some (.int .i64 0) := t5
  have u6 : w4.cell? ⟨gi, oi + 13, none⟩ = some (.int .i64 0) := t6
  have q10 := (H4.out.cell (p := ⟨b1, 0, none⟩) hb1).trans p10
  have q12 := (H4.out.cell (p := ⟨b1, 2, none⟩) hb1).trans p12
  have q13 := (H4.out.cell (p := ⟨b1, 3, none⟩) hb1).trans p13
  have q14 := (H4.out.cell (p := ⟨b1, 4, none⟩) hb1).trans p14
  have q15 := (H4.out.cell (p := ⟨b1, 5, none⟩) hb1).trans p15
  have hz4 := H4.out.size
  have hg4 := World.block_lt_of_cell? w4 _ t0
  simp only at hg4
  have hb4 : b1 < w4.heap.size := by omega
  have HE : Hid (G w w4) := by
    have h1 : G ((w.alloc (.cells (flat cc L8).toArray 43)).alloc (.cells #[.slice (some ⟨w.heap.size, 0, none⟩) 5 5] 24)) w2 := ⟨HB.out.1.os, HB.out.1.tape, HB.out.1.output, HB.out.1.size, HB.out.1.block⟩
    exact (HG2.out.up h1).up H4.out
  clear p10 p11 p12 p13 p14 p15 p20 p21 p30 p31 s30 s31 HS1 HS2 hb1 hb2 hb3 hz4 HLI HH HB HG2
  obtain ⟨B5, hB5⟩ : ∃ B, w4.heap.size = B := ⟨_, rfl⟩
  rw [hB5] at hg4 hb4
  have n1 : ¬ gi = B5 := by omega
  have n2 : ¬ b1 = B5 := by omega
  go_wp2
  have heq := fun W => eq32 0 0 4 100 W
  go_quiet (fail)
  go_wp2
  go_ret
  exact ⟨rfl, (HE.out.up (G.al _ _)).drewN _⟩
end Go.Proofs.Ytpenaeoodfgmpaa
