/-
  Tree.all by contract: it goes on while the function answers true.
-/
import Derived.Test.YtjkbhfkeagfhbaaSameA
import Derived.Test.YtjkbhfkeagfhbaaAllL
namespace Go.Proofs.Ytjkbhfkeagfhbaa
open Go.RowKit Go.Shelf
attribute [local go_sem] Oper.semAt_some

/-- what all keeps in variables: the path, the function, the answer -/
def SVA (W : World) (B : Nat) (q : ByteArray) (Y : Value) (b : Bool) : Prop := W.heap[B]? = some (.cells #[.string q] 9 (0, 0)) ∧ W.heap[B + 1]? = some (.cells #[Y] 97 (0, 0)) ∧ W.heap[B + 2]? = some (.cells #[.bool b] 4 (0, 0))
section
variable {W W' : World} {B : Nat} {q : ByteArray} {Y : Value} {b : Bool}
theorem SVA.lt (h : SVA W B q Y b) : B + 2 < W.heap.size := (Array.getElem?_eq_some_iff.1 h.2.2).1
theorem SVA.grow (h : SVA W B q Y b) (hg : G W W') : SVA W' B q Y b := by
  have := h.lt
  exact ⟨(hg.block B (by omega)).trans h.1, (hg.block (B + 1) (by omega)).trans h.2.1, (hg.block (B + 2) (by omega)).trans h.2.2⟩
theorem SVA.c0 (h : SVA W B q Y b) : W.cell? ⟨B, 0, none⟩ = some (.string q) := cell_of_block0 h.1
theorem SVA.c1 (h : SVA W B q Y b) : W.cell? ⟨B + 1, 0, none⟩ = some Y := cell_of_block0 h.2.1
theorem SVA.c2 (h : SVA W B q Y b) : W.cell? ⟨B + 2, 0, none⟩ = some (.bool b) := cell_of_block0 h.2.2
theorem SVA.f2 (h : SVA W B q Y b) : W.frozen? ⟨B + 2, 0, none⟩ = false := by
  have h' := h.2.2
  simp [World.frozen?, h']
theorem SVA.set (h : SVA W B q Y b) (b' : Bool) : SVA (W.setCell ⟨B + 2, 0, none⟩ (.bool b')) B q Y b' := by
  refine ⟨(Below.heap_setCell _ _ _ _ (by show B ≠ B + 2; omega)).trans h.1, (Below.heap_setCell _ _ _ _ (by show B + 1 ≠ B + 2; omega)).trans h.2.1, ?_⟩
  have h' := h.2.2
  unfold World.setCell
  simp only []
  rw [Array.getElem?_modify]
  simp [h']
end
theorem SVA.new (w : World) (q : ByteArray) (Y : Value) : SVA (((w.alloc (.cells #[.string q] 9)).alloc (.cells #[Y] 97)).alloc (.cells #[.bool false] 4)) w.heap.size q Y false := by
  refine ⟨?_, ?_, ?_⟩
  · rw [Below.heap_alloc _ _ _ (by rw [World.size_alloc, World.size_alloc]; omega), Below.heap_alloc _ _ _ (by rw [World.size_alloc]; omega)]; exact World.alloc_heap_new w _
  · rw [Below.heap_alloc _ _ _ (by rw [World.size_alloc, World.size_alloc]; omega)]
    have := World.alloc_heap_new (w.alloc (.cells #[.string q] 9)) (.cells #[Y] 97)
    rwa [World.size_alloc] at this
  · have := World.alloc_heap_new ((w.alloc (.cells #[.string q] 9)).alloc (.cells #[Y] 97)) (.cells #[.bool false] 4)
    rwa [World.size_alloc, World.size_alloc] at this
theorem SVA.own {w : World} {B B5 : Nat} {q : ByteArray} {Y : Value} {β : Type} (C : β → Prop) (hB : w.heap.size ≤ B5) : OwnFrom B5 (fun (pre : β) W => SVA W B q Y false ∧ G w W ∧ C pre) := by
  intro s W W' row ⟨h1, h2, h3⟩ hg hr
  have hc : ∀ (b : Nat) (x : Obj), W.heap[b]? = some x → x.isCells = true → W'.heap[b]? = W.heap[b]? := fun b x hb hx => hg.block b (Array.getElem?_eq_some_iff.1 hb).1 fun e => by
    obtain ⟨_, x', hx', hc'⟩ := hr b e.symm
    rw [hb] at hx'
    cases hx'
    rw [hx] at hc'
    cases hc'
  refine ⟨⟨(hc _ _ h1.1 rfl).trans h1.1, (hc _ _ h1.2.1 rfl).trans h1.2.1, (hc _ _ h1.2.2 rfl).trans h1.2.2⟩, ?_, h3⟩
  exact Below.trans (B := w.heap.size) h2 ⟨hg.os, hg.tape, hg.output, hg.size, fun b hb => hg.block b (by have := h2.size; omega) fun e => by have := (hr b e.symm).1; omega⟩
set_option maxRecDepth 100000 in
theorem below_any (p n : ByteArray) (w : World) (hs : p.size + n.size ≤ 1000000000) : Calls Try.prog 110 #[.string p, .string n] w fun e w' => e = .returned (.string (bel p n)) ∧ w' = w := by
  unfold bel
  by_cases h : p.size = 0
  · rw [if_pos h]
    have e : p.toList = [] := List.length_eq_zero_iff.1 (by have := tl_len p; unfold tl at this; omega)
    have b1 : (p.toList == []) = true := by simp [e]
    have b2 : p.toList.isEmpty = true := by simp [e]
    go_enter Try.func110, Try.ntmps110
    go_wp2
    go_ret
    exact ⟨rfl, rfl⟩
  · rw [if_neg h]
    have e : ¬ p.toList = [] := fun e => h (by have := tl_len p; unfold tl at this; rw [e] at this; simpa using this.symm)
    have b1 : (p.toList == []) = false := by simpa using e
    have b2 : p.toList.isEmpty = false := by simpa using e
    have a1 : ¬ 9223372036854775807 < p.size + 1 := by omega
    have a2 : ¬ 9223372036854775807 < p.size + 1 + n.size := by omega
    go_enter Try.func110, Try.ntmps110
    go_wp2
    go_ret
    exact ⟨rfl, rfl⟩
theorem items_size : ∀ {k : K}, ∀ x ∈ k.items, x.k.flat.size < k.flat.size
  | .nil, x, hx => by cases hx
  | .node q p nm v m kids ah be, x, hx => by
    rw [K.flat, F.app_size, F.size]
    rw [K.items, List.mem_append, List.mem_cons] at hx
    rcases hx with hx | rfl | hx
    · have := items_size x hx; omega
    · show kids.flat.size < _; omega
    · have := items_size x hx; omega
theorem items_in {q : ByteArray} {x : Kid} {y : ByteArray × Vd} (hy : y = (bel q x.nm, x.v) ∨ y ∈ itemsF (bel q x.nm) x.k.flat) : ∀ {l : List Kid}, x ∈ l → y ∈ itemsF q (kidsF l)
  | [], h => by cases h
  | z :: l, h => by
    rw [kidsF, itemsF, List.mem_cons, List.mem_append]
    rcases List.mem_cons.1 h with h | h
    · subst h
      rcases hy with hy | hy
      · exact .inl hy
      · exact .inr (.inl hy)
    · exact .inr (.inr (items_in hy h))
theorem kids_names : ∀ {l : List Kid}, namesF (kidsF l) → ∀ x ∈ l, nameB (tl x.nm) = true ∧ namesF x.k.flat ∧ x.k.flat.depth + 1 ≤ (kidsF l).depth
  | [], _, x, h => by cases h
  | z :: l, ⟨h1, h2, h3⟩, x, h => by
    rcases List.mem_cons.1 h with h | h
    · subst h
      exact ⟨h1, h2, by simp only [kidsF, F.depth]; omega⟩
    · obtain ⟨a, b, c⟩ := kids_names h3 x h
      exact ⟨a, b, by simp only [kidsF, F.depth]; omega⟩
theorem bel_size {q n : ByteArray} (h : nameB (tl n) = true) : (bel q n).size ≤ q.size + 256 := by
  have h2 := (name_len h).2
  rw [tl_len] at h2
  unfold bel
  split
  · omega
  · rw [← tl_len, tl_append, tl_append, List.length_append, List.length_append, show tl (⟨#[47]⟩ : ByteArray) = [47] from tl_ofB [47], tl_len, tl_len]
    simp
    omega
/-- the function answers true of all these -/
def YOk (w : World) (y0 y1 y2 : Value) (l : List (ByteArray × Vd)) : Prop := ∀ x ∈ l, ∀ W, G w W → Calls Try.prog 62 #[.string x.1, .agg (vx x.2).toArray, y0, y1, y2] W fun e w' => e = .returned (.bool true) ∧ G W w'
def AllOk (k : K) : Prop := ∀ (p : Nat) (v : Vd) (m : Md) (q : ByteArray) (y0 y1 y2 : Value) (w : World), AtT w p v m k → namesF k.flat → q.size + 256 * k.flat.depth ≤ 1000000 → YOk w y0 y1 y2 ((q, v) :: itemsF q k.flat) →
    Calls Try.prog 90 #[.pointer (some ⟨p, 0, none⟩), .string q, .func (.func 62) #[] #[y0, y1, y2]] w fun e w' => e = .returned (.bool true) ∧ G w w'
set_option maxRecDepth 100000 in
set_option maxHeartbeats 4000000 in
theorem all_step (k : K) (ih : ∀ k' : K, k'.flat.size < k.flat.size → AllOk k') : AllOk k := by
  intro p v m q y0 y1 y2 w hT hnm hqs hY
  have HN := hid (⟨hnm, hqs⟩ : _ ∧ _)
  clear hnm hqs
  obtain ⟨pk, hT1, hT2⟩ := id hT
  obtain ⟨ak, rfl⟩ := hT2.form
  obtain ⟨X, hX⟩ : ∃ X, X = (vx v).toArray := ⟨_, rfl⟩
  have hXs : X.size = 35 := by rw [hX]; exact vx_size _
  have HLX0 : Hid (Lies w p 0 X) := by
    have h1 := hT1.part 0 35
    rw [tc_val, ← hX] at h1
    exact h1
  have CY : Hid (∀ W, G w W → Calls Try.prog 62 #[.string q, .agg X, y0, y1, y2] W fun e w' => e = .returned (.bool true) ∧ G W w') := fun W hW => by rw [hX]; exact hY (q, v) (by simp) W hW
  have HY : Hid (∀ y ∈ itemsF q k.flat, ∀ W, G w W → Calls Try.prog 62 #[.string y.1, .agg (vx y.2).toArray, y0, y1, y2] W fun e w' => e = .returned (.bool true) ∧ G W w') := fun y hy => hY y (by simp [hy])
  have HT := hid hT
  have HIH := hid ih
  obtain ⟨Y, hYv⟩ : ∃ Y : Value, Y = .func (.func 62) #[] #[y0, y1, y2] := ⟨_, rfl⟩
  rw [← hYv]
  have HYV := hid hYv
  have HS0 := hid (SVA.new w q Y)
  have HG0 : Hid (G w (((w.alloc (.cells #[.string q] 9)).alloc (.cells #[Y] 97)).alloc (.cells #[.bool false] 4))) := ((G.alloc _ _).trans (G.alloc _ _)).trans (G.alloc _ _)
  clear hX hT hT1 hT2 hY ih hYv
  refine (callsIn_wide (n := 3)).1 ?_
  refine callsIn_of_wp_marks Try.func90 rfl trivial (Go.wpIn_mono (Q := RetM Try.f90 _) ?_ RetM.post) rfl
  simp only [Try.ntmps90, List.size_toArray, List.length_cons, List.length_nil, Nat.reduceAdd, Nat.reduceSub, Array.replicate_succ, Array.replicate_zero, List.push_toArray, List.append_toArray, List.nil_append, List.cons_append]
  obtain ⟨B, hB⟩ : ∃ B, w.heap.size = B := ⟨_, rfl⟩
  gi_wp2_with fail
  rw [hB] at HS0
  have HB := hid hB
  generalize (((w.alloc (.cells #[.string q] 9)).alloc (.cells #[Y] 97)).alloc (.cells #[.bool false] 4)) = W1 at *
  clear hB
  try rw [show B + 1 + 1 = B + 2 from rfl]
  have HS : Hid (SVA W1.drew B q Y false) := HS0.out.grow (G.drew W1)
  have HG : Hid (G w W1.drew) := HG0.out.trans (G.drew W1)
  clear HS0 HG0
  refine wp_region_II ?_
  generalize W1.drew = W2 at *
  have HLX : Hid (Lies W2 p 0 X) := HG.out.lies HLX0.out
  have c0 := HS.out.c0
  have c1 := HS.out.c1
  rw [HYV.out] at c1
  refine takeII lets_wide 0 9 (.func (.func 62) #[] #[y0, y1, y2]) rfl rfl (by kernel_rfl) (by kernel_rfl) (by kernel_rfl) (by kernel_rfl) (fun _ _ _ h => h) (by kernel_rfl) (fun wz hz => ?_) ?_
  · have y0 := hz.cell c1; go_simp
  try simp only [Act.put, List.setIfInBounds_toArray, List.set_cons_zero, List.set_cons_succ]
  refine takeII lets_wide 1 10 (.string q) rfl rfl (by kernel_rfl) (by kernel_rfl) (by kernel_rfl) (by kernel_rfl) (fun _ _ _ h => h) (by kernel_rfl) (fun wz hz => ?_) ?_
  · have y0 := hz.cell c0; go_simp
  try simp only [Act.put, List.setIfInBounds_toArray, List.set_cons_zero, List.set_cons_succ]
  refine takeII lets_wide 2 11 (.pointer (some ⟨p, 0, none⟩)) rfl rfl (by kernel_rfl) (by kernel_rfl) (by kernel_rfl) (by kernel_rfl) (fun _ _ _ h => h) (by kernel_rfl) (fun wz hz => ?_) ?_
  · rfl
  try simp only [Act.put, List.setIfInBounds_toArray, List.set_cons_zero, List.set_cons_succ]
  refine takeII lets_wide 3 12 (.pointer (some ⟨p, 0, none⟩)) rfl rfl (by kernel_rfl) (by kernel_rfl) (by kernel_rfl) (by kernel_rfl) (fun _ _ _ h => h) (by kernel_rfl) (fun wz hz => ?_) ?_
  · go_simp
  try simp only [Act.put, List.setIfInBounds_toArray, List.set_cons_zero, List.set_cons_succ]
  refine takeII lets_wide 4 13 (.pointer (some ⟨p, 0, none⟩)) rfl rfl (by kernel_rfl) (by kernel_rfl) (by kernel_rfl) (by kernel_rfl) (fun _ _ _ h => h) (by kernel_rfl) (fun wz hz => ?_) ?_
  · go_simp
  try simp only [Act.put, List.setIfInBounds_toArray, List.set_cons_zero, List.set_cons_succ]
  refine takeII lets_wide 5 14 (.agg X) rfl rfl (by kernel_rfl) (by kernel_rfl) (by kernel_rfl) (by kernel_rfl) (fun _ _ _ h => h) (by kernel_rfl) (fun wz hz => ?_) ?_
  · exact exec_load24 _ rfl p 0 rfl X hXs (hz.lies HLX.out)
  try simp only [Act.put, List.setIfInBounds_toArray, List.set_cons_zero, List.set_cons_succ]
  refine callII lets_wide 6 15 (.bool true) 62 #[.string q, .agg X, y0, y1, y2] rfl rfl (by kernel_rfl) (by kernel_rfl) (by kernel_rfl) (by kernel_rfl) (fun _ _ _ h => h) (by kernel_rfl) (fun wz => by go_simp) (fun wz hz => ?_) ?_
  · exact callsIn_wide.2 (CY.out wz (HG.out.trans hz))
  try simp only [Act.put, List.setIfInBounds_toArray, List.set_cons_zero, List.set_cons_succ]
  refine takeII lets_wide 7 16 (.bool false) rfl rfl (by kernel_rfl) (by kernel_rfl) (by kernel_rfl) (by kernel_rfl) (fun _ _ _ h => h) (by kernel_rfl) (fun wz hz => ?_) ?_
  · go_simp
  try simp only [Act.put, List.setIfInBounds_toArray, List.set_cons_zero, List.set_cons_succ]
  refine doneII (by kernel_rfl) (fun W9 hg9 => ?_)
  have H9 := hid (⟨HG.out.trans hg9, HS.out.grow hg9⟩ : G w W9 ∧ SVA W9 B q Y false)
  clear hg9 c0 c1 HLX
  gi_wp2_with (first
    | (gi_at_call 66; refine (callsIn_wide.2 (childrenF_any p _)).mono ?_; rintro e w' ⟨rfl, rfl⟩)
    | (refine ⟨trivial, ?_⟩; gi_at_call 66; refine (callsIn_wide.2 (childrenF_any p _)).mono ?_; rintro e w' ⟨rfl, rfl⟩))
  refine step_worldIn (fun W5 => G w W5 ∧ SVA W5 B q Y false ∧ W5.cell? ⟨W9.heap.size, 0, none⟩ = some (.pointer (some ⟨p, 0, none⟩)) ∧ W9.heap.size < W5.heap.size) ⟨H9.out.1.trans (G.alloc _ _), H9.out.2.grow (G.alloc _ _), lies_cell (lies_new _ _ _) 0 _ rfl, by simp⟩ fun W5 H5 => ?_
  obtain ⟨hG5, hS5, hc5, hs5⟩ := H5
  generalize W9.heap.size = Bt at *
  have hle5 : w.heap.size ≤ W5.heap.size := hG5.size
  refine wpIn_rangeFunc_ownF rfl (by omega) (gf := 92) (lb := #[.pointer (some ⟨Bt, 0, none⟩)]) rfl trivial (enters_of Try.func92 (by kernel_rfl) rfl)
    (children_stopsP 2 w (fun x => x ∈ k.items) Bt p v m k W5 hs5 hc5 HT.out (fun x hx => hx) hG5)
    (fun h k => h.trans k) (belowK_b hle5) (Below.refl _ _) (fun _ => rfl)
    (fun pre W => SVA W B q Y false ∧ G w W ∧ True) (fun c pre W => SVA W B q Y false ∧ G w W ∧ False) (SVA.own (fun _ => True) hle5) (fun c => SVA.own (fun _ => False) hle5) ⟨hS5, hG5, trivial⟩
    ?a1 ?assign ?body ?done ?stop
  case assign =>
    intro l x W K hK
    gi_wp2
    exact hK
  case stop =>
    rintro D c pre W hD hpre ⟨hS, hG, hf⟩ hK
    exact hf.elim
  case body =>
    rintro l pre x W ⟨hS, hG, _⟩ hlen
    obtain ⟨⟨xnm, xp, xv, xm, xk⟩, hxT, hxG⟩ := x
    simp only at hxT
    obtain ⟨q2, hq2⟩ : ∃ q2, bel q xnm = q2 := ⟨_, rfl⟩
    have CB : Hid (∀ W', Calls Try.prog 110 #[.string q, .string xnm] W' fun e w' => e = .returned (.string q2) ∧ G W' w') := fun W' => by
      rw [← hq2]
      have hkn := kids_names (l := k.items) (by rw [kidsF_items]; exact HN.out.1) _ hxG
      have h2 := (name_len hkn.1).2
      rw [tl_len] at h2
      simp only at h2
      exact Calls.grown (below_any q xnm W' (by have := HN.out.2; omega))
    have CS : Hid (∀ W', G w W' → Calls Try.prog 90 #[.pointer (some ⟨xp, 0, none⟩), .string q2, .func (.func 62) #[] #[y0, y1, y2]] W' fun e w' => e = .returned (.bool true) ∧ G W' w') := fun W' hW => by
      refine HIH.out xk (items_size _ hxG) xp xv xm q2 y0 y1 y2 W' (hxT.grow hW) (kids_names (l := k.items) (by rw [kidsF_items]; exact HN.out.1) _ hxG).2.1 (by have hkn := kids_names (l := k.items) (by rw [kidsF_items]; exact HN.out.1) _ hxG; have h1 := bel_size (q := q) hkn.1; have h2 := hkn.2.2; have h3 := HN.out.2; rw [kidsF_items] at h2; simp only at h1 h2; rw [hq2] at h1; omega) ?_
      intro y hy W'' hW''
      refine HY.out y ?_ W'' (hW.trans hW'')
      rw [← kidsF_items k]
      refine items_in (x := ⟨xnm, xp, xv, xm, xk⟩) ?_ hxG
      show y = (bel q xnm, xv) ∨ y ∈ itemsF (bel q xnm) xk.flat
      rw [hq2]
      exact List.mem_cons.1 hy
    have HSW := hid (⟨hS, hG⟩ : _ ∧ _)
    clear hS hG hq2
    gi_wp2_with fail
    refine wp_region_II ?_
    have HS2 : Hid (SVA W.drew B q Y false ∧ G w W.drew ∧ G W W.drew) := ⟨HSW.out.1.grow (G.drew W), HSW.out.2.trans (G.drew W), G.drew W⟩
    generalize W.drew = W6 at *
    have d0 := HS2.out.1.c0
    have d1 := HS2.out.1.c1
    rw [HYV.out] at d1
    refine takeII lets_round 0 21 (.pointer (some ⟨xp, 0, none⟩)) rfl rfl (by kernel_rfl) (by kernel_rfl) (by kernel_rfl) (by kernel_rfl) (fun _ _ _ h => h) (by kernel_rfl) (fun wz hz => ?_) ?_
    · rfl
    try simp only [Act.put, List.setIfInBounds_toArray, List.set_cons_zero, List.set_cons_succ]
    refine takeII lets_round 1 22 (.string q) rfl rfl (by kernel_rfl) (by kernel_rfl) (by kernel_rfl) (by kernel_rfl) (fun _ _ _ h => h) (by kernel_rfl) (fun wz hz => ?_) ?_
    · have y0 := hz.cell d0; go_simp
    try simp only [Act.put, List.setIfInBounds_toArray, List.set_cons_zero, List.set_cons_succ]
    refine takeII lets_round 2 23 (.string xnm) rfl rfl (by kernel_rfl) (by kernel_rfl) (by kernel_rfl) (by kernel_rfl) (fun _ _ _ h => h) (by kernel_rfl) (fun wz hz => ?_) ?_
    · rfl
    try simp only [Act.put, List.setIfInBounds_toArray, List.set_cons_zero, List.set_cons_succ]
    refine callII lets_round 3 24 (.string q2) 110 #[.string q, .string xnm] rfl rfl (by kernel_rfl) (by kernel_rfl) (by kernel_rfl) (by kernel_rfl) (fun _ _ _ h => h) (by kernel_rfl) (fun wz => by go_simp) (fun wz hz => ?_) ?_
    · exact CallsIn.inRound l (callsIn_wide.2 (CB.out wz))
    try simp only [Act.put, List.setIfInBounds_toArray, List.set_cons_zero, List.set_cons_succ]
    refine takeII lets_round 4 25 (.func (.func 62) #[] #[y0, y1, y2]) rfl rfl (by kernel_rfl) (by kernel_rfl) (by kernel_rfl) (by kernel_rfl) (fun _ _ _ h => h) (by kernel_rfl) (fun wz hz => ?_) ?_
    · have y0 := hz.cell d1; go_simp
    try simp only [Act.put, List.setIfInBounds_toArray, List.set_cons_zero, List.set_cons_succ]
    refine callII lets_round 5 26 (.bool true) 90 #[.pointer (some ⟨xp, 0, none⟩), .string q2, .func (.func 62) #[] #[y0, y1, y2]] rfl rfl (by kernel_rfl) (by kernel_rfl) (by kernel_rfl) (by kernel_rfl) (fun _ _ _ h => h) (by kernel_rfl) (fun wz => by go_simp) (fun wz hz => ?_) ?_
    · exact CallsIn.inRound l (callsIn_wide.2 (CS.out wz (HS2.out.2.1.trans hz)))
    try simp only [Act.put, List.setIfInBounds_toArray, List.set_cons_zero, List.set_cons_succ]
    refine takeII lets_round 6 27 (.bool false) rfl rfl (by kernel_rfl) (by kernel_rfl) (by kernel_rfl) (by kernel_rfl) (fun _ _ _ h => h) (by kernel_rfl) (fun wz hz => ?_) ?_
    · go_simp
    try simp only [Act.put, List.setIfInBounds_toArray, List.set_cons_zero, List.set_cons_succ]
    refine doneII (by kernel_rfl) (fun W9 hg9 => ?_)
    have H9b := hid (⟨HS2.out.1.grow hg9, HS2.out.2.1.trans hg9, HS2.out.2.2.trans hg9⟩ : SVA W9 B q Y false ∧ G w W9 ∧ G W W9)
    clear hg9 d0 d1
    gi_wp2_with fail
    exact ⟨keeps_of H9b.out.2.2, H9b.out.2.2.mono (by have := HSW.out.2.size; exact this), H9b.out.1, H9b.out.2.1⟩
  case done =>
    rintro D ys W hD hys ⟨hS, hG, _⟩ hK
    have hne : B + 2 ≠ D := fun e => by
      have h1 := hS.2.2
      rw [e, hK] at h1
      cases h1
    have e2 := hS.c2
    have f2 := hS.f2
    have HF := hid (⟨hS, hG, hK, hD⟩ : _ ∧ _ ∧ _ ∧ _)
    clear hS hG hK hys hD
    gi_wp2_with fail
    obtain ⟨hS, hG, hK, hD⟩ := HF.out
    have hBw := HB.out
    have hK4 : (W.setCell ⟨B + 2, 0, none⟩ (.bool true)).heap[D]? = some (.deferred (some [])) := (Below.heap_setCell _ _ _ D (Ne.symm hne)).trans hK
    refine ⟨by simp, .inl ⟨_, _, rfl, run_takeDeferred hK4, ?_⟩⟩
    refine ⟨_, results_bool (p := 6) rfl _ _ (B + 2) true rfl (by rw [← (hS.set true).c2]; exact World.cell?_of_block (World.putObj_heap_other hne)), rfl, ?_⟩
    exact Below.trans (B := w.heap.size) (Below.setCell (p := ⟨B + 2, 0, none⟩) hG (by show w.heap.size ≤ B + 2; omega) _) ⟨rfl, rfl, rfl, by simp, fun k hk => World.putObj_heap_other (by omega)⟩
theorem all_any : ∀ (Z : Nat) (k : K), k.flat.size < Z → AllOk k
  | 0, _, h => absurd h (Nat.not_lt_zero _)
  | Z + 1, k, h => all_step k fun k' hk => all_any Z k' (by omega)
end Go.Proofs.Ytjkbhfkeagfhbaa
