/-
  elsewhere by contract, where it answers true.
-/
import Derived.Test.YtjkbhfkeagfhbaaAllA
namespace Go.Proofs.Ytjkbhfkeagfhbaa
open Go.RowKit Go.Shelf
variable {P : Nat → Prop}

theorem setCell_same {w : World} {B : Nat} {v : Value} {ty : TypeId} (h : w.heap[B]? = some (.cells #[v] ty (0, 0))) : w.setCell ⟨B, 0, none⟩ v = w := by
  have e : (w.setCell ⟨B, 0, none⟩ v).heap = w.heap := by
    unfold World.setCell
    simp only []
    apply Array.ext_getElem?
    intro i
    rw [Array.getElem?_modify]
    by_cases hi : B = i
    · subst hi
      simp [h]
    · simp [hi]
  unfold World.setCell at e ⊢
  simp only [] at e
  rw [e]
theorem exec_nil95 {o : Oper} {a : Act} (x y : Operand) (ho : o.op = .binOp .eql 95 x y 95) (f : Fn) (u v : Array Value) (hx : a.eval x = .func f u v) (hy : a.eval y = .nilFunc) (w : World) : (execOp a.eval o).run Try.prog w = .ok (.value (.bool false)) w := by
  have h' : (binOp BinOp.eql 95 (.func f u v) .nilFunc).run Try.prog w = .ok (.bool false) w := by kernel_rfl
  unfold execOp
  simp only [ho, hx, hy, eqGuard, Sem.run_bind]
  simp [Result.andThen, h']
/-- what the callback of elsewhere reads -/
structure EV (W : World) (Bu Bp Bw pu : Nat) (p : ByteArray) : Prop where
  u : W.heap[Bu]? = some (.cells #[.pointer (some ⟨pu, 0, none⟩)] 55 (0, 0))
  p : W.heap[Bp]? = some (.cells #[.string p] 9 (0, 0))
  w : W.heap[Bw]? = some (.cells #[.bool true] 4 (0, 0))
theorem EV.grow {W W' : World} {Bu Bp Bw pu : Nat} {p : ByteArray} (h : EV W Bu Bp Bw pu p) (hg : G W W') : EV W' Bu Bp Bw pu p :=
  ⟨(hg.block _ (Array.getElem?_eq_some_iff.1 h.u).1).trans h.u, (hg.block _ (Array.getElem?_eq_some_iff.1 h.p).1).trans h.p, (hg.block _ (Array.getElem?_eq_some_iff.1 h.w).1).trans h.w⟩
theorem EV.fw {W : World} {Bu Bp Bw pu : Nat} {p : ByteArray} (h : EV W Bu Bp Bw pu p) : W.frozen? ⟨Bw, 0, none⟩ = false := by
  have h' := h.w
  simp [World.frozen?, h']
set_option maxRecDepth 100000 in
set_option maxHeartbeats 2000000 in
theorem els62 (q : ByteArray) (v : Vd) (Bu Bp Bw pu : Nat) (u : T3) (p : ByteArray) (w : World) (hE : EV w Bu Bp Bw pu p) (ht : AtTF P w pu u.1 u.2.1 u.2.2) (hr : u.2.2.rises) (hq : q.size ≤ 1048576) (hp : p.size ≤ 1048576) (he : Els u p q v) :
    Calls Try.prog 62 #[.string q, .agg (vx v).toArray, .pointer (some ⟨Bu, 0, none⟩), .pointer (some ⟨Bp, 0, none⟩), .pointer (some ⟨Bw, 0, none⟩)] w fun e w' => e = .returned (.bool true) ∧ G w w' := by
  obtain ⟨X, hX⟩ : ∃ X, (vx v).toArray = X := ⟨_, rfl⟩
  obtain ⟨Y, hY⟩ : ∃ Y, (vx (atV u q)).toArray = Y := ⟨_, rfl⟩
  obtain ⟨b, hb⟩ : ∃ b, (subS u q).isSome = b := ⟨_, rfl⟩
  obtain ⟨c, hc⟩ : ∃ c, underB (tl q) (tl p) = c := ⟨_, rfl⟩
  have hXs : X.size = 35 ∧ X.all (·.oneCell') = true := by rw [← hX]; exact ⟨vx_size _, vx_one _⟩
  have hYs : Y.size = 35 ∧ Y.all (·.oneCell') = true := by rw [← hY]; exact ⟨vx_size _, vx_one _⟩
  rw [hX]
  have HG0 := hid (G.alloc w (.cells X 24))
  have HV0 := hid (⟨World.alloc_heap_new w (.cells X 24), hE.grow HG0.out⟩ : Var24 (w.alloc (.cells X 24)) w.heap.size X ∧ EV (w.alloc (.cells X 24)) Bu Bp Bw pu p)
  have C1 := at_any pu u q _ (ht.grow HG0.out) hr hq
  rw [hY, hb] at C1
  have HE := hid he
  have HX := hid (⟨hX, hY, hb, hc⟩ : _ ∧ _ ∧ _ ∧ _)
  have c1 := cell_of_block0 HV0.out.2.u
  clear hE ht hr he hX hY hb hc
  go_enter Try.func62, Try.ntmps62
  go_upto_region 1 with fail
  generalize w.alloc (.cells X 24) = w1 at *
  generalize hB : w.heap.size = B at *
  clear hB
  go_wp2_with fail
  refine C1.mono ?_
  rintro e w2 ⟨rfl, hg2⟩
  have hn := new_var24 w2 Y
  have hV2 : Var24 (w2.alloc (.cells (vx Vd.zero).toArray 24)) w2.heap.size (vx Vd.zero).toArray := World.alloc_heap_new w2 _
  have H2 := hid (⟨hn, hV2⟩ : _ ∧ _)
  have H3 := hid (⟨HV0.out.1.grow (hg2.trans hn.1), HV0.out.2.grow (hg2.trans hn.1), HG0.out.trans (hg2.trans hn.1), hn.2⟩ : _ ∧ _ ∧ _ ∧ _)
  clear C1 hg2 hn hV2 HV0 HG0 c1
  go_upto_region 2 with (first
    | ((with_reducible refine wpList_execW (.pointer (some ⟨w2.heap.size, 0, none⟩)) (w2.alloc (.cells (vx Vd.zero).toArray 24)) ?_ ?_ ?_); exact exec_alloc24 rfl _; kernel_rfl)
    | ((with_reducible refine wpList_skipW ((w2.alloc (.cells (vx Vd.zero).toArray 24)).setRow w2.heap.size Y) ?_ ?_ ?_); exact exec_store24 _ _ rfl w2.heap.size _ (vx Vd.zero).toArray rfl rfl _ H2.out.2 hYs.1 (vx_size _) hYs.2; kernel_rfl))
  try simp only [Act.put, List.setIfInBounds_toArray, List.set_cons_zero, List.set_cons_succ]
  clear H2
  generalize (w2.alloc (.cells (vx Vd.zero).toArray 24)).setRow w2.heap.size Y = w3 at *
  generalize w2.heap.size = B2 at *
  have c2 := cell_of_block0 H3.out.2.1.p
  have c3 := cell_of_block0 H3.out.2.1.w
  have f3 := H3.out.2.1.fw
  have C2 := under_any q p w3 (by omega) (by omega)
  rw [HX.out.2.2.2] at C2
  have HFin : Hid (G w (w3.setCell ⟨Bw, 0, none⟩ (.bool true))) := by
    show G w _
    rw [setCell_same H3.out.2.1.w]
    exact H3.out.2.2.1
  go_wp2_with fail
  refine C2.mono ?_
  rintro e w4 ⟨rfl, rfl⟩
  clear C2
  cases c with
  | true =>
    go_wp2_with fail
    go_ret
    exact ⟨rfl, HFin.out⟩
  | false =>
    have hbt : b = true ∧ atV u q = v := by
      rcases HE.out with h | ⟨h1, h2⟩
      · rw [HX.out.2.2.2] at h; cases h
      · exact ⟨by rw [← HX.out.2.2.1]; exact h1, h2⟩
    have HEQ : Hid (decide (atV u q = v) = true) := by show _ = _; rw [decide_eq_true_eq]; exact hbt.2
    obtain ⟨rfl, _⟩ := hbt
    go_wp2_with (first
      | ((with_reducible refine wpList_exec (.agg Y) ?_ ?_ ?_); exact exec_load24 _ rfl B2 0 rfl Y hYs.1 H3.out.2.2.2.lies; kernel_rfl)
      | ((with_reducible refine wpList_exec (.agg X) ?_ ?_ ?_); exact exec_load24 _ rfl B 0 rfl X hXs.1 H3.out.1.lies; kernel_rfl)
      | ((with_reducible refine wpList_exec (.bool true) ?_ ?_ ?_); exact exec_eq24' _ _ rfl Y X rfl rfl (atV u q) v HX.out.2.1.symm HX.out.1.symm true HEQ.out _; kernel_rfl))
    go_ret
    exact ⟨rfl, HFin.out⟩
set_option maxRecDepth 100000 in
theorem all61 (p : Nat) (w : World) : Calls Try.prog 61 #[.pointer (some ⟨p, 0, none⟩)] w fun e w' => e = .returned (.func (.func 89) #[] #[.pointer (some ⟨w.heap.size, 0, none⟩)]) ∧ w' = w.alloc (.cells #[.pointer (some ⟨p, 0, none⟩)] 55) := by
  go_enter Try.func61, Try.ntmps61
  go_wp2
  go_ret
  exact ⟨rfl, rfl⟩
set_option maxRecDepth 100000 in
theorem all89 (p B3 : Nat) (t : T3) (y0 y1 y2 : Value) (w : World) (hc : w.cell? ⟨B3, 0, none⟩ = some (.pointer (some ⟨p, 0, none⟩))) (ht : AtTF P w p t.1 t.2.1 t.2.2) (hF : Fine t) (hY : YOk w y0 y1 y2 (itemsT t)) :
    Calls Try.prog 89 #[.func (.func 62) #[] #[y0, y1, y2], .pointer (some ⟨B3, 0, none⟩)] w fun e w' => (∃ v, e = .returned v) ∧ G w w' := by
  obtain ⟨k, hk, hf, _⟩ := ht
  have C := all_any _ k (Nat.lt_succ_self _) p t.1 t.2.1 ⟨#[]⟩ y0 y1 y2 w hk (by rw [hf]; exact hF.names) (by rw [hf]; have := hF.depth; show 0 + 256 * t.2.2.depth ≤ 1000000; omega) (by rw [hf]; exact hY)
  clear hk hf hY hF
  go_enter Try.func89, Try.ntmps89
  go_wp2_with fail
  refine C.mono ?_
  rintro e w2 ⟨rfl, hg2⟩
  have HG := hid hg2
  clear hg2 C
  go_wp2_with fail
  go_end0
  exact ⟨⟨_, rfl⟩, HG.out⟩
set_option maxRecDepth 100000 in
set_option maxHeartbeats 2000000 in
theorem elsewhere_any (pt pu : Nat) (t u : T3) (p : ByteArray) (w : World) (ht : AtTF P w pt t.1 t.2.1 t.2.2) (hu : AtTF P w pu u.1 u.2.1 u.2.2) (hr : u.2.2.rises) (hF : Fine t) (hp : p.size ≤ 1048576) (he : ∀ x ∈ itemsT t, Els u p x.1 x.2) :
    Calls Try.prog 21 #[.pointer (some ⟨pt, 0, none⟩), .pointer (some ⟨pu, 0, none⟩), .string p] w fun e w' => e = .returned (.bool true) ∧ G w w' := by
  obtain ⟨B, hB⟩ : ∃ B, w.heap.size = B := ⟨_, rfl⟩
  have HG0 : Hid (G w (((w.alloc (.cells #[.pointer (some ⟨pu, 0, none⟩)] 55)).alloc (.cells #[.string p] 9)).alloc (.cells #[.bool true] 4))) := ((G.alloc _ _).trans (G.alloc _ _)).trans (G.alloc _ _)
  have HE : Hid (EV (((w.alloc (.cells #[.pointer (some ⟨pu, 0, none⟩)] 55)).alloc (.cells #[.string p] 9)).alloc (.cells #[.bool true] 4)) B (B + 1) (B + 2) pu p) := by
    have h1 := World.alloc_heap_new w (.cells #[.pointer (some ⟨pu, 0, none⟩)] 55)
    have h2 := World.alloc_heap_new (w.alloc (.cells #[.pointer (some ⟨pu, 0, none⟩)] 55)) (.cells #[.string p] 9)
    have h3 := World.alloc_heap_new ((w.alloc (.cells #[.pointer (some ⟨pu, 0, none⟩)] 55)).alloc (.cells #[.string p] 9)) (.cells #[.bool true] 4)
    rw [World.size_alloc] at h2
    rw [World.size_alloc, World.size_alloc] at h3
    rw [hB] at h1 h2 h3
    refine ⟨?_, ?_, ?_⟩
    · rw [Below.heap_alloc _ _ _ (by rw [World.size_alloc, World.size_alloc, hB]; omega), Below.heap_alloc _ _ _ (by rw [World.size_alloc, hB]; omega)]; exact h1
    · rw [Below.heap_alloc _ _ _ (by rw [World.size_alloc, World.size_alloc, hB]; omega)]; exact h2
    · exact h3
  have HT := hid (⟨ht, hu, hr, hF, hp, he⟩ : _ ∧ _ ∧ _ ∧ _ ∧ _ ∧ _)
  clear ht hu hr hF hp he
  go_enter Try.func21, Try.ntmps21
  go_upto_region 2 with fail
  try rw [hB]
  generalize ((w.alloc (.cells #[.pointer (some ⟨pu, 0, none⟩)] 55)).alloc (.cells #[.string p] 9)).alloc (.cells #[.bool true] 4) = w1 at *
  rw [show B + 1 + 1 = B + 2 from rfl]
  clear hB
  go_wp2_with fail
  refine (all61 pt w1).mono ?_
  rintro e w2 ⟨rfl, rfl⟩
  have hg1 := G.alloc w1 (.cells #[.pointer (some ⟨pt, 0, none⟩)] 55)
  have hcN : (w1.alloc (.cells #[.pointer (some ⟨pt, 0, none⟩)] 55)).cell? ⟨w1.heap.size, 0, none⟩ = some (.pointer (some ⟨pt, 0, none⟩)) := cell_of_block0 (World.alloc_heap_new w1 _)
  have H2 := hid (⟨HE.out.grow hg1, HG0.out.trans hg1, hcN⟩ : _ ∧ _ ∧ _)
  clear hg1 hcN HE HG0
  generalize hW : w1.alloc (.cells #[.pointer (some ⟨pt, 0, none⟩)] 55) = w2 at *
  clear hW
  generalize w1.heap.size = B3 at *
  have hY : YOk w2 (.pointer (some ⟨B, 0, none⟩)) (.pointer (some ⟨B + 1, 0, none⟩)) (.pointer (some ⟨B + 2, 0, none⟩)) (itemsT t) := by
    intro x hx W hW
    have hsz : x.1.size ≤ 1048576 := by
      obtain ⟨M, z, e1, _, _, e4, e5⟩ := itemsT_dn HT.out.2.2.2.1 (q := x.1) (v := x.2) hx
      rw [e1]
      have := jn_size e4 e5
      omega
    exact els62 x.1 x.2 B (B + 1) (B + 2) pu u p W (H2.out.1.grow hW) (HT.out.2.1.grow (H2.out.2.1.trans hW)) HT.out.2.2.1 hsz HT.out.2.2.2.2.1 (HT.out.2.2.2.2.2 x hx)
  have C2 := all89 pt B3 t _ _ _ w2 H2.out.2.2 (HT.out.1.grow H2.out.2.1) HT.out.2.2.2.1 hY
  clear hY
  go_wp2_with ((with_reducible refine wpList_exec (.bool false) ?_ ?_ ?_); exact exec_nil95 _ _ rfl _ _ _ rfl rfl _; kernel_rfl)
  refine C2.mono ?_
  rintro e w3 ⟨⟨vv, rfl⟩, hg3⟩
  have H3 := hid (⟨H2.out.1.grow hg3, H2.out.2.1.trans hg3⟩ : _ ∧ _)
  have c3 := cell_of_block0 H3.out.1.w
  clear C2 hg3 H2
  go_wp2_with fail
  go_ret
  exact ⟨rfl, H3.out.2⟩
end Go.Proofs.Ytjkbhfkeagfhbaa
