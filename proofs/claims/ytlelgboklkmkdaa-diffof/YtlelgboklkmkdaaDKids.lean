import Derived.Test.YtlelgboklkmkdaaDSm
set_option maxRecDepth 100000
set_option maxHeartbeats 4000000
/-
  diff.kidsOf by contract.
-/
namespace Go.Proofs.Ytlelgboklkmkdaa
open Go.RowKit Go.Shelf
attribute [local go_sem] Oper.semAt_some
def kdC (x : Kid) : List Value := [.string x.nm, .pointer (some ⟨x.p, 0, none⟩)]
def kcs : List Kid → List Value
  | [] => []
  | x :: L => kdC x ++ kcs L
theorem kcs_len : ∀ L : List Kid, (kcs L).length = L.length * 2
  | [] => rfl
  | x :: L => by simp only [kcs, List.length_append, kdC, List.length_cons, List.length_nil, kcs_len L]; omega
theorem kcs_snoc : ∀ (L : List Kid) (x : Kid), kcs (L ++ [x]) = kcs L ++ kdC x
  | [], x => by simp [kcs]
  | y :: L, x => by rw [List.cons_append, kcs, kcs, kcs_snoc L x, List.append_assoc]
/-- the kids so far -/
def KI (w : World) (B : Nat) (L : List Kid) (W : World) : Prop := ∃ u, G w W ∧ W.heap[B]? = some (.cells #[u] 97 (0, 0)) ∧ W.ownsRow (B + 1) 96 2 u L.length (kcs L)
theorem KI.own {w : World} {B B5 S : Nat} {w0 : World} (hB : w.heap.size = B) (h5 : B ≤ B5) : OwnFrom B5 (fun (pre : List (KidIn w0 S)) W => KI w B (kids pre) W) := by
  intro s W W' row ⟨u, h1, h2, h4⟩ hg hr
  have hc : ∀ (b : Nat) (o : Obj), W.heap[b]? = some o → o.isCells = true → W'.heap[b]? = W.heap[b]? := fun b o hb ho => hg.block b (Array.getElem?_eq_some_iff.1 hb).1 fun e => by
    obtain ⟨_, o', ho', hc'⟩ := hr b e.symm
    rw [hb] at ho'
    cases ho'
    rw [ho] at hc'
    cases hc'
  refine ⟨u, ?_, (hc _ _ h2 rfl).trans h2, ?_⟩
  · exact Below.trans (B := w.heap.size) h1 ⟨hg.os, hg.tape, hg.output, hg.size, fun b hb => hg.block b (by have := h1.size; omega) fun e => by have := (hr b e.symm).1; omega⟩
  · obtain ⟨hl, h | ⟨g, cap, cur, hv, hb, hh, hr'⟩⟩ := h4
    · exact ⟨hl, .inl h⟩
    · exact ⟨hl, .inr ⟨g, cap, cur, hv, hb, (hc _ _ hh rfl).trans hh, hr'⟩⟩
theorem info96 : (Try.prog.info? 96).map (fun i => (i.zero, i.size, i.bytes)) = some (some (.agg #[.string ⟨#[]⟩, .pointer none]), 2, 24) := by kernel_rfl
theorem kidsOf_any (p : Nat) (v : Vd) (m : Md) (k : K) (w : World) (hT : AtT w p v m k) (hsz : k.flat.size ≤ 100000) :
    Calls Try.prog 39 #[.pointer (some ⟨p, 0, none⟩)] w fun e w' => ∃ u, e = .returned u ∧ w'.ownsRow w.heap.size 96 2 u k.items.length (kcs k.items) ∧ G w w' := by
  have HT := hid hT
  obtain ⟨B, hB⟩ : ∃ B, w.heap.size = B := ⟨_, rfl⟩
  clear hT
  refine (callsIn_wide (n := 3)).1 ?_
  refine callsIn_of_wp_marks Try.func39 rfl trivial (Go.wpIn_mono (Q := RetM Try.f39 _) ?_ RetM.post) rfl
  simp only [Try.ntmps39, List.size_toArray, List.length_cons, List.length_nil, Nat.reduceAdd, Nat.reduceSub, Array.replicate_succ, Array.replicate_zero, List.push_toArray, List.append_toArray, List.nil_append, List.cons_append]
  gi_wp2_with (first
    | (gi_at_call 25; refine (callsIn_wide.2 (childrenF_any p _)).mono ?_; rintro e w' ⟨rfl, rfl⟩)
    | (refine ⟨trivial, ?_⟩; gi_at_call 25; refine (callsIn_wide.2 (childrenF_any p _)).mono ?_; rintro e w' ⟨rfl, rfl⟩))
  obtain ⟨W5, hW5⟩ : ∃ W5, (w.alloc (.cells #[.slice none 0 0] 97)).alloc (.cells #[.pointer (some ⟨p, 0, none⟩)] 32) = W5 := ⟨_, rfl⟩
  have g0 : G w (w.alloc (.cells #[.slice none 0 0] 97)) := G.alloc w _
  have g1 : G (w.alloc (.cells #[.slice none 0 0] 97)) W5 := by rw [← hW5]; exact G.alloc _ _
  have hG5 : G w W5 := g0.trans g1
  have hs5 : W5.heap.size = B + 2 := by rw [← hW5]; simp [hB]
  have hb5 : W5.heap[B]? = some (.cells #[.slice none 0 0] 97 (0, 0)) := by
    have h0 : (w.alloc (.cells #[.slice none 0 0] 97)).heap[B]? = some (.cells #[.slice none 0 0] 97 (0, 0)) := by rw [← hB]; exact heap_alloc_new _ _
    exact (Below.block g1 B (by simp [hB])).trans h0
  have hc5 : W5.cell? ⟨B + 1, 0, none⟩ = some (.pointer (some ⟨p, 0, none⟩)) := by
    rw [← hW5]
    have := lies_cell (lies_new (w.alloc (.cells #[.slice none 0 0] 97)) #[.pointer (some ⟨p, 0, none⟩)] 32) 0 _ rfl
    simpa [hB] using this
  have hKI : KI w B [] W5 := ⟨.slice none 0 0, hG5, hb5, World.ownsRow_nil _ _ _ _⟩
  obtain ⟨i0, hi, hz0, hz1, hz2⟩ := info_parts info96
  rw [hW5]
  clear hW5 g0 g1
  refine wpIn_rangeFunc_ownF rfl (by omega) (gf := 43) (lb := #[.pointer (some ⟨B + 1, 0, none⟩)]) rfl trivial (enters_of Try.func43 (by kernel_rfl) rfl)
    (children_stops 2 w k.flat.size (B + 1) p v m k W5 (by omega) hc5 HT.out (Nat.le_refl _) hG5)
    (fun h k => h.trans k) (belowK_b (by omega)) (Below.refl _ _) (fun _ => rfl)
    (fun pre W => KI w B (kids pre) W) (fun _ _ _ => False) (KI.own hB (by omega)) (fun _ _ _ _ _ hs _ _ => hs) hKI
    (fun x => { tmps := #[.pointer (some ⟨p, 0, none⟩), undef, .slice none 0 0, .pointer (some ⟨B, 0, none⟩), .string x.1.nm, .pointer (some ⟨x.1.p, 0, none⟩), .pointer (some ⟨p, 0, none⟩), .bool false, .pointer (some ⟨p, 0, none⟩), .func (.func 43) #[] #[.pointer (some ⟨B + 1, 0, none⟩)], .string x.1.nm, .pointer (some ⟨x.1.p, 0, none⟩), undef, undef, undef, undef, undef, undef, undef], defers := [] }) ?assign ?body ?done ?stop
  case assign =>
    intro l x W K hK
    gi_wp2
    exact hK
  case stop =>
    rintro D c pre W _ _ h _
    exact h.elim
  case body =>
    rintro l pre x W ⟨u, h1, h2, h3⟩ hlen
    obtain ⟨n0, hn0⟩ : ∃ n0, (kids pre).length = n0 := ⟨_, rfl⟩
    have hn1 : n0 ≤ 100000 := by
      have : pre.length = n0 := by rw [← hn0]; simp
      rw [K.items_len] at hlen
      have := k.flat.len_le_size
      omega
    rw [hn0] at h3
    obtain ⟨ao, uc, hu⟩ := owns_form h3
    subst hu
    obtain ⟨D, hD⟩ : ∃ D, W.heap.size = D := ⟨_, rfl⟩
    have hBW : B < W.heap.size := (Array.getElem?_eq_some_iff.1 h2).1
    have cu : W.cell? ⟨B, 0, none⟩ = some (.slice ao n0 uc) := cell_of_row _ _ 0 _ _ _ h2
    obtain ⟨Wa, hWa⟩ : ∃ Wa, W.alloc (.cells #[.string x.1.nm, .pointer (some ⟨x.1.p, 0, none⟩)] 96) = Wa := ⟨_, rfl⟩
    have ga : G W Wa := by rw [← hWa]; exact G.alloc _ _
    have oa : Wa.ownsRow (B + 1) 96 2 (.slice ao n0 uc) n0 (kcs (kids pre)) := by rw [← hWa]; exact World.ownsRow.alloc h3 _
    obtain ⟨v', W2, hr2, o2, gr2, _, _⟩ := run_append_own_at (P := Try.prog) Wa (B + 1) 97 97 96 i0 _ 2 24 Try.underlying97 hi hz0 hz1 hz2 rfl (by decide) _ n0 _ oa ⟨D, 0, none⟩ 1 1 (kdC x.1) rfl (fun j u hj => by
      rw [← hWa, ← hD]
      have := lies_cell (lies_new W #[.string x.1.nm, .pointer (some ⟨x.1.p, 0, none⟩)] 96) j u (by simpa [kdC] using hj)
      simpa [Addr.add_mid] using this) (fun u hu => by simp [kdC] at hu; rcases hu with rfl | rfl <;> rfl) (by unfold maxLen; omega) (by omega) (by have := ga.size; omega)
    obtain ⟨a2, c2, e2⟩ := owns_form o2
    subst e2
    have hBn : (Value.slice ao n0 uc).ownBlock ≠ some B := fun e => by have := (World.ownsRow.lt h3 B e).1; omega
    have b2 : W2.heap[B]? = some (.cells #[.slice ao n0 uc] 97 (0, 0)) := (gr2.block B (by have := ga.size; omega) (fun e => hBn e.symm)).trans ((Below.block ga B hBW).trans h2)
    have cz : W2.cell? ⟨B, 0, none⟩ = some (.slice ao n0 uc) := cell_of_row _ _ 0 _ _ _ b2
    have fz : W2.frozen? ⟨B, 0, none⟩ = false := by simp [World.frozen?, b2]
    have HR := hid hr2
    have HALL := hid (And.intro h1 (And.intro h2 (And.intro h3 (And.intro ga (And.intro o2 (And.intro gr2 b2))))))
    clear h1 h2 h3 ga oa hr2 o2 gr2 b2 hKI hc5 hb5
    gi_wp2_with ((with_reducible refine wpListIn_execW (.slice a2 (n0 + 1) c2) W2 ?_ ?_ ?_ ?_ ?_); rfl; exact (by unfold execOp; simp only [resolve, invoke, builtin, Sem.run_bind, Sem.run_pure, Result.andThen_ok, List.map_toArray, List.map_cons, List.map_nil]; exact congrArg (fun r => Result.andThen r _) HR.out); (intro c h; cases h); exact fun _ _ => trivial)
    obtain ⟨h1, h2, h3, ga, o2, gr2, b2⟩ := HALL.out
    obtain ⟨Wz, hWz⟩ : ∃ Wz, W2.setCell ⟨B, 0, none⟩ (.slice a2 (n0 + 1) c2) = Wz := ⟨_, rfl⟩
    rw [hWz]
    have sz : Wz.heap.size = W2.heap.size := by rw [← hWz]; simp
    have hlt := World.ownsRow.lt h3
    have s1 := ga.size
    have s2 := gr2.size
    have hold : ∀ b, b < W.heap.size → b ≠ B → (Value.slice ao n0 uc).ownBlock ≠ some b → Wz.heap[b]? = W.heap[b]? := fun b hb hn hu => by
      rw [← hWz, Below.heap_setCell _ _ _ _ hn]
      exact (gr2.block b (by omega) (fun e => hu e.symm)).trans (Below.block ga b hb)
    have s0 := h1.size
    have hbel : Below w.heap.size W Wz := ⟨by rw [← hWz]; exact gr2.os.trans ga.os, by rw [← hWz]; exact gr2.tape.trans ga.tape, by rw [← hWz]; exact gr2.output.trans ga.output, by omega, fun b hb => hold b (by omega) (by omega) (fun e => by have := (hlt b e).1; omega)⟩
    refine ⟨⟨by omega, fun b o hb ho => ?_⟩, hbel, .slice a2 (n0 + 1) c2, Below.trans (B := w.heap.size) h1 hbel, ?_, ?_⟩
    · rw [hold b (Array.getElem?_eq_some_iff.1 hb).1 (fun e => ?_) (fun e => ?_)]
      · exact hb
      · subst e; rw [h2] at hb; cases hb; cases ho
      · obtain ⟨_, q | ⟨g', cap', cur, hv, _, hh, _⟩⟩ := h3
        · rw [q.1] at e; cases e
        · rw [hv] at e
          cases e
          rw [hh] at hb
          cases hb
          cases ho
    · rw [← hWz]; simp only [World.setCell, Array.getElem?_modify, if_true, b2]; rfl
    · rw [show kids (pre ++ [x]) = kids pre ++ [x.1] by simp, List.length_append, hn0, kcs_snoc]
      obtain ⟨q1, q | ⟨g', cap', cur, hv, hb', hh, hr'⟩⟩ := o2
      · exact ⟨q1, .inl q⟩
      · refine ⟨q1, .inr ⟨g', cap', cur, hv, hb', ?_, hr'⟩⟩
        rw [← hWz, Below.heap_setCell _ _ _ _ (by show g' ≠ B; omega)]
        exact hh
  case done =>
    rintro D ys W hD hys ⟨u, h1, h2, h3⟩ hK
    have hys1 : kids ys = k.items := hys
    rw [hys1] at h3
    have cu : W.cell? ⟨B, 0, none⟩ = some u := cell_of_row _ _ 0 _ _ _ h2
    obtain ⟨ao, uc, hu⟩ := owns_form h3
    subst hu
    have HF := hid (And.intro h1 (And.intro h2 (And.intro h3 hK)))
    clear h1 h2 h3 hK hKI hc5 hb5
    gi_wp2
    obtain ⟨h1, h2, h3, hK⟩ := HF.out
    refine ⟨by simp, .inl ⟨_, _, rfl, run_takeDeferred hK, ?_⟩⟩
    refine ⟨_, results_tmp (fn := Try.f39) (t := 2) rfl _ _ _, _, rfl, ?_, ?_⟩
    · obtain ⟨q1, q | ⟨g', cap', cur, hv, hb', hh, hr'⟩⟩ := h3
      · exact ⟨q1, .inl q⟩
      · refine ⟨q1, .inr ⟨g', cap', cur, hv, by omega, ?_, hr'⟩⟩
        rw [World.putObj_heap_other (fun e => by rw [e, hK] at hh; cases hh)]
        exact hh
    · refine Below.trans (B := w.heap.size) h1 ⟨rfl, rfl, rfl, by simp, fun b hb => World.putObj_heap_other (fun e => ?_)⟩
      omega
end Go.Proofs.Ytlelgboklkmkdaa
