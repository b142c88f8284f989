/-
  lift.Project by contract.
-/
import Derived.Test.YtglnpmdigghibaaPass
import Derived.Test.YtglnpmdigghibaaOfP
namespace Go.Proofs.Ytglnpmdigghibaa
open Go.RowKit

/-- what Check takes: right names, at most 64 levels -/
theorem faultF_deep : ∀ {f : F} {prev : Option ByteArray} {L : List ByteArray}, faultF f prev L = none → L.length ≤ 64 → namesF f ∧ L.length + f.depth ≤ 64
  | .nil, _, _, _, h => ⟨trivial, by simpa [F.depth] using h⟩
  | .cons nm v m ks r, prev, L, h, hL => by
    rw [faultF] at h
    by_cases h1 : placeE prev nm (L.length + 1) ≠ 0
    · rw [if_pos h1] at h; cases h
    rw [if_neg h1] at h
    by_cases h2 : ownE v m (decide (0 < ks.len)) ≠ 0
    · rw [if_pos h2] at h; cases h
    rw [if_neg h2] at h
    cases h3 : faultF ks none (L ++ [nm]) with
    | some x => rw [h3] at h; cases h
    | none =>
      rw [h3] at h
      have h5 : placeE prev nm (L.length + 1) = 0 := by simpa using h1
      unfold placeE at h5
      split at h5
      · cases h5
      rename_i h6
      split at h5
      · cases h5
      rename_i h7
      have ih1 := faultF_deep h3 (by simp; omega)
      have ih2 := faultF_deep (f := r) (prev := some nm) (L := L) h hL
      have hl : (L ++ [nm]).length = L.length + 1 := by simp
      rw [hl] at ih1
      refine ⟨⟨by simpa using h7, ih1.1, ih2.1⟩, ?_⟩
      show L.length + max (ks.depth + 1) r.depth ≤ 64
      omega
theorem check_deep {v : Vd} {m : Md} {ks : F} (h : checkE v m ks = 0) : namesF ks ∧ ks.depth ≤ 64 := by
  have := faultF_deep (check_none h).2 (by simp)
  simpa using this
theorem F.mp_same {fv fv' : Vd → Vd} {fm fm' : Md → Md} (hv : ∀ v, fv v = fv' v) (hm : ∀ m, fm m = fm' m) : ∀ f : F, f.mp fv fm = f.mp fv' fm'
  | .nil => rfl
  | .cons nm v m ks r => by rw [F.mp, F.mp, hv, hm, F.mp_same hv hm ks, F.mp_same hv hm r]
theorem F.mp_id {fv : Vd → Vd} {fm : Md → Md} (hv : ∀ v, fv v = v) (hm : ∀ m, fm m = m) : ∀ f : F, f.mp fv fm = f
  | .nil => rfl
  | .cons nm v m ks r => by rw [F.mp, hv, hm, F.mp_id hv hm ks, F.mp_id hv hm r]

/-- a tree that Project answers -/
def Pjd (w w' : World) (u : Value) (v : Vd) (m : Md) (f : F) : Prop := ∃ p k, u = .pointer (some ⟨p, 0, none⟩) ∧ AtT w' p v m k ∧ k.flat = f ∧ Tr w' p ∧ G w w'

set_option maxRecDepth 100000 in
set_option maxHeartbeats 4000000 in
theorem project_low (ver : Int) (hv : ver = 1 ∨ ver = 2) (k : K) (p : Nat) (v : Vd) (m : Md) (w : World) (hT : AtT w p v m k) (hce : checkE v m k.flat = 0) (hw : k.flat.weight ≤ 20000) :
    Calls Try.prog 8 #[.pointer (some ⟨p, 0, none⟩), .int .i64 ver] w fun e w' => ∃ u, e = .returned u ∧ Pjd w w' u (pv ver v) Md.zero (k.flat.mp (pv ver) noM) := by
  have hd := check_deep hce
  have hG1 : G w (w.alloc (.cells #[.int .i64 ver] 3)) := G.alloc _ _
  have hc1 : (w.alloc (.cells #[.int .i64 ver] 3)).cell? ⟨w.heap.size, 0, none⟩ = some (.int .i64 ver) := lies_cell (lies_new w #[.int .i64 ver] 3) 0 _ rfl
  have C20 := fold_any ver k p v m w.heap.size _ (hT.grow hG1) hc1 hd.1 (by omega) (by have := F.size_le_weight k.flat; omega)
  have H1 := hid (⟨hG1, hc1⟩ : _ ∧ _)
  have HE := hid (checkE_pv ver hce)
  have HW : Hid ((k.flat.mp (pv ver) noM).weight ≤ 100000) := by show _ ≤ _; rw [F.mp_weight]; omega
  clear hT hce hw hd hG1 hc1
  unfold fc at C20
  have C5 : Hid (∀ (c2 : Array Value) (W : World), HasN W c2 ⟨#[]⟩ (pv ver v) Md.zero (k.flat.mp (pv ver) noM) → Calls Try.prog 5 #[.agg c2] W fun e w' => ∃ u, e = .returned (.tuple #[u, .int .i64 0]) ∧ G W w' ∧ ∃ p k', u = .pointer (some ⟨p, 0, none⟩) ∧ AtT w' p (pv ver v) Md.zero k' ∧ k'.flat = k.flat.mp (pv ver) noM ∧ Tr w' p) := by
    intro c2 W hN
    have := of_anyP c2 _ _ _ _ W hN HW.out
    rw [HE.out] at this
    refine this.mono ?_
    rintro e w' ⟨u, rfl, hg, ⟨h, _⟩ | ⟨_, p, k', rfl, h1, h2, _, h4⟩⟩
    · exact absurd rfl h
    · exact ⟨_, rfl, hg, p, k', rfl, h1, h2, h4⟩
  clear HE HW
  generalize k.flat.mp (pv ver) noM = ks2 at *
  generalize pv ver v = v2 at *
  go_enter Try.func8, Try.ntmps8
  go_upto_region 1 with fail
  generalize w.alloc (.cells #[.int .i64 ver] 3) = w1 at *
  have hc1 := H1.out.2
  generalize w.heap.size = B at *
  rcases hv with rfl | rfl
  all_goals
    go_upto_region 4 with (first
      | (go_at_call 20; refine C20.mono ?_; rintro e w2 ⟨c2, rfl, hn2, hg2⟩; have hf2 := hn2.facts; have H2 := hid (⟨hn2, H1.out.1.trans hg2⟩ : _ ∧ G w w2); clear C20 hn2 hg2)
      | ((with_reducible refine wpList_execW (.pointer (some ⟨w2.heap.size, 0, none⟩)) (w2.alloc (.cells z30 30)) ?_ ?_ ?_); exact exec_alloc30 rfl _; kernel_rfl)
      | ((with_reducible refine wpList_skipW ((w2.alloc (.cells z30 30)).setRow w2.heap.size c2) ?_ ?_ ?_); exact exec_store30 _ _ rfl w2.heap.size c2 z30 rfl rfl _ (Var.new w2 z30) hf2.1 z30_size hf2.2; kernel_rfl))
    have h3 := new_var w2 c2
    have H3 := hid (⟨h3.2.1, H2.out.2.trans h3.1, H2.out.1.has.below h3.1⟩ : Var _ _ _ ∧ G w _ ∧ HasN _ c2 _ _ _ _)
    clear h3 H2
    generalize (w2.alloc (.cells z30 30)).setRow w2.heap.size c2 = w3 at *
    generalize w2.heap.size = B2 at *
    go_wp2_with (first
      | ((with_reducible refine wpList_exec (.agg c2) ?_ ?_ ?_); exact exec_load30 _ rfl B2 0 rfl c2 hf2.1 H3.out.1.lies; kernel_rfl)
      | (go_at_call 5; refine (C5.out c2 w3 H3.out.2.2).mono ?_; rintro e w4 ⟨u, rfl, hg4, h4⟩; have H4 := hid (And.intro hg4 h4); clear hg4 h4))
    go_ret
    obtain ⟨hg, p2, k2, hu, h1, h2, h3⟩ := H4.out
    exact ⟨_, rfl, p2, k2, hu, h1, h2, h3, H3.out.2.1.trans hg⟩

set_option maxRecDepth 100000 in
set_option maxHeartbeats 1000000 in
theorem project_high (ver : Int) (hv : ¬ (ver = 1 ∨ ver = 2)) (k : K) (p : Nat) (v : Vd) (m : Md) (w : World) (hT : AtT w p v m k) (hTr : Tr w p) :
    Calls Try.prog 8 #[.pointer (some ⟨p, 0, none⟩), .int .i64 ver] w fun e w' => ∃ u, e = .returned u ∧ Pjd w w' u v m k.flat := by
  have hG1 : G w (w.alloc (.cells #[.int .i64 ver] 3)) := G.alloc _ _
  have hc1 : (w.alloc (.cells #[.int .i64 ver] 3)).cell? ⟨w.heap.size, 0, none⟩ = some (.int .i64 ver) := lies_cell (lies_new w #[.int .i64 ver] 3) 0 _ rfl
  have H1 := hid (⟨hG1, hT.grow hG1, hTr.grow hG1⟩ : G w _ ∧ AtT _ p v m k ∧ Tr _ p)
  have h1 : (ver != 1) = true := by have : ¬ ver = 1 := fun h => hv (.inl h); simpa using this
  have h2 : (ver != 2) = true := by have : ¬ ver = 2 := fun h => hv (.inr h); simpa using this
  clear hT hTr hG1 hv
  go_enter Try.func8, Try.ntmps8
  go_upto_region 1 with fail
  generalize w.alloc (.cells #[.int .i64 ver] 3) = w1 at *
  generalize w.heap.size = B at *
  go_wp2_with fail
  go_ret
  exact ⟨_, rfl, p, k, rfl, H1.out.2.1, rfl, H1.out.2.2, H1.out.1⟩

theorem project_any (ver : Int) (k : K) (p : Nat) (v : Vd) (m : Md) (w : World) (hT : AtT w p v m k) (hTr : Tr w p) (hce : checkE v m k.flat = 0) (hw : k.flat.weight ≤ 20000) :
    Calls Try.prog 8 #[.pointer (some ⟨p, 0, none⟩), .int .i64 ver] w fun e w' => ∃ u, e = .returned u ∧ Pjd w w' u (pv ver v) (pm ver m) (k.flat.mp (pv ver) (pm ver)) := by
  by_cases hv : ver = 1 ∨ ver = 2
  · have e1 : pm ver m = Md.zero := if_pos hv
    have e2 : k.flat.mp (pv ver) (pm ver) = k.flat.mp (pv ver) noM := F.mp_same (fun _ => rfl) (fun _ => if_pos hv) _
    rw [e1, e2]
    exact project_low ver hv k p v m w hT hce hw
  · have e1 : pm ver m = m := if_neg hv
    have e0 : ∀ v, pv ver v = v := fun v => if_neg fun h => hv (.inl h)
    have e2 : k.flat.mp (pv ver) (pm ver) = k.flat := F.mp_id e0 (fun _ => if_neg hv) _
    rw [e1, e2, e0]
    exact project_high ver hv k p v m w hT hTr
end Go.Proofs.Ytglnpmdigghibaa
