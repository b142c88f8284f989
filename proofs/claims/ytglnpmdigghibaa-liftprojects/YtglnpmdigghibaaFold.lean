/-
  tree.Fold by contract.
-/
import Derived.Test.YtglnpmdigghibaaThing
import Derived.Laws.EntriesVeiled
namespace Go.Proofs.Ytglnpmdigghibaa
open Go.RowKit Go.Shelf
attribute [local go_sem] Oper.semAt_some

set_option maxRecDepth 100000 in
set_option maxHeartbeats 8000000 in
theorem fold_any (ver : Int) (k : K) (p : Nat) (v : Vd) (m : Md) (Bv : Nat) (w : World) (hT : AtT w p v m k) (hver : w.cell? ⟨Bv, 0, none⟩ = some (.int .i64 ver)) (hnm : namesF k.flat) (hd : 256 * k.flat.depth ≤ 1000000) (hsz : k.flat.size ≤ 100000) :
    Calls Try.prog 20 #[.pointer (some ⟨p, 0, none⟩), fc Bv] w fun e w' => ∃ c', e = .returned (.agg c') ∧ HasNP w' (NewC w w') c' ⟨#[]⟩ (pv ver v) Md.zero (k.flat.mp (pv ver) noM) ∧ G w w' := by
  obtain ⟨B, hB⟩ : ∃ B, w.heap.size = B := ⟨_, rfl⟩
  have C33 : Hid (∀ W, G w W → Calls Try.prog 33 #[.agg #[fc Bv], .string ⟨#[]⟩, .pointer (some ⟨p, 0, none⟩)] W fun e w' => ∃ c', e = .returned (.agg c') ∧ HasNP w' (NewC W w') c' ⟨#[]⟩ (pv ver v) Md.zero (k.flat.mp (pv ver) noM) ∧ G W w') := fun W hg => thing_any ver (k.flat.size + 1) k (Nat.lt_succ_self _) p v m ⟨#[]⟩ Bv W (hT.grow hg) (hg.cell hver) hnm (by show 0 + _ ≤ _; omega) hsz
  clear hT hver hnm hd hsz
  unfold fc at *
  obtain ⟨W1, hW1⟩ : ∃ W1, W1 = (w.alloc (.cells z30 30)).alloc (.cells #[.func (.func 21) #[] #[.pointer (some ⟨Bv, 0, none⟩)]] 79) := ⟨_, rfl⟩
  have H1 : Hid (G w W1 ∧ Var W1 B z30 ∧ W1.heap.size = B + 2) := by
    rw [hW1]
    refine ⟨(G.alloc w (.cells z30 30)).trans (G.alloc _ _), ?_, by rw [World.size_alloc, World.size_alloc, hB]⟩
    have h := Var.new w z30
    rw [hB] at h
    exact h.grow (G.alloc _ _)
  refine (callsIn_wide (n := 3)).1 ?_
  refine callsIn_of_wp_marks Try.func20 rfl trivial (Go.wpIn_mono (Q := RetM Try.f20 _) ?_ RetM.post) rfl
  simp only [Try.ntmps20, List.size_toArray, List.length_cons, List.length_nil, Nat.reduceAdd, Nat.reduceSub, Array.replicate_succ, Array.replicate_zero, List.push_toArray, List.append_toArray, List.nil_append, List.cons_append]
  gi_wp2_with (first
    | ((with_reducible refine wpListIn_execW (.pointer (some ⟨B, 0, none⟩)) (w.alloc (.cells z30 30)) ?_ ?_ ?_ ?_ ?_); rfl; exact exec_alloc30e rfl _ _ hB; (intro c h; cases h); exact fun _ _ => trivial)
    | (refine ⟨trivial, ?_⟩; gi_at_call 33; rw [← hW1]; refine (callsIn_wide.2 (C33.out W1 H1.out.1)).mono ?_; rintro e W3 ⟨c', rfl, hn, hg⟩; have HV : Hid (Var W3 B z30 ∧ c'.size = 41 ∧ c'.all (·.oneCell') = true) := ⟨H1.out.2.1.grow hg, by { obtain ⟨kv, rfl, a2, cap2, rfl, _⟩ := hn; exact ⟨nc_size .., nc_one _ _ _ _ rfl⟩ }⟩; have HN := hid (And.intro hn hg); clear hn hg)
    | ((with_reducible refine wpListIn_skipW (W3.setRow B c') ?_ ?_ ?_ ?_ ?_); rfl; exact exec_store30 _ _ rfl B c' z30 rfl rfl _ HV.out.1 HV.out.2.1 z30_size HV.out.2.2; (intro c h; cases h); exact fun _ _ => trivial))
  obtain ⟨hn, hg⟩ := HN.out
  have hBw : w.heap.size = B := hB
  have hs := hg.size
  have hs1 := H1.out.2.2
  have hoth : ∀ b, b ≠ B → (W3.setRow B c').heap[b]? = W3.heap[b]? := fun b hb => setRow_other _ B b _ hb
  refine ⟨_, results_cell_row (P := Try.prog) (p := 4) (ty := 30) rfl _ _ B 30 c' (0, 0) _ rfl HV.out.1.set under30 rfl (by rw [size30, HV.out.2.1]), c', rfl, ?_, Below.trans (B := w.heap.size) (H1.out.1.trans hg) ⟨rfl, rfl, rfl, by simp, fun b hb => hoth b (by omega)⟩⟩
  obtain ⟨kv, hkv, hk⟩ := hn
  refine ⟨kv, hkv, hk.keep fun b hb => ?_⟩
  obtain ⟨h8, o, ho, hoc⟩ := hb
  have e := hoth b (by omega)
  exact ⟨e, by omega, o, e.trans ho, hoc⟩
end Go.Proofs.Ytglnpmdigghibaa
