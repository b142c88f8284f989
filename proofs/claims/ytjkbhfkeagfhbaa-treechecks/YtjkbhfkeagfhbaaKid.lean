/-
  THE ROOM's kid, by layNodes' contract.
-/
import Derived.Test.YtjkbhfkeagfhbaaLentF
import Derived.Test.YtjkbhfkeagfhbaaCopy
namespace Go.Proofs.Ytjkbhfkeagfhbaa
open Go.RowKit

/-- what layNodes and its fellows leave -/
def LayTo (R : Nat) (w : World) (s : Sg) (w' : World) (s' : Sg) (kv : Value) (f : F) : Prop :=
  RM w' R s' ∧ To R w s w' s' ∧ s'.ls.length = s.ls.length + f.size + 1 ∧ HasSD w' (fun b => w.heap.size ≤ b ∧ b < w'.heap.size ∧ ¬ XB R s' b) kv f
def LayOk (w0 : World) (R : Nat) (f : F) : Prop := ∀ (vl : Value) (k : Nat) (w : World) (s : Sg), HasS w0 vl f → Below R w0 w → RM w R s → 0 < k → k ≤ 40 → f.weight ≤ 20000 → s.ls.length + f.size ≤ 60000 →
    Calls Try.prog 70 #[.pointer (some ⟨R, 0, none⟩), vl, .int .i64 k] w fun e w' => ∃ kv s', e = .returned kv ∧ LayTo R w s w' s' kv f
def KidOk (w0 : World) (R : Nat) (ks : F) : Prop := ∀ (c : Array Value) (nm : ByteArray) (v : Vd) (m : Md) (w : World) (s : Sg), HasN w0 c nm v m ks → Below R w0 w → RM w R s → ks.weight ≤ 20000 → s.ls.length + ks.size ≤ 60000 →
    Calls Try.prog 96 #[.pointer (some ⟨R, 0, none⟩), .agg c] w fun e w' => ∃ kv s', e = .returned (.agg (nc nm v m kv)) ∧ LayTo R w s w' s' kv ks
theorem LayTo.later {R : Nat} {w w2 w3 w4 : World} {s s' : Sg} {kv : Value} {f : F} (h : LayTo R w2 s w3 s' kv f) (hm : RM w R s) (hg : Below w.heap.size w w2) (h4 : ∀ b, b < w.heap.size ∨ w2.heap.size ≤ b → w4.heap[b]? = w3.heap[b]?) (hb4 : Below w.heap.size w3 w4) : LayTo R w s w4 s' kv f := by
  obtain ⟨h1, h2, h3, h5⟩ := h
  have hR : R < w.heap.size := hm.lt (.inl (.inl rfl))
  have hs := hg.size
  have hs2 := h2.bel.size
  have hs4 := hb4.size
  refine ⟨h1.keep (fun b hb => h4 b ?_) hs4, ((To.grow hg (by omega)).trans h2).late hb4 (by omega), h3, h5.keep fun b hb => ⟨h4 b (.inr hb.1), by omega, by omega, hb.2.2⟩⟩
  rcases h2.rb b hb with e | e
  · exact .inl (hm.lt e)
  · exact .inr e
set_option maxRecDepth 100000 in
set_option maxHeartbeats 2000000 in
theorem kid_of_lay (w0 : World) (R : Nat) (ks : F) (hl : LayOk w0 R ks) : KidOk w0 R ks := by
  intro c nm v m w s ⟨kv0, hc, hS⟩ hb hm hw hn
  have hsz : c.size = 41 := by rw [hc]; exact nc_size ..
  have hgB : Below w.heap.size w ((w.alloc (.cells c 30)).alloc (.cells z30 30)) := (G.alloc _ _).trans (G.alloc _ _)
  have hRl : R < w.heap.size := hm.lt (.inl (.inl rfl))
  have hV0 := (Var.new w c).grow (G.alloc (w.alloc (.cells c 30)) (.cells z30 30))
  have hV1 := Var.new (w.alloc (.cells c 30)) z30
  rw [World.size_alloc] at hV1
  have C70 := hl kv0 4 _ s hS (hb.trans (hgB.mono (by omega))) (hm.grow hgB) (by omega) (by omega) hw hn
  obtain ⟨a, cap, rfl, _⟩ := hS.form
  have c40 := lies_cell hV0.lies 40 (.slice a ks.len cap) (by rw [hc]; exact nc_kids ..)
  have HX := hid (⟨hgB, hm, hV0, hV1, hc, by simp⟩ : Below w.heap.size w ((w.alloc (.cells c 30)).alloc (.cells z30 30)) ∧ RM w R s ∧ Var ((w.alloc (.cells c 30)).alloc (.cells z30 30)) w.heap.size c ∧ Var ((w.alloc (.cells c 30)).alloc (.cells z30 30)) (w.heap.size + 1) z30 ∧ c = nc nm v m (.slice a ks.len cap) ∧ ((w.alloc (.cells c 30)).alloc (.cells z30 30)).heap.size = w.heap.size + 2)
  clear hgB hm hV0 hV1 hc hl hS hb hw hn
  go_enter Try.func96, Try.ntmps96
  go_upto_region 1 with (with_reducible refine wpList_execW (.pointer (some ⟨(w.alloc (.cells c 30)).heap.size, 0, none⟩)) ((w.alloc (.cells c 30)).alloc (.cells z30 30)) ?_ ?_ ?_; exact exec_alloc30 rfl _; kernel_rfl)
  try simp only [Act.put, List.setIfInBounds_toArray, List.set_cons_zero, List.set_cons_succ, World.size_alloc]
  generalize (w.alloc (.cells c 30)).alloc (.cells z30 30) = w2 at *
  obtain ⟨B, hB⟩ : ∃ B, w.heap.size = B := ⟨_, rfl⟩
  rw [hB] at c40 HX ⊢
  have HB := hid hB
  clear hB
  go_wp2_with (first
    | (go_at_call 70; refine C70.mono ?_; rintro e w3 ⟨kv, s', rfl, hL⟩; have HL := hid hL; obtain ⟨a3, cap3, rfl, hl3⟩ := hL.2.2.2; clear hL C70; have hV0 : Var w3 B c := (HL.out.2.1.block B (by have := HX.out.2.2.2.2.2; omega) (fun e => by have := HX.out.2.1.lt (.inl e); have := HB.out; omega)).trans HX.out.2.2.1; have hfz : w3.frozen? ⟨B, 40, none⟩ = false := var_frozen hV0 40; have q40 := lies_cell hV0.lies 40 (.slice a ks.len cap) (by rw [HX.out.2.2.2.2.1]; exact nc_kids ..); have hVS : Var (w3.setCell ⟨B, 40, none⟩ (.slice a3 ks.len cap3)) B (nc nm v m (.slice a3 ks.len cap3)) := by { have := hV0.setCell 40 (.slice a3 ks.len cap3); rw [HX.out.2.2.2.2.1, nc_kset] at this; exact this }; have hVT : Var (w3.setCell ⟨B, 40, none⟩ (.slice a3 ks.len cap3)) (B + 1) z30 := (Below.heap_setCell _ _ _ _ (by show B + 1 ≠ B; omega)).trans ((HL.out.2.1.block (B + 1) (by have := HX.out.2.2.2.2.2; omega) (fun e => by have := HX.out.2.1.lt (.inl e); have := HB.out; omega)).trans HX.out.2.2.2.1); have HV := hid (⟨hVS, hVT⟩ : _ ∧ _); clear hVS hVT hV0 hl3)
    | (with_reducible refine wpList_exec (.agg (nc nm v m (.slice a3 ks.len cap3))) ?_ ?_ ?_; exact exec_load30 _ rfl B 0 rfl _ (nc_size ..) HV.out.1.lies; kernel_rfl)
    | (with_reducible refine wpList_skipW ((w3.setCell ⟨B, 40, none⟩ (.slice a3 ks.len cap3)).setRow (B + 1) (nc nm v m (.slice a3 ks.len cap3))) ?_ ?_ ?_; exact exec_store30 _ _ rfl (B + 1) _ z30 rfl rfl _ HV.out.2 (nc_size ..) z30_size (nc_one _ _ _ _ rfl); kernel_rfl))
  refine bodyPost_ret (results_cell_row (P := Try.prog) (p := 4) (ty := 30) rfl _ _ (B + 1) 30 (nc nm v m (.slice a3 ks.len cap3)) (0, 0) _ rfl HV.out.2.set under30 rfl (by rw [size30, nc_size])) rfl ?_
  refine ⟨_, s', rfl, HL.out.later HX.out.2.1 (by rw [HB.out]; exact HX.out.1) (fun b hb => ?_) ⟨rfl, rfl, rfl, by simp, fun b hb => ?_⟩⟩
  · have h1 := HX.out.2.2.2.2.2
    have h2 := HB.out
    exact (setRow_other _ (B + 1) b _ (by omega)).trans (Below.heap_setCell _ _ _ b (by show b ≠ B; omega))
  · have h2 := HB.out
    exact (setRow_other _ (B + 1) b _ (by omega)).trans (Below.heap_setCell _ _ _ b (by show b ≠ B; omega))
end Go.Proofs.Ytjkbhfkeagfhbaa
