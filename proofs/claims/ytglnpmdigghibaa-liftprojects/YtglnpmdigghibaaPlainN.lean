/-
  twineref4.Plain, twinelaw4.sameNode by contract.
-/
import Derived.Test.YtglnpmdigghibaaCopy
namespace Go.Proofs.Ytglnpmdigghibaa
open Go.RowKit

theorem HasNP.facts {w : World} {P : Nat → Prop} {c : Array Value} {nm : ByteArray} {v : Vd} {m : Md} {ks : F} (h : HasNP w P c nm v m ks) : c.size = 41 ∧ c.all (·.oneCell') = true := by
  obtain ⟨kv2, rfl, hk2⟩ := h
  obtain ⟨a2, cap2, rfl, _⟩ := hk2
  exact ⟨nc_size .., nc_one _ _ _ _ rfl⟩

set_option maxRecDepth 100000 in
set_option maxHeartbeats 1000000 in
theorem plain_any (nm : ByteArray) (v : Vd) (m : Md) (ks : F) (c : Array Value) (w : World) (hN : HasN w c nm v m ks) (hw : ks.weight ≤ 100000) :
    Calls Try.prog 7 #[.agg c] w fun e w' => ∃ c', e = .returned (.agg c') ∧ HasNP w' (New w w') c' ⟨#[]⟩ v m ks ∧ G w w' := by
  have hV1 := (Var.new w c).grow (G.alloc (w.alloc (.cells c 30)) (.cells z30 30))
  have hV2 := Var.new (w.alloc (.cells c 30)) z30
  rw [World.size_alloc] at hV2
  have hG : G w ((w.alloc (.cells c 30)).alloc (.cells z30 30)) := (G.alloc _ _).trans (G.alloc _ _)
  have CC := copy_any (ks.size + 1) ks (Nat.lt_succ_self _) nm v m c _ (hN.below hG) hw
  have hsz : c.size = 41 := by obtain ⟨_, rfl, _⟩ := hN; exact nc_size ..
  have HV : Hid (Var ((w.alloc (.cells c 30)).alloc (.cells z30 30)) w.heap.size c ∧ Var ((w.alloc (.cells c 30)).alloc (.cells z30 30)) (w.heap.size + 1) z30 ∧ G w ((w.alloc (.cells c 30)).alloc (.cells z30 30)) ∧ ((w.alloc (.cells c 30)).alloc (.cells z30 30)).heap.size = w.heap.size + 2) := ⟨hV1, hV2, hG, by simp⟩
  clear hV1 hV2 hN hG
  go_enter Try.func7, Try.ntmps7
  go_upto_region 1 with (with_reducible refine wpList_execW (.pointer (some ⟨(w.alloc (.cells c 30)).heap.size, 0, none⟩)) ((w.alloc (.cells c 30)).alloc (.cells z30 30)) ?_ ?_ ?_; exact exec_alloc30 rfl _; kernel_rfl)
  try simp only [Act.put, List.setIfInBounds_toArray, List.set_cons_zero, List.set_cons_succ, World.size_alloc]
  generalize (w.alloc (.cells c 30)).alloc (.cells z30 30) = w1 at *
  obtain ⟨B, hB⟩ : ∃ B, w.heap.size = B := ⟨_, rfl⟩
  rw [hB] at HV ⊢
  have HB : Hid (w.heap.size = B) := hB
  clear hB
  go_upto_region 2 with (first
    | (with_reducible refine wpList_exec (.agg c) ?_ ?_ ?_; exact exec_load30 _ rfl B 0 rfl c hsz HV.out.1.lies; kernel_rfl)
    | (go_at_call 19; refine CC.mono ?_; rintro e w2 ⟨c2, rfl, hn2, hg2⟩; have HN2 : Hid (HasNP w2 (New w1 w2) c2 nm v m ks ∧ G w1 w2 ∧ Var w2 B c ∧ Var w2 (B + 1) z30) := ⟨hn2, hg2, HV.out.1.grow hg2, HV.out.2.1.grow hg2⟩; clear CC hn2 hg2)
    | (with_reducible refine wpList_skipW (w2.setRow B c2) ?_ ?_ ?_; exact exec_store30 _ _ rfl B c2 c rfl rfl _ HN2.out.2.2.1 HN2.out.1.facts.1 hsz HN2.out.1.facts.2; kernel_rfl))
  have hv3 : Var (w2.setRow B c2) B c2 := HN2.out.2.2.1.set
  have hv4 : Var (w2.setRow B c2) (B + 1) z30 := (setRow_other _ B (B + 1) _ (by omega)).trans HN2.out.2.2.2
  have ho3 : ∀ b, b ≠ B → (w2.setRow B c2).heap[b]? = w2.heap[b]? := fun b hb => setRow_other _ B b _ hb
  have hs3 : (w2.setRow B c2).heap.size = w2.heap.size := by simp
  have ht3 : (w2.setRow B c2).os = w2.os ∧ (w2.setRow B c2).tape = w2.tape ∧ (w2.setRow B c2).output = w2.output := ⟨rfl, rfl, rfl⟩
  obtain ⟨kv, hkv, hks⟩ := HN2.out.1
  obtain ⟨u0, hc0⟩ := cell_of_var hv3 0 (by rw [HN2.out.1.facts.1]; omega)
  have hfz := var_frozen hv3 0
  have HV3 : Hid (Var ((w2.setRow B c2).setCell ⟨B, 0, none⟩ (.string ⟨#[]⟩)) B (nc ⟨#[]⟩ v m kv) ∧ Var ((w2.setRow B c2).setCell ⟨B, 0, none⟩ (.string ⟨#[]⟩)) (B + 1) z30) := by
    refine ⟨?_, (Below.heap_setCell _ _ _ _ (by show B + 1 ≠ B; omega)).trans hv4⟩
    have := hv3.setCell 0 (.string ⟨#[]⟩)
    rw [hkv, nc_nset] at this
    rw [hkv]
    exact this
  have HO : Hid ((∀ b, b ≠ B → (w2.setRow B c2).heap[b]? = w2.heap[b]?) ∧ (w2.setRow B c2).heap.size = w2.heap.size ∧ (w2.setRow B c2).os = w2.os ∧ (w2.setRow B c2).tape = w2.tape ∧ (w2.setRow B c2).output = w2.output) := ⟨ho3, hs3, ht3⟩
  have HKS : Hid (HasSP w2 (New w1 w2) kv ks) := hks
  have hone : (nc ⟨#[]⟩ v m kv).all (·.oneCell') = true := by obtain ⟨a2, cap2, rfl, _⟩ := hks; exact nc_one _ _ _ _ rfl
  have HON := hid hone
  clear hv3 hv4 ho3 hs3 ht3 hkv hks hone
  generalize w2.setRow B c2 = w3 at *
  go_wp2_with (first
    | (with_reducible refine wpList_exec (.agg (nc ⟨#[]⟩ v m kv)) ?_ ?_ ?_; exact exec_load30 _ rfl B 0 rfl _ (nc_size ..) HV3.out.1.lies; kernel_rfl)
    | (with_reducible refine wpList_skipW ((w3.setCell ⟨B, 0, none⟩ (.string ⟨#[]⟩)).setRow (B + 1) (nc ⟨#[]⟩ v m kv)) ?_ ?_ ?_; exact exec_store30 _ _ rfl (B + 1) _ z30 rfl rfl _ HV3.out.2 (nc_size ..) z30_size HON.out; kernel_rfl))
  refine bodyPost_ret (results_cell_row (P := Try.prog) (p := 2) (ty := 30) rfl _ _ (B + 1) 30 (nc ⟨#[]⟩ v m kv) (0, 0) _ rfl HV3.out.2.set under30 rfl (by rw [size30, nc_size])) rfl ?_
  have hoth : ∀ b, b ≠ B → b ≠ B + 1 → ((w3.setCell ⟨B, 0, none⟩ (.string ⟨#[]⟩)).setRow (B + 1) (nc ⟨#[]⟩ v m kv)).heap[b]? = w2.heap[b]? := fun b h1 h2 =>
    ((setRow_other _ (B + 1) b _ h2).trans (Below.heap_setCell _ _ _ b (by show b ≠ B; exact h1))).trans (HO.out.1 b h1)
  have hsw := HV.out.2.2.2
  have hs2 := HN2.out.2.1.size
  have hs3 := HO.out.2.1
  have hwB := HB.out
  refine ⟨_, rfl, ⟨_, rfl, HKS.out.keep fun b hb => ⟨hoth b (by have := hb.1; omega) (by have := hb.1; omega), by have := hb.1; omega, by have := hb.2; simp; omega⟩⟩, ?_⟩
  refine Below.trans (B := w.heap.size) (HV.out.2.2.1.trans HN2.out.2.1) ⟨HO.out.2.2.1, HO.out.2.2.2.1, HO.out.2.2.2.2, by simp; omega, fun b hb => hoth b (by omega) (by omega)⟩

set_option maxRecDepth 100000 in
set_option maxHeartbeats 1000000 in
theorem sameNode_any (nm nm' : ByteArray) (v v' : Vd) (m m' : Md) (ks ks' : F) (c d : Array Value) (w : World) (hc : HasN w c nm v m ks) (hd : HasN w d nm' v' m' ks') (hl : ks.okL) (hl' : ks'.okL) :
    Calls Try.prog 9 #[.agg c, .agg d] w fun e w' => e = .returned (.bool (decide (nm = nm' ∧ v = v' ∧ m = m' ∧ ks = ks'))) ∧ G w w' := by
  have TB := two_boxes w c d
  have hG : G w ((w.alloc (.cells c 30)).alloc (.cells d 30)) := (G.alloc _ _).trans (G.alloc _ _)
  have CE := equal_any (ks.size + 1) ks (Nat.lt_succ_self _) nm nm' v v' m m' ks' c d _ (hc.below hG) (hd.below hG) hl hl'
  have n1 := lies_cell TB.1 0 (.string nm) (by obtain ⟨_, rfl, _⟩ := hc; exact nc_name ..)
  have n2 := lies_cell TB.2 0 (.string nm') (by obtain ⟨_, rfl, _⟩ := hd; exact nc_name ..)
  have HT : Hid (Lies ((w.alloc (.cells c 30)).alloc (.cells d 30)) w.heap.size 0 c ∧ Lies ((w.alloc (.cells c 30)).alloc (.cells d 30)) (w.heap.size + 1) 0 d ∧ c.size = 41 ∧ d.size = 41) := ⟨TB.1, TB.2, by obtain ⟨_, rfl, _⟩ := hc; exact nc_size .., by obtain ⟨_, rfl, _⟩ := hd; exact nc_size ..⟩
  have HG := hid hG
  obtain ⟨R, hR⟩ : ∃ R, decide (nm = nm' ∧ v = v' ∧ m = m' ∧ ks = ks') = R := ⟨_, rfl⟩
  rw [hR]
  obtain ⟨b, hb⟩ : ∃ b, decide (v = v' ∧ m = m' ∧ ks = ks') = b := ⟨_, rfl⟩
  rw [hb] at CE
  have HR : Hid (R = (decide (nm = nm') && b)) := by show _ = _; rw [← hR, ← hb]; simp only [Bool.decide_and]
  clear hR hb TB hc hd hG hl hl'
  go_enter Try.func9, Try.ntmps9
  go_upto_region 1 with fail
  generalize (w.alloc (.cells c 30)).alloc (.cells d 30) = w1 at *
  generalize w.heap.size = H at *
  by_cases hn : nm = nm'
  · subst hn
    have HF : Hid (R = b) := by show _ = _; rw [HR.out]; simp
    go_wp2_with (first
      | (with_reducible refine wpList_exec (.agg c) ?_ ?_ ?_; exact exec_load30 _ rfl H 0 rfl c HT.out.2.2.1 HT.out.1; kernel_rfl)
      | (with_reducible refine wpList_exec (.agg d) ?_ ?_ ?_; exact exec_load30 _ rfl (H + 1) 0 rfl d HT.out.2.2.2 HT.out.2.1; kernel_rfl)
      | (go_at_call 22; refine CE.mono ?_; rintro e w2 ⟨rfl, g2⟩))
    go_ret
    exact ⟨by rw [HF.out]; rfl, HG.out.trans g2⟩
  · have hn' : (nm.toList == nm'.toList) = false := by
      have : ¬ nm.toList = nm'.toList := fun e => hn (ext_of _ _ e)
      simpa using this
    have HF : Hid (R = false) := by show _ = _; rw [HR.out]; simp [hn]
    clear hn
    go_wp2_with fail
    go_ret
    exact ⟨by rw [HF.out]; rfl, HG.out⟩
end Go.Proofs.Ytglnpmdigghibaa
