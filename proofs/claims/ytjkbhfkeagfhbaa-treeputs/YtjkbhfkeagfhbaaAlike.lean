/-
  twinelaw4's alike by contract: a tree against raw data.
-/
import Derived.Test.YtjkbhfkeagfhbaaInW
import Derived.Test.YtjkbhfkeagfhbaaNode
namespace Go.Proofs.Ytjkbhfkeagfhbaa
open Go.RowKit

theorem HasNP.facts {w : World} {P : Nat → Prop} {c : Array Value} {nm : ByteArray} {v : Vd} {m : Md} {ks : F} (h : HasNP w P c nm v m ks) : c.size = 41 ∧ c.all (·.oneCell') = true := by
  obtain ⟨kv2, rfl, hk2⟩ := h
  obtain ⟨a2, cap2, rfl, _⟩ := hk2
  exact ⟨nc_size .., nc_one _ _ _ _ rfl⟩

set_option maxRecDepth 100000 in
set_option maxHeartbeats 1000000 in
theorem plain_any (nm : ByteArray) (v : Vd) (m : Md) (ks : F) (c : Array Value) (w : World) (hN : HasN w c nm v m ks) (hw : ks.weight ≤ 100000) :
    Calls Try.prog 39 #[.agg c] w fun e w' => ∃ c', e = .returned (.agg c') ∧ HasNP w' (New w w') c' ⟨#[]⟩ v m ks ∧ G w w' := by
  have hV1 := (Var.new w c).grow (G.alloc (w.alloc (.cells c 30)) (.cells z30 30))
  have hV2 := Var.new (w.alloc (.cells c 30)) z30
  rw [World.size_alloc] at hV2
  have hG : G w ((w.alloc (.cells c 30)).alloc (.cells z30 30)) := (G.alloc _ _).trans (G.alloc _ _)
  have CC := copy_any (ks.size + 1) ks (Nat.lt_succ_self _) nm v m c _ (hN.below hG) hw
  have hsz : c.size = 41 := by obtain ⟨_, rfl, _⟩ := hN; exact nc_size ..
  have HV : Hid (Var ((w.alloc (.cells c 30)).alloc (.cells z30 30)) w.heap.size c ∧ Var ((w.alloc (.cells c 30)).alloc (.cells z30 30)) (w.heap.size + 1) z30 ∧ G w ((w.alloc (.cells c 30)).alloc (.cells z30 30)) ∧ ((w.alloc (.cells c 30)).alloc (.cells z30 30)).heap.size = w.heap.size + 2) := ⟨hV1, hV2, hG, by simp⟩
  clear hV1 hV2 hN hG
  go_enter Try.func39, Try.ntmps39
  go_upto_region 1 with (with_reducible refine wpList_execW (.pointer (some ⟨(w.alloc (.cells c 30)).heap.size, 0, none⟩)) ((w.alloc (.cells c 30)).alloc (.cells z30 30)) ?_ ?_ ?_; exact exec_alloc30 rfl _; kernel_rfl)
  try simp only [Act.put, List.setIfInBounds_toArray, List.set_cons_zero, List.set_cons_succ, World.size_alloc]
  generalize (w.alloc (.cells c 30)).alloc (.cells z30 30) = w1 at *
  obtain ⟨B, hB⟩ : ∃ B, w.heap.size = B := ⟨_, rfl⟩
  rw [hB] at HV ⊢
  have HB : Hid (w.heap.size = B) := hB
  clear hB
  go_upto_region 2 with (first
    | (with_reducible refine wpList_exec (.agg c) ?_ ?_ ?_; exact exec_load30 _ rfl B 0 rfl c hsz HV.out.1.lies; kernel_rfl)
    | (go_at_call 15; refine CC.mono ?_; rintro e w2 ⟨c2, rfl, hn2, hg2⟩; have HN2 : Hid (HasNP w2 (New w1 w2) c2 nm v m ks ∧ G w1 w2 ∧ Var w2 B c ∧ Var w2 (B + 1) z30) := ⟨hn2, hg2, HV.out.1.grow hg2, HV.out.2.1.grow hg2⟩; clear CC hn2 hg2)
    | (with_reducible refine wpList_skipW (w2.setRow B c2) ?_ ?_ ?_; exact exec_store30 _ _ rfl B c2 c rfl rfl _ HN2.out.2.2.1 HN2.out.1.facts.1 hsz HN2.out.1.facts.2; kernel_rfl))
  have hv3 : Var (w2.setRow B c2) B c2 := HN2.out.2.2.1.set
  have hv4 : Var (w2.setRow B c2) (B + 1) z30 := (setRow_other _ B (B + 1) _ (by omega)).trans HN2.out.2.2.2
  have ho3 : ∀ b, b ≠ B → (w2.setRow B c2).heap[b]? = w2.heap[b]? := fun b hb => setRow_other _ B b _ hb
  have hs3 : (w2.setRow B c2).heap.size = w2.heap.size := by simp
  have ht3 : (w2.setRow B c2).os = w2.os ∧ (w2.setRow B c2).tape = w2.tape ∧ (w2.setRow B c2).output = w2.output := ⟨rfl, rfl, rfl⟩
  obtain ⟨kv, hkv, hks⟩ := HN2.out.1
  obtain ⟨u0, hc0⟩ := cell_of_var hv3 0 (by rw [HN2.out.1.facts.1]; omega)
  have hfz := var_frozen hv3 0
  have HV3 : Hid (Var ((w2.setRow B c2).setCell ⟨B, 0, none⟩ (.string ⟨#[]⟩)) B (nc ⟨#[]⟩ v m kv) ∧ Var ((w2.setRow B c2).setCell ⟨B, 0, none⟩ (.string ⟨#[]⟩)) (B + 1) z30) := by
    refine ⟨?_, (Below.heap_setCell _ _ _ _ (by show B + 1 ≠ B; omega)).trans hv4⟩
    have := hv3.setCell 0 (.string ⟨#[]⟩)
    rw [hkv, nc_nset] at this
    rw [hkv]
    exact this
  have HO : Hid ((∀ b, b ≠ B → (w2.setRow B c2).heap[b]? = w2.heap[b]?) ∧ (w2.setRow B c2).heap.size = w2.heap.size ∧ (w2.setRow B c2).os = w2.os ∧ (w2.setRow B c2).tape = w2.tape ∧ (w2.setRow B c2).output = w2.output) := ⟨ho3, hs3, ht3⟩
  have HKS : Hid (HasSP w2 (New w1 w2) kv ks) := hks
  have hone : (nc ⟨#[]⟩ v m kv).all (·.oneCell') = true := by obtain ⟨a2, cap2, rfl, _⟩ := hks; exact nc_one _ _ _ _ rfl
  have HON := hid hone
  clear hv3 hv4 ho3 hs3 ht3 hkv hks hone
  generalize w2.setRow B c2 = w3 at *
  go_wp2_with (first
    | (with_reducible refine wpList_exec (.agg (nc ⟨#[]⟩ v m kv)) ?_ ?_ ?_; exact exec_load30 _ rfl B 0 rfl _ (nc_size ..) HV3.out.1.lies; kernel_rfl)
    | (with_reducible refine wpList_skipW ((w3.setCell ⟨B, 0, none⟩ (.string ⟨#[]⟩)).setRow (B + 1) (nc ⟨#[]⟩ v m kv)) ?_ ?_ ?_; exact exec_store30 _ _ rfl (B + 1) _ z30 rfl rfl _ HV3.out.2 (nc_size ..) z30_size HON.out; kernel_rfl))
  refine bodyPost_ret (results_cell_row (P := Try.prog) (p := 2) (ty := 30) rfl _ _ (B + 1) 30 (nc ⟨#[]⟩ v m kv) (0, 0) _ rfl HV3.out.2.set under30 rfl (by rw [size30, nc_size])) rfl ?_
  have hoth : ∀ b, b ≠ B → b ≠ B + 1 → ((w3.setCell ⟨B, 0, none⟩ (.string ⟨#[]⟩)).setRow (B + 1) (nc ⟨#[]⟩ v m kv)).heap[b]? = w2.heap[b]? := fun b h1 h2 =>
    ((setRow_other _ (B + 1) b _ h2).trans (Below.heap_setCell _ _ _ b (by show b ≠ B; exact h1))).trans (HO.out.1 b h1)
  have hsw := HV.out.2.2.2
  have hs2 := HN2.out.2.1.size
  have hs3 := HO.out.2.1
  have hwB := HB.out
  refine ⟨_, rfl, ⟨_, rfl, HKS.out.keep fun b hb => ⟨hoth b (by have := hb.1; omega) (by have := hb.1; omega), by have := hb.1; omega, by have := hb.2; simp; omega⟩⟩, ?_⟩
  refine Below.trans (B := w.heap.size) (HV.out.2.2.1.trans HN2.out.2.1) ⟨HO.out.2.2.1, HO.out.2.2.2.1, HO.out.2.2.2.2, by simp; omega, fun b hb => hoth b (by omega) (by omega)⟩

set_option maxRecDepth 100000 in
set_option maxHeartbeats 1000000 in
theorem sameNode_any (nm nm' : ByteArray) (v v' : Vd) (m m' : Md) (ks ks' : F) (c d : Array Value) (w : World) (hc : HasN w c nm v m ks) (hd : HasN w d nm' v' m' ks') (hl : ks.okL) (hl' : ks'.okL) :
    Calls Try.prog 12 #[.agg c, .agg d] w fun e w' => e = .returned (.bool (decide (nm = nm' ∧ v = v' ∧ m = m' ∧ ks = ks'))) ∧ G w w' := by
  have TB := two_boxes w c d
  have hG : G w ((w.alloc (.cells c 30)).alloc (.cells d 30)) := (G.alloc _ _).trans (G.alloc _ _)
  have CE := equal_any (ks.size + 1) ks (Nat.lt_succ_self _) nm nm' v v' m m' ks' c d _ (hc.below hG) (hd.below hG) hl hl'
  have n1 := lies_cell TB.1 0 (.string nm) (by obtain ⟨_, rfl, _⟩ := hc; exact nc_name ..)
  have n2 := lies_cell TB.2 0 (.string nm') (by obtain ⟨_, rfl, _⟩ := hd; exact nc_name ..)
  have HT : Hid (Lies ((w.alloc (.cells c 30)).alloc (.cells d 30)) w.heap.size 0 c ∧ Lies ((w.alloc (.cells c 30)).alloc (.cells d 30)) (w.heap.size + 1) 0 d ∧ c.size = 41 ∧ d.size = 41) := ⟨TB.1, TB.2, by obtain ⟨_, rfl, _⟩ := hc; exact nc_size .., by obtain ⟨_, rfl, _⟩ := hd; exact nc_size ..⟩
  have HG := hid hG
  obtain ⟨R, hR⟩ : ∃ R, decide (nm = nm' ∧ v = v' ∧ m = m' ∧ ks = ks') = R := ⟨_, rfl⟩
  rw [hR]
  obtain ⟨b, hb⟩ : ∃ b, decide (v = v' ∧ m = m' ∧ ks = ks') = b := ⟨_, rfl⟩
  rw [hb] at CE
  have HR : Hid (R = (decide (nm = nm') && b)) := by show _ = _; rw [← hR, ← hb]; simp only [Bool.decide_and]
  clear hR hb TB hc hd hG hl hl'
  go_enter Try.func12, Try.ntmps12
  go_upto_region 1 with fail
  generalize (w.alloc (.cells c 30)).alloc (.cells d 30) = w1 at *
  generalize w.heap.size = H at *
  by_cases hn : nm = nm'
  · subst hn
    have HF : Hid (R = b) := by show _ = _; rw [HR.out]; simp
    go_wp2_with (first
      | (with_reducible refine wpList_exec (.agg c) ?_ ?_ ?_; exact exec_load30 _ rfl H 0 rfl c HT.out.2.2.1 HT.out.1; kernel_rfl)
      | (with_reducible refine wpList_exec (.agg d) ?_ ?_ ?_; exact exec_load30 _ rfl (H + 1) 0 rfl d HT.out.2.2.2 HT.out.2.1; kernel_rfl)
      | (go_at_call 25; refine CE.mono ?_; rintro e w2 ⟨rfl, g2⟩))
    go_ret
    exact ⟨by rw [HF.out]; rfl, HG.out.trans g2⟩
  · have hn' : (nm.toList == nm'.toList) = false := by
      have : ¬ nm.toList = nm'.toList := fun e => hn (ext_of _ _ e)
      simpa using this
    have HF : Hid (R = false) := by show _ = _; rw [HR.out]; simp [hn]
    clear hn
    go_wp2_with fail
    go_ret
    exact ⟨by rw [HF.out]; rfl, HG.out⟩
end Go.Proofs.Ytjkbhfkeagfhbaa
namespace Go.Proofs.Ytjkbhfkeagfhbaa
open Go.RowKit

set_option maxRecDepth 100000 in
set_option maxHeartbeats 1000000 in
theorem alike_nil (c : Array Value) (w : World) : Calls Try.prog 11 #[.pointer none, .agg c] w fun e w' => e = .returned (.bool false) ∧ G w w' := by
  go_enter Try.func11, Try.ntmps11
  go_upto_region 1 with fail
  refine wp_region_G ?_
  refine takeG 0 5 (.pointer none) rfl rfl (by kernel_rfl) (by kernel_rfl) (by kernel_rfl) (fun _ _ _ h => h) (by kernel_rfl) (fun wz hz => ?_) ?_
  · rfl
  try simp only [Act.put, List.setIfInBounds_toArray, List.set_cons_zero, List.set_cons_succ]
  refine takeG 1 6 (.bool false) rfl rfl (by kernel_rfl) (by kernel_rfl) (by kernel_rfl) (fun _ _ _ h => h) (by kernel_rfl) (fun wz hz => ?_) ?_
  · go_simp
  try simp only [Act.put, List.setIfInBounds_toArray, List.set_cons_zero, List.set_cons_succ]
  refine takeG 2 7 (.bool false) rfl rfl (by kernel_rfl) (by kernel_rfl) (by kernel_rfl) (fun _ _ _ h => h) (by kernel_rfl) (fun wz hz => ?_) ?_
  · rfl
  try simp only [Act.put, List.setIfInBounds_toArray, List.set_cons_zero, List.set_cons_succ]
  refine skipG 3 8 rfl rfl (by kernel_rfl) (by kernel_rfl) (by kernel_rfl) (fun _ _ _ h => h) (by kernel_rfl) ?_
  try simp only [Act.put, List.setIfInBounds_toArray, List.set_cons_zero, List.set_cons_succ]
  refine skipG 4 9 rfl rfl (by kernel_rfl) (by kernel_rfl) (by kernel_rfl) (fun _ _ _ h => h) (by kernel_rfl) ?_
  try simp only [Act.put, List.setIfInBounds_toArray, List.set_cons_zero, List.set_cons_succ]
  refine skipG 5 10 rfl rfl (by kernel_rfl) (by kernel_rfl) (by kernel_rfl) (fun _ _ _ h => h) (by kernel_rfl) ?_
  try simp only [Act.put, List.setIfInBounds_toArray, List.set_cons_zero, List.set_cons_succ]
  refine skipG 6 11 rfl rfl (by kernel_rfl) (by kernel_rfl) (by kernel_rfl) (fun _ _ _ h => h) (by kernel_rfl) ?_
  try simp only [Act.put, List.setIfInBounds_toArray, List.set_cons_zero, List.set_cons_succ]
  refine skipG 7 12 rfl rfl (by kernel_rfl) (by kernel_rfl) (by kernel_rfl) (fun _ _ _ h => h) (by kernel_rfl) ?_
  try simp only [Act.put, List.setIfInBounds_toArray, List.set_cons_zero, List.set_cons_succ]
  refine takeG 8 13 (.bool false) rfl rfl (by kernel_rfl) (by kernel_rfl) (by kernel_rfl) (fun _ _ _ h => h) (by kernel_rfl) (fun wz hz => ?_) ?_
  · go_simp
  try simp only [Act.put, List.setIfInBounds_toArray, List.set_cons_zero, List.set_cons_succ]
  refine takeG 9 4 (.bool false) rfl rfl (by kernel_rfl) (by kernel_rfl) (by kernel_rfl) (fun _ _ _ h => h) (by kernel_rfl) (fun wz hz => ?_) ?_
  · rfl
  try simp only [Act.put, List.setIfInBounds_toArray, List.set_cons_zero, List.set_cons_succ]
  refine doneG (by kernel_rfl) (fun w9 hg9 => ?_)
  go_wp2
  go_ret
  exact ⟨rfl, ((G.alloc w (.cells c 30)).trans (G.drew _)).trans hg9⟩
set_option maxRecDepth 100000 in
set_option maxHeartbeats 1000000 in
theorem alike_any (p : Nat) (v v' : Vd) (m m' : Md) (k : K) (nm : ByteArray) (ks : F) (c : Array Value) (w : World) (hT : AtT w p v m k) (hk : k.flat.size ≤ 100000) (hN : HasN w c nm v' m' ks) (hw : ks.weight ≤ 100000) :
    Calls Try.prog 11 #[.pointer (some ⟨p, 0, none⟩), .agg c] w fun e w' => e = .returned (.bool (decide (v = v' ∧ m = m' ∧ k.flat = ks))) ∧ G w w' := by
  obtain ⟨r, hr⟩ : ∃ r, r = decide (v = v' ∧ m = m' ∧ k.flat = ks) := ⟨_, rfl⟩
  have HR : Hid (r = decide (v = v' ∧ m = m' ∧ k.flat = ks)) := hr
  rw [← hr]
  clear hr
  have HC : Hid (c.size = 41) := by obtain ⟨kv, rfl, _⟩ := hN; exact nc_size ..
  have HT := hid (And.intro hT (And.intro hk (And.intro hN hw)))
  have HL0 : Hid (Lies (w.alloc (.cells c 30)) w.heap.size 0 c) := (Var.new w c).lies
  have HG0 : Hid (G w (w.alloc (.cells c 30))) := G.alloc _ _
  clear hT hk hN hw
  go_enter Try.func11, Try.ntmps11
  go_upto_region 1 with fail
  refine wp_region_G ?_
  have HL : Hid (Lies (w.alloc (.cells c 30)).drew w.heap.size 0 c) := (G.drew _).lies HL0.out
  have HG : Hid (G w (w.alloc (.cells c 30)).drew) := HG0.out.trans (G.drew _)
  clear HL0 HG0
  generalize (w.alloc (.cells c 30)).drew = w2 at *
  generalize w.heap.size = B at *
  refine takeG 0 5 (.pointer (some ⟨p, 0, none⟩)) rfl rfl (by kernel_rfl) (by kernel_rfl) (by kernel_rfl) (fun _ _ _ h => h) (by kernel_rfl) (fun wz hz => ?_) ?_
  · rfl
  try simp only [Act.put, List.setIfInBounds_toArray, List.set_cons_zero, List.set_cons_succ]
  refine takeG 1 6 (.bool true) rfl rfl (by kernel_rfl) (by kernel_rfl) (by kernel_rfl) (fun _ _ _ h => h) (by kernel_rfl) (fun wz hz => ?_) ?_
  · go_simp
  try simp only [Act.put, List.setIfInBounds_toArray, List.set_cons_zero, List.set_cons_succ]
  refine takeG 2 7 (.bool true) rfl rfl (by kernel_rfl) (by kernel_rfl) (by kernel_rfl) (fun _ _ _ h => h) (by kernel_rfl) (fun wz hz => ?_) ?_
  · rfl
  try simp only [Act.put, List.setIfInBounds_toArray, List.set_cons_zero, List.set_cons_succ]
  refine takeG 3 8 (.pointer (some ⟨p, 0, none⟩)) rfl rfl (by kernel_rfl) (by kernel_rfl) (by kernel_rfl) (fun _ _ _ h => h) (by kernel_rfl) (fun wz hz => ?_) ?_
  · rfl
  try simp only [Act.put, List.setIfInBounds_toArray, List.set_cons_zero, List.set_cons_succ]
  refine takeG 5 10 (.agg c) rfl rfl (by kernel_rfl) (by kernel_rfl) (by kernel_rfl) (fun _ _ _ h => h) (by kernel_rfl) (fun wz hz => ?_) ?_
  · exact exec_load30 _ rfl B 0 rfl c HC.out (hz.lies HL.out)
  try simp only [Act.put, List.setIfInBounds_toArray, List.set_cons_zero, List.set_cons_succ]
  refine readyG [4] (by kernel_rfl) (by simp) fun w3 hg3 => ?_
  refine AllG.call 4 9 28 #[.pointer (some ⟨p, 0, none⟩)] rfl rfl (by kernel_rfl) (by go_simp) ((treeNode_any (k.flat.size + 1) k (Nat.lt_succ_self _) p v m w3 (HT.out.1.grow (HG.out.trans hg3)) HT.out.2.1).mono ?_) AllG.nil
  rintro e w4 ⟨c4, rfl, hn4, hg4⟩
  refine ⟨_, rfl, hg4, ?_⟩
  try simp only [Act.put, List.setIfInBounds_toArray, List.set_cons_zero, List.set_cons_succ]
  refine readyG [6] (by kernel_rfl) (by simp) fun w5 hg5 => ?_
  have hG5 : G w w5 := ((HG.out.trans hg3).trans hg4).trans hg5
  refine AllG.call 6 11 39 #[.agg c] rfl rfl (by kernel_rfl) (by go_simp) ((plain_any nm v' m' ks c w5 (HT.out.2.2.1.below hG5) HT.out.2.2.2).mono ?_) AllG.nil
  rintro e w6 ⟨c6, rfl, hn6, hg6⟩
  refine ⟨_, rfl, hg6, ?_⟩
  try simp only [Act.put, List.setIfInBounds_toArray, List.set_cons_zero, List.set_cons_succ]
  refine readyG [7] (by kernel_rfl) (by simp) fun w7 hg7 => ?_
  refine AllG.call 7 12 12 #[.agg c4, .agg c6] rfl rfl (by kernel_rfl) (by go_simp) ((sameNode_any ⟨#[]⟩ ⟨#[]⟩ v v' m m' k.flat ks c4 c6 w7 (hn4.has.below ((hg5.trans hg6).trans hg7)) (hn6.has.below hg7) ?_ ?_).mono ?_) AllG.nil
  · have := HT.out.2.1; unfold F.okL; omega
  · have := HT.out.2.2.2; have := F.size_le_weight ks; unfold F.okL; omega
  rintro e w8 ⟨rfl, hg8⟩
  have hr8 : decide ((⟨#[]⟩ : ByteArray) = ⟨#[]⟩ ∧ v = v' ∧ m = m' ∧ k.flat = ks) = r := by rw [HR.out]; simp
  rw [hr8]
  refine ⟨_, rfl, hg8, ?_⟩
  try simp only [Act.put, List.setIfInBounds_toArray, List.set_cons_zero, List.set_cons_succ]
  have hG8 : G w w8 := ((hG5.trans hg6).trans hg7).trans hg8
  refine takeG 8 13 (.bool r) rfl rfl (by kernel_rfl) (by kernel_rfl) (by kernel_rfl) (fun _ _ _ h => h) (by kernel_rfl) (fun wz hz => ?_) ?_
  · go_simp
  try simp only [Act.put, List.setIfInBounds_toArray, List.set_cons_zero, List.set_cons_succ]
  refine takeG 9 4 (.bool r) rfl rfl (by kernel_rfl) (by kernel_rfl) (by kernel_rfl) (fun _ _ _ h => h) (by kernel_rfl) (fun wz hz => ?_) ?_
  · rfl
  try simp only [Act.put, List.setIfInBounds_toArray, List.set_cons_zero, List.set_cons_succ]
  refine doneG (by kernel_rfl) (fun w9 hg9 => ?_)
  go_wp2
  go_ret
  exact ⟨rfl, hG8.trans hg9⟩
end Go.Proofs.Ytjkbhfkeagfhbaa
