/-
  twinelaw4's alike by contract: a tree against raw data.
-/
import Derived.Test.YtjkbhfkeagfhbaaNode
import Derived.Test.YtjkbhfkeagfhbaaPlainN
namespace Go.Proofs.Ytjkbhfkeagfhbaa
open Go.RowKit

set_option maxRecDepth 100000 in
set_option maxHeartbeats 1000000 in
theorem alike_nil (c : Array Value) (w : World) : Calls Try.prog 11 #[.pointer none, .agg c] w fun e w' => e = .returned (.bool false) ∧ G w w' := by
  go_enter Try.func11, Try.ntmps11
  go_upto_region 1 with fail
  refine wp_region_G ?_
  refine takeG 0 5 (.pointer none) rfl rfl (by kernel_rfl) (by kernel_rfl) (by kernel_rfl) (fun _ _ _ h => h) (by kernel_rfl) (fun wz hz => ?_) ?_
  · rfl
  try simp only [Act.put, List.setIfInBounds_toArray, List.set_cons_zero, List.set_cons_succ]
  refine takeG 1 6 (.bool false) rfl rfl (by kernel_rfl) (by kernel_rfl) (by kernel_rfl) (fun _ _ _ h => h) (by kernel_rfl) (fun wz hz => ?_) ?_
  · go_simp
  try simp only [Act.put, List.setIfInBounds_toArray, List.set_cons_zero, List.set_cons_succ]
  refine takeG 2 7 (.bool false) rfl rfl (by kernel_rfl) (by kernel_rfl) (by kernel_rfl) (fun _ _ _ h => h) (by kernel_rfl) (fun wz hz => ?_) ?_
  · rfl
  try simp only [Act.put, List.setIfInBounds_toArray, List.set_cons_zero, List.set_cons_succ]
  refine skipG 3 8 rfl rfl (by kernel_rfl) (by kernel_rfl) (by kernel_rfl) (fun _ _ _ h => h) (by kernel_rfl) ?_
  try simp only [Act.put, List.setIfInBounds_toArray, List.set_cons_zero, List.set_cons_succ]
  refine skipG 4 9 rfl rfl (by kernel_rfl) (by kernel_rfl) (by kernel_rfl) (fun _ _ _ h => h) (by kernel_rfl) ?_
  try simp only [Act.put, List.setIfInBounds_toArray, List.set_cons_zero, List.set_cons_succ]
  refine skipG 5 10 rfl rfl (by kernel_rfl) (by kernel_rfl) (by kernel_rfl) (fun _ _ _ h => h) (by kernel_rfl) ?_
  try simp only [Act.put, List.setIfInBounds_toArray, List.set_cons_zero, List.set_cons_succ]
  refine skipG 6 11 rfl rfl (by kernel_rfl) (by kernel_rfl) (by kernel_rfl) (fun _ _ _ h => h) (by kernel_rfl) ?_
  try simp only [Act.put, List.setIfInBounds_toArray, List.set_cons_zero, List.set_cons_succ]
  refine skipG 7 12 rfl rfl (by kernel_rfl) (by kernel_rfl) (by kernel_rfl) (fun _ _ _ h => h) (by kernel_rfl) ?_
  try simp only [Act.put, List.setIfInBounds_toArray, List.set_cons_zero, List.set_cons_succ]
  refine takeG 8 13 (.bool false) rfl rfl (by kernel_rfl) (by kernel_rfl) (by kernel_rfl) (fun _ _ _ h => h) (by kernel_rfl) (fun wz hz => ?_) ?_
  · go_simp
  try simp only [Act.put, List.setIfInBounds_toArray, List.set_cons_zero, List.set_cons_succ]
  refine takeG 9 4 (.bool false) rfl rfl (by kernel_rfl) (by kernel_rfl) (by kernel_rfl) (fun _ _ _ h => h) (by kernel_rfl) (fun wz hz => ?_) ?_
  · rfl
  try simp only [Act.put, List.setIfInBounds_toArray, List.set_cons_zero, List.set_cons_succ]
  refine doneG (by kernel_rfl) (fun w9 hg9 => ?_)
  go_wp2
  go_ret
  exact ⟨rfl, ((G.alloc w (.cells c 30)).trans (G.drew _)).trans hg9⟩
set_option maxRecDepth 100000 in
set_option maxHeartbeats 1000000 in
theorem alike_any (p : Nat) (v v' : Vd) (m m' : Md) (k : K) (nm : ByteArray) (ks : F) (c : Array Value) (w : World) (hT : AtT w p v m k) (hk : k.flat.size ≤ 100000) (hN : HasN w c nm v' m' ks) (hw : ks.weight ≤ 100000) :
    Calls Try.prog 11 #[.pointer (some ⟨p, 0, none⟩), .agg c] w fun e w' => e = .returned (.bool (decide (v = v' ∧ m = m' ∧ k.flat = ks))) ∧ G w w' := by
  obtain ⟨r, hr⟩ : ∃ r, r = decide (v = v' ∧ m = m' ∧ k.flat = ks) := ⟨_, rfl⟩
  have HR : Hid (r = decide (v = v' ∧ m = m' ∧ k.flat = ks)) := hr
  rw [← hr]
  clear hr
  have HC : Hid (c.size = 41) := by obtain ⟨kv, rfl, _⟩ := hN; exact nc_size ..
  have HT := hid (And.intro hT (And.intro hk (And.intro hN hw)))
  have HL0 : Hid (Lies (w.alloc (.cells c 30)) w.heap.size 0 c) := (Var.new w c).lies
  have HG0 : Hid (G w (w.alloc (.cells c 30))) := G.alloc _ _
  clear hT hk hN hw
  go_enter Try.func11, Try.ntmps11
  go_upto_region 1 with fail
  refine wp_region_G ?_
  have HL : Hid (Lies (w.alloc (.cells c 30)).drew w.heap.size 0 c) := (G.drew _).lies HL0.out
  have HG : Hid (G w (w.alloc (.cells c 30)).drew) := HG0.out.trans (G.drew _)
  clear HL0 HG0
  generalize (w.alloc (.cells c 30)).drew = w2 at *
  generalize w.heap.size = B at *
  refine takeG 0 5 (.pointer (some ⟨p, 0, none⟩)) rfl rfl (by kernel_rfl) (by kernel_rfl) (by kernel_rfl) (fun _ _ _ h => h) (by kernel_rfl) (fun wz hz => ?_) ?_
  · rfl
  try simp only [Act.put, List.setIfInBounds_toArray, List.set_cons_zero, List.set_cons_succ]
  refine takeG 1 6 (.bool true) rfl rfl (by kernel_rfl) (by kernel_rfl) (by kernel_rfl) (fun _ _ _ h => h) (by kernel_rfl) (fun wz hz => ?_) ?_
  · go_simp
  try simp only [Act.put, List.setIfInBounds_toArray, List.set_cons_zero, List.set_cons_succ]
  refine takeG 2 7 (.bool true) rfl rfl (by kernel_rfl) (by kernel_rfl) (by kernel_rfl) (fun _ _ _ h => h) (by kernel_rfl) (fun wz hz => ?_) ?_
  · rfl
  try simp only [Act.put, List.setIfInBounds_toArray, List.set_cons_zero, List.set_cons_succ]
  refine takeG 3 8 (.pointer (some ⟨p, 0, none⟩)) rfl rfl (by kernel_rfl) (by kernel_rfl) (by kernel_rfl) (fun _ _ _ h => h) (by kernel_rfl) (fun wz hz => ?_) ?_
  · rfl
  try simp only [Act.put, List.setIfInBounds_toArray, List.set_cons_zero, List.set_cons_succ]
  refine takeG 5 10 (.agg c) rfl rfl (by kernel_rfl) (by kernel_rfl) (by kernel_rfl) (fun _ _ _ h => h) (by kernel_rfl) (fun wz hz => ?_) ?_
  · exact exec_load30 _ rfl B 0 rfl c HC.out (hz.lies HL.out)
  try simp only [Act.put, List.setIfInBounds_toArray, List.set_cons_zero, List.set_cons_succ]
  refine readyG [4] (by kernel_rfl) (by simp) fun w3 hg3 => ?_
  refine AllG.call 4 9 28 #[.pointer (some ⟨p, 0, none⟩)] rfl rfl (by kernel_rfl) (by go_simp) ((treeNode_any (k.flat.size + 1) k (Nat.lt_succ_self _) p v m w3 (HT.out.1.grow (HG.out.trans hg3)) HT.out.2.1).mono ?_) AllG.nil
  rintro e w4 ⟨c4, rfl, hn4, hg4⟩
  refine ⟨_, rfl, hg4, ?_⟩
  try simp only [Act.put, List.setIfInBounds_toArray, List.set_cons_zero, List.set_cons_succ]
  refine readyG [6] (by kernel_rfl) (by simp) fun w5 hg5 => ?_
  have hG5 : G w w5 := ((HG.out.trans hg3).trans hg4).trans hg5
  refine AllG.call 6 11 39 #[.agg c] rfl rfl (by kernel_rfl) (by go_simp) ((plain_any nm v' m' ks c w5 (HT.out.2.2.1.below hG5) HT.out.2.2.2).mono ?_) AllG.nil
  rintro e w6 ⟨c6, rfl, hn6, hg6⟩
  refine ⟨_, rfl, hg6, ?_⟩
  try simp only [Act.put, List.setIfInBounds_toArray, List.set_cons_zero, List.set_cons_succ]
  refine readyG [7] (by kernel_rfl) (by simp) fun w7 hg7 => ?_
  refine AllG.call 7 12 12 #[.agg c4, .agg c6] rfl rfl (by kernel_rfl) (by go_simp) ((sameNode_any ⟨#[]⟩ ⟨#[]⟩ v v' m m' k.flat ks c4 c6 w7 (hn4.has.below ((hg5.trans hg6).trans hg7)) (hn6.has.below hg7) ?_ ?_).mono ?_) AllG.nil
  · have := HT.out.2.1; unfold F.okL; omega
  · have := HT.out.2.2.2; have := F.size_le_weight ks; unfold F.okL; omega
  rintro e w8 ⟨rfl, hg8⟩
  have hr8 : decide ((⟨#[]⟩ : ByteArray) = ⟨#[]⟩ ∧ v = v' ∧ m = m' ∧ k.flat = ks) = r := by rw [HR.out]; simp
  rw [hr8]
  refine ⟨_, rfl, hg8, ?_⟩
  try simp only [Act.put, List.setIfInBounds_toArray, List.set_cons_zero, List.set_cons_succ]
  have hG8 : G w w8 := ((hG5.trans hg6).trans hg7).trans hg8
  refine takeG 8 13 (.bool r) rfl rfl (by kernel_rfl) (by kernel_rfl) (by kernel_rfl) (fun _ _ _ h => h) (by kernel_rfl) (fun wz hz => ?_) ?_
  · go_simp
  try simp only [Act.put, List.setIfInBounds_toArray, List.set_cons_zero, List.set_cons_succ]
  refine takeG 9 4 (.bool r) rfl rfl (by kernel_rfl) (by kernel_rfl) (by kernel_rfl) (fun _ _ _ h => h) (by kernel_rfl) (fun wz hz => ?_) ?_
  · rfl
  try simp only [Act.put, List.setIfInBounds_toArray, List.set_cons_zero, List.set_cons_succ]
  refine doneG (by kernel_rfl) (fun w9 hg9 => ?_)
  go_wp2
  go_ret
  exact ⟨rfl, hG8.trans hg9⟩
end Go.Proofs.Ytjkbhfkeagfhbaa
