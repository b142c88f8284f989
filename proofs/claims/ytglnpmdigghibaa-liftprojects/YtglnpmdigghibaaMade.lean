/-
  tree.made and tree.childrenOf by contract.
-/
import Derived.Test.YtglnpmdigghibaaBuild
import Derived.Test.YtglnpmdigghibaaJoin
namespace Go.Proofs.Ytglnpmdigghibaa
open Go.RowKit

/-- childrenOf by contract, of this forest -/
def ChildrenOk (f : F) : Prop := ∀ (v : Value) (w : World), HasS w v f → f.okL → Calls Try.prog 29 #[v] w fun e w' => ∃ k u, e = .returned u ∧ At w' k u ∧ k.flat = f ∧ G w w'
theorem exec_box103 {o : Oper} {a : Act} (x : Operand) (ho : o.op = .box 59 x) (c : Array Value) (hx : a.eval x = .agg c) (w : World) : (execOp a.eval o).run Try.prog w = .ok (.value (.pointer (some ⟨w.heap.size, 0, none⟩))) (w.alloc (.cells c 59)) := by
  unfold execOp
  simp [ho, hx, Instr.box, newVar, newRow, newObj, Value.cells]
  rfl

set_option maxRecDepth 100000 in
set_option maxHeartbeats 1000000 in
theorem made_any (g o : Nat) (nm : ByteArray) (v : Vd) (m : Md) (kv : Value) (ks : F) (w : World) (hl : Lies w g o (nc nm v m kv)) (hS : HasS w kv ks) (hok : ks.okL) (ih : ChildrenOk ks) :
    Calls Try.prog 16 #[.pointer (some ⟨g, o, none⟩)] w fun e w' => ∃ p k, e = .returned (.pointer (some ⟨p, 0, none⟩)) ∧ AtT w' p v m k ∧ k.flat = ks ∧ G w w' := by
  obtain ⟨a, cap, rfl, _⟩ := hS.form
  have CK := hid (fun (W : World) (hW : G w W) => ih _ W (hS.below hW) hok)
  have c40 := lies_kids hl
  have HL0 : Hid (Lies w g (o + 1) (vx v).toArray ∧ Lies w g (o + 36) (mx m).toArray) := ⟨lies_val hl, lies_marks hl⟩
  clear hl hS ih
  obtain ⟨N, hN⟩ : ∃ N, ks.len = N := ⟨_, rfl⟩
  rw [hN] at CK c40
  clear hN
  go_enter Try.func16, Try.ntmps16
  go_upto_region 1 with fail
  refine wp_region_G ?_
  have d40 := (G.drew w).cell c40
  have L : Hid (Lies w.drew g (o + 1) (vx v).toArray ∧ Lies w.drew g (o + 36) (mx m).toArray) := ⟨(G.drew w).lies HL0.out.1, (G.drew w).lies HL0.out.2⟩
  have HD : Hid (G w w.drew) := G.drew w
  generalize w.drew = w2 at *
  refine takeG 0 3 (.pointer (some ⟨g, o, none⟩)) rfl rfl (by kernel_rfl) (by kernel_rfl) (by kernel_rfl) (fun _ _ _ h => h) (by kernel_rfl) (fun wz hz => ?_) ?_
  · rfl
  try simp only [Act.put, List.setIfInBounds_toArray, List.set_cons_zero, List.set_cons_succ]
  refine takeG 1 4 (.pointer (some ⟨g, o, none⟩)) rfl rfl (by kernel_rfl) (by kernel_rfl) (by kernel_rfl) (fun _ _ _ h => h) (by kernel_rfl) (fun wz hz => ?_) ?_
  · go_simp
  try simp only [Act.put, List.setIfInBounds_toArray, List.set_cons_zero, List.set_cons_succ]
  refine takeG 2 5 (.pointer (some ⟨g, o + 1, none⟩)) rfl rfl (by kernel_rfl) (by kernel_rfl) (by kernel_rfl) (fun _ _ _ h => h) (by kernel_rfl) (fun wz hz => ?_) ?_
  · go_simp
  try simp only [Act.put, List.setIfInBounds_toArray, List.set_cons_zero, List.set_cons_succ]
  refine takeG 3 6 (.agg (vx v).toArray) rfl rfl (by kernel_rfl) (by kernel_rfl) (by kernel_rfl) (fun _ _ _ h => h) (by kernel_rfl) (fun wz hz => ?_) ?_
  · exact exec_load24 _ rfl g (o + 1) rfl _ (by simp [vx_len]) (hz.lies L.out.1)
  try simp only [Act.put, List.setIfInBounds_toArray, List.set_cons_zero, List.set_cons_succ]
  refine takeG 4 7 (.pointer (some ⟨g, o, none⟩)) rfl rfl (by kernel_rfl) (by kernel_rfl) (by kernel_rfl) (fun _ _ _ h => h) (by kernel_rfl) (fun wz hz => ?_) ?_
  · rfl
  try simp only [Act.put, List.setIfInBounds_toArray, List.set_cons_zero, List.set_cons_succ]
  refine takeG 5 8 (.pointer (some ⟨g, o, none⟩)) rfl rfl (by kernel_rfl) (by kernel_rfl) (by kernel_rfl) (fun _ _ _ h => h) (by kernel_rfl) (fun wz hz => ?_) ?_
  · go_simp
  try simp only [Act.put, List.setIfInBounds_toArray, List.set_cons_zero, List.set_cons_succ]
  refine takeG 6 9 (.pointer (some ⟨g, o + 36, none⟩)) rfl rfl (by kernel_rfl) (by kernel_rfl) (by kernel_rfl) (fun _ _ _ h => h) (by kernel_rfl) (fun wz hz => ?_) ?_
  · go_simp
  try simp only [Act.put, List.setIfInBounds_toArray, List.set_cons_zero, List.set_cons_succ]
  refine takeG 7 10 (.agg (mx m).toArray) rfl rfl (by kernel_rfl) (by kernel_rfl) (by kernel_rfl) (fun _ _ _ h => h) (by kernel_rfl) (fun wz hz => ?_) ?_
  · exact exec_load27 _ rfl g (o + 36) rfl _ (by simp [mx_len]) (hz.lies L.out.2)
  try simp only [Act.put, List.setIfInBounds_toArray, List.set_cons_zero, List.set_cons_succ]
  refine takeG 8 11 (.pointer (some ⟨g, o, none⟩)) rfl rfl (by kernel_rfl) (by kernel_rfl) (by kernel_rfl) (fun _ _ _ h => h) (by kernel_rfl) (fun wz hz => ?_) ?_
  · rfl
  try simp only [Act.put, List.setIfInBounds_toArray, List.set_cons_zero, List.set_cons_succ]
  refine takeG 9 12 (.pointer (some ⟨g, o, none⟩)) rfl rfl (by kernel_rfl) (by kernel_rfl) (by kernel_rfl) (fun _ _ _ h => h) (by kernel_rfl) (fun wz hz => ?_) ?_
  · go_simp
  try simp only [Act.put, List.setIfInBounds_toArray, List.set_cons_zero, List.set_cons_succ]
  refine takeG 10 13 (.pointer (some ⟨g, o + 40, none⟩)) rfl rfl (by kernel_rfl) (by kernel_rfl) (by kernel_rfl) (fun _ _ _ h => h) (by kernel_rfl) (fun wz hz => ?_) ?_
  · go_simp
  try simp only [Act.put, List.setIfInBounds_toArray, List.set_cons_zero, List.set_cons_succ]
  refine takeG 11 14 (.slice a N cap) rfl rfl (by kernel_rfl) (by kernel_rfl) (by kernel_rfl) (fun _ _ _ h => h) (by kernel_rfl) (fun wz hz => ?_) ?_
  · have y0 := hz.cell d40; go_simp
  try simp only [Act.put, List.setIfInBounds_toArray, List.set_cons_zero, List.set_cons_succ]
  refine readyG [12] (by kernel_rfl) (by simp) (fun w3 hg3 => ?_)
  refine AllG.call 12 15 29 #[.slice a N cap] rfl rfl (by kernel_rfl) (by go_simp) ((CK.out w3 (HD.out.trans hg3)).mono ?_) AllG.nil
  rintro e w4 ⟨k, u, rfl, hk, hf, hg4⟩
  refine ⟨u, rfl, hg4, ?_⟩
  obtain ⟨au, rfl⟩ := hk.form
  have HK : Hid (At w4 k (.pointer au) ∧ k.flat = ks ∧ G w w4) := ⟨hk, hf, (HD.out.trans hg3).trans hg4⟩
  clear hk hf hg4 hg3 d40
  try simp only [Act.put, List.setIfInBounds_toArray, List.set_cons_zero, List.set_cons_succ]
  refine takeG 13 16 (.agg (tc v m (.pointer au))) rfl rfl (by kernel_rfl) (by kernel_rfl) (by kernel_rfl) (fun _ _ _ h => h) (by kernel_rfl) (fun wz hz => ?_) ?_
  · exact exec_build103 _ rfl v m (.pointer au) rfl (by go_simp) _
  try simp only [Act.put, List.setIfInBounds_toArray, List.set_cons_zero, List.set_cons_succ]
  refine readyG [14] (by kernel_rfl) (by simp) (fun w5 hg5 => ?_)
  refine AllG.value 14 17 (.pointer (some ⟨w5.heap.size, 0, none⟩)) (w5.alloc (.cells (tc v m (.pointer au)) 59)) rfl rfl (by kernel_rfl) (exec_box103 _ rfl _ rfl _) (G.alloc _ _) ?_ AllG.nil
  try simp only [Act.put, List.setIfInBounds_toArray, List.set_cons_zero, List.set_cons_succ]
  have HL : Hid (Lies (w5.alloc (.cells (tc v m (.pointer au)) 59)) w5.heap.size 0 (tc v m (.pointer au))) := lies_new _ _ _
  have HW : Hid (G w4 (w5.alloc (.cells (tc v m (.pointer au)) 59))) := hg5.trans (G.alloc _ _)
  generalize w5.alloc (.cells (tc v m (.pointer au)) 59) = w6 at *
  generalize w5.heap.size = q at *
  refine takeG 15 2 (.pointer (some ⟨q, 0, none⟩)) rfl rfl (by kernel_rfl) (by kernel_rfl) (by kernel_rfl) (fun _ _ _ h => h) (by kernel_rfl) (fun wz hz => ?_) ?_
  · rfl
  try simp only [Act.put, List.setIfInBounds_toArray, List.set_cons_zero, List.set_cons_succ]
  refine doneG (by kernel_rfl) (fun w7 hg7 => ?_)
  go_wp2_with fail
  go_ret
  have hg := HW.out.trans hg7
  exact ⟨q, k, rfl, ⟨_, hg7.lies HL.out, HK.out.1.grow hg⟩, HK.out.2.1, HK.out.2.2.trans hg⟩
end Go.Proofs.Ytglnpmdigghibaa
