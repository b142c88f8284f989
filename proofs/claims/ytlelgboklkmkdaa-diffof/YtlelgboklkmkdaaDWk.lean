import Derived.Test.YtlelgboklkmkdaaDOf
import Derived.Test.YtlelgboklkmkdaaDOr
set_option maxRecDepth 100000
set_option maxHeartbeats 1000000
/-
  Of, childrenOf and made once more: the blocks of the trees are as they were made.
-/
namespace Go.Proofs.Ytlelgboklkmkdaa
open Go.RowKit
/-- a tree's block, as it was made -/
def Tr (w : World) (p : Nat) : Prop := ∃ c, w.heap[p]? = some (.cells c 68 (0, 0))
theorem Tr.grow {w w' : World} {p : Nat} (h : Tr w p) (hg : G w w') : Tr w' p := by
  obtain ⟨c, h⟩ := h
  exact ⟨c, (hg.block p (Array.getElem?_eq_some_iff.1 h).1).trans h⟩
def K.plain (w : World) : K → Prop
  | .nil => True
  | .node _ p _ _ _ kids ah be => Tr w p ∧ K.plain w kids ∧ K.plain w ah ∧ K.plain w be
theorem K.plain_grow {w w' : World} (hg : G w w') : ∀ {k : K}, k.plain w → k.plain w'
  | .nil, _ => trivial
  | .node _ _ _ _ _ _ _ _, ⟨h1, h2, h3, h4⟩ => ⟨h1.grow hg, K.plain_grow hg h2, K.plain_grow hg h3, K.plain_grow hg h4⟩
def ChildrenOkP (f : F) : Prop := ∀ (v : Value) (w : World), HasS w v f → f.okL → Calls Try.prog 50 #[v] w fun e w' => ∃ k u, e = .returned u ∧ At w' k u ∧ k.flat = f ∧ G w w' ∧ k.plain w'
theorem made_anyP (g o : Nat) (nm : ByteArray) (v : Vd) (m : Md) (kv : Value) (ks : F) (w : World) (hl : Lies w g o (nc nm v m kv)) (hS : HasS w kv ks) (hok : ks.okL) (ih : ChildrenOkP ks) :
    Calls Try.prog 32 #[.pointer (some ⟨g, o, none⟩)] w fun e w' => ∃ p k, e = .returned (.pointer (some ⟨p, 0, none⟩)) ∧ AtT w' p v m k ∧ k.flat = ks ∧ G w w' ∧ k.plain w' ∧ Tr w' p := by
  obtain ⟨a, cap, rfl, _⟩ := hS.form
  have CK := hid (fun (W : World) (hW : G w W) => ih _ W (hS.below hW) hok)
  have c40 := lies_kids hl
  have HL0 : Hid (Lies w g (o + 1) (vx v).toArray ∧ Lies w g (o + 36) (mx m).toArray) := ⟨lies_val hl, lies_marks hl⟩
  clear hl hS ih
  obtain ⟨N, hN⟩ : ∃ N, ks.len = N := ⟨_, rfl⟩
  rw [hN] at CK c40
  clear hN
  go_enter Try.func32, Try.ntmps32
  go_upto_region 1 with fail
  refine wp_region_G ?_
  have d40 := (G.drew w).cell c40
  have L : Hid (Lies w.drew g (o + 1) (vx v).toArray ∧ Lies w.drew g (o + 36) (mx m).toArray) := ⟨(G.drew w).lies HL0.out.1, (G.drew w).lies HL0.out.2⟩
  have HD : Hid (G w w.drew) := G.drew w
  generalize w.drew = w2 at *
  refine takeG 0 3 (.pointer (some ⟨g, o, none⟩)) rfl rfl (by kernel_rfl) (by kernel_rfl) (by kernel_rfl) (fun _ _ _ h => h) (by kernel_rfl) (fun wz hz => ?_) ?_
  · rfl
  try simp only [Act.put, List.setIfInBounds_toArray, List.set_cons_zero, List.set_cons_succ]
  refine takeG 1 4 (.pointer (some ⟨g, o, none⟩)) rfl rfl (by kernel_rfl) (by kernel_rfl) (by kernel_rfl) (fun _ _ _ h => h) (by kernel_rfl) (fun wz hz => ?_) ?_
  · go_simp
  try simp only [Act.put, List.setIfInBounds_toArray, List.set_cons_zero, List.set_cons_succ]
  refine takeG 2 5 (.pointer (some ⟨g, o + 1, none⟩)) rfl rfl (by kernel_rfl) (by kernel_rfl) (by kernel_rfl) (fun _ _ _ h => h) (by kernel_rfl) (fun wz hz => ?_) ?_
  · go_simp
  try simp only [Act.put, List.setIfInBounds_toArray, List.set_cons_zero, List.set_cons_succ]
  refine takeG 3 6 (.agg (vx v).toArray) rfl rfl (by kernel_rfl) (by kernel_rfl) (by kernel_rfl) (fun _ _ _ h => h) (by kernel_rfl) (fun wz hz => ?_) ?_
  · exact exec_load24 _ rfl g (o + 1) rfl _ (by simp [vx_len]) (hz.lies L.out.1)
  try simp only [Act.put, List.setIfInBounds_toArray, List.set_cons_zero, List.set_cons_succ]
  refine takeG 4 7 (.pointer (some ⟨g, o, none⟩)) rfl rfl (by kernel_rfl) (by kernel_rfl) (by kernel_rfl) (fun _ _ _ h => h) (by kernel_rfl) (fun wz hz => ?_) ?_
  · rfl
  try simp only [Act.put, List.setIfInBounds_toArray, List.set_cons_zero, List.set_cons_succ]
  refine takeG 5 8 (.pointer (some ⟨g, o, none⟩)) rfl rfl (by kernel_rfl) (by kernel_rfl) (by kernel_rfl) (fun _ _ _ h => h) (by kernel_rfl) (fun wz hz => ?_) ?_
  · go_simp
  try simp only [Act.put, List.setIfInBounds_toArray, List.set_cons_zero, List.set_cons_succ]
  refine takeG 6 9 (.pointer (some ⟨g, o + 36, none⟩)) rfl rfl (by kernel_rfl) (by kernel_rfl) (by kernel_rfl) (fun _ _ _ h => h) (by kernel_rfl) (fun wz hz => ?_) ?_
  · go_simp
  try simp only [Act.put, List.setIfInBounds_toArray, List.set_cons_zero, List.set_cons_succ]
  refine takeG 7 10 (.agg (mx m).toArray) rfl rfl (by kernel_rfl) (by kernel_rfl) (by kernel_rfl) (fun _ _ _ h => h) (by kernel_rfl) (fun wz hz => ?_) ?_
  · exact exec_load27 _ rfl g (o + 36) rfl _ (by simp [mx_len]) (hz.lies L.out.2)
  try simp only [Act.put, List.setIfInBounds_toArray, List.set_cons_zero, List.set_cons_succ]
  refine takeG 8 11 (.pointer (some ⟨g, o, none⟩)) rfl rfl (by kernel_rfl) (by kernel_rfl) (by kernel_rfl) (fun _ _ _ h => h) (by kernel_rfl) (fun wz hz => ?_) ?_
  · rfl
  try simp only [Act.put, List.setIfInBounds_toArray, List.set_cons_zero, List.set_cons_succ]
  refine takeG 9 12 (.pointer (some ⟨g, o, none⟩)) rfl rfl (by kernel_rfl) (by kernel_rfl) (by kernel_rfl) (fun _ _ _ h => h) (by kernel_rfl) (fun wz hz => ?_) ?_
  · go_simp
  try simp only [Act.put, List.setIfInBounds_toArray, List.set_cons_zero, List.set_cons_succ]
  refine takeG 10 13 (.pointer (some ⟨g, o + 40, none⟩)) rfl rfl (by kernel_rfl) (by kernel_rfl) (by kernel_rfl) (fun _ _ _ h => h) (by kernel_rfl) (fun wz hz => ?_) ?_
  · go_simp
  try simp only [Act.put, List.setIfInBounds_toArray, List.set_cons_zero, List.set_cons_succ]
  refine takeG 11 14 (.slice a N cap) rfl rfl (by kernel_rfl) (by kernel_rfl) (by kernel_rfl) (fun _ _ _ h => h) (by kernel_rfl) (fun wz hz => ?_) ?_
  · have y0 := hz.cell d40; go_simp
  try simp only [Act.put, List.setIfInBounds_toArray, List.set_cons_zero, List.set_cons_succ]
  refine readyG [12] (by kernel_rfl) (by simp) (fun w3 hg3 => ?_)
  refine AllG.call 12 15 50 #[.slice a N cap] rfl rfl (by kernel_rfl) (by go_simp) ((CK.out w3 (HD.out.trans hg3)).mono ?_) AllG.nil
  rintro e w4 ⟨k, u, rfl, hk, hf, hg4, hpl⟩
  refine ⟨u, rfl, hg4, ?_⟩
  obtain ⟨au, rfl⟩ := hk.form
  have HK : Hid (At w4 k (.pointer au) ∧ k.flat = ks ∧ G w w4 ∧ k.plain w4) := ⟨hk, hf, (HD.out.trans hg3).trans hg4, hpl⟩
  clear hpl hk hf hg4 hg3 d40
  try simp only [Act.put, List.setIfInBounds_toArray, List.set_cons_zero, List.set_cons_succ]
  refine takeG 13 16 (.agg (tc v m (.pointer au))) rfl rfl (by kernel_rfl) (by kernel_rfl) (by kernel_rfl) (fun _ _ _ h => h) (by kernel_rfl) (fun wz hz => ?_) ?_
  · exact exec_build103 _ rfl v m (.pointer au) rfl (by go_simp) _
  try simp only [Act.put, List.setIfInBounds_toArray, List.set_cons_zero, List.set_cons_succ]
  refine readyG [14] (by kernel_rfl) (by simp) (fun w5 hg5 => ?_)
  refine AllG.value 14 17 (.pointer (some ⟨w5.heap.size, 0, none⟩)) (w5.alloc (.cells (tc v m (.pointer au)) 68)) rfl rfl (by kernel_rfl) (exec_box103 _ rfl _ rfl _) (G.alloc _ _) ?_ AllG.nil
  try simp only [Act.put, List.setIfInBounds_toArray, List.set_cons_zero, List.set_cons_succ]
  have HL : Hid (Lies (w5.alloc (.cells (tc v m (.pointer au)) 68)) w5.heap.size 0 (tc v m (.pointer au))) := lies_new _ _ _
  have HTr : Hid (Tr (w5.alloc (.cells (tc v m (.pointer au)) 68)) w5.heap.size) := ⟨_, World.alloc_heap_new _ _⟩
  have HW : Hid (G w4 (w5.alloc (.cells (tc v m (.pointer au)) 68))) := hg5.trans (G.alloc _ _)
  generalize w5.alloc (.cells (tc v m (.pointer au)) 68) = w6 at *
  generalize w5.heap.size = q at *
  refine takeG 15 2 (.pointer (some ⟨q, 0, none⟩)) rfl rfl (by kernel_rfl) (by kernel_rfl) (by kernel_rfl) (fun _ _ _ h => h) (by kernel_rfl) (fun wz hz => ?_) ?_
  · rfl
  try simp only [Act.put, List.setIfInBounds_toArray, List.set_cons_zero, List.set_cons_succ]
  refine doneG (by kernel_rfl) (fun w7 hg7 => ?_)
  go_wp2_with fail
  go_ret
  have hg := HW.out.trans hg7
  exact ⟨q, k, rfl, ⟨_, hg7.lies HL.out, HK.out.1.grow hg⟩, HK.out.2.1, HK.out.2.2.1.trans hg, K.plain_grow hg HK.out.2.2.2, HTr.out.grow hg7⟩
theorem children_anyP : ∀ (Z : Nat) (f : F), f.size < Z → ChildrenOkP f := by
  intro Z
  induction Z with
  | zero => intro f h; omega
  | succ Z ih =>
    intro f hZ v w hS hok
    obtain ⟨a, cap, rfl, hcap⟩ := hS.form
    obtain ⟨N, hN⟩ : ∃ N, f.len = N := ⟨_, rfl⟩
    have hN2 : N ≤ 9223372036854775807 := by have := f.len_le_size; unfold F.okL at hok; omega
    by_cases h0 : N = 0
    · have hf : f = .nil := by
        cases f with
        | nil => rfl
        | cons => simp [F.len] at hN; omega
      rw [hN]
      subst h0
      go_enter Try.func50, Try.ntmps50
      go_wp2_with fail
      go_ret
      exact ⟨.nil, _, rfl, rfl, hf.symm, G.refl w, trivial⟩
    · have hlt : N / 2 < N := by omega
      obtain ⟨half, hh⟩ : ∃ half, N / 2 = half := ⟨_, rfl⟩
      rw [hh] at hlt
      obtain ⟨_, _, he, _, hr⟩ := id hS
      rcases hr with hr | ⟨g, o, ha, hr⟩
      · subst hr; simp [F.len] at hN; omega
      obtain rfl : a = some ⟨g, o, none⟩ := by injection he with e1; rw [e1, ha]
      clear he ha
      obtain ⟨g', o', cap', nm, vv, m, ks, c, hv, hd, hNN, hc⟩ := hS.at (k := half) (by omega)
      obtain ⟨rfl, rfl⟩ : g' = g ∧ o' = o := by injection hv with e1; injection e1 with e2; injection e2 with e3 e4; exact ⟨e3.symm, e4.symm⟩
      clear hv
      obtain ⟨kv, rfl, hSk⟩ := hNN
      have hsz := F.split_size hd
      have hok' : ∀ x : F, x.size ≤ f.size → x.okL := fun x hx => by unfold F.okL at *; omega
      have n0 : w.cell? ⟨g', o' + half * 41, none⟩ = some (.string nm) := hc 0 _ (nc_name ..)
      have hT : HasS w (.slice (some ⟨g', o', none⟩) half cap) (f.take half) := ⟨_, _, by rw [F.take_len f half (by omega)], by rw [F.take_len f half (by omega)]; omega, .inr ⟨g', o', rfl, hr.take⟩⟩
      obtain ⟨AA, hAA⟩ : ∃ AA, (if cap = half + 1 then some (⟨g', o', none⟩ : Addr) else some ⟨g', o' + (half + 1) * 41, none⟩) = AA := ⟨_, rfl⟩
      obtain ⟨N2, hN2'⟩ : ∃ N2, N - (half + 1) = N2 := ⟨_, rfl⟩
      obtain ⟨cap2, hcap2⟩ : ∃ c2, cap - (half + 1) = c2 := ⟨_, rfl⟩
      have hU : HasS w (.slice AA N2 cap2) (f.drop (half + 1)) := by
        refine ⟨_, _, by rw [F.drop_len, hN, hN2'], by rw [F.drop_len]; omega, ?_⟩
        by_cases hce : cap = half + 1
        · left
          exact F.drop_all f _ (by omega)
        · right
          rw [if_neg hce] at hAA
          exact ⟨_, _, hAA.symm, hr.drop⟩
      have C1 := hid (fun (W : World) (hW : G w W) => ih (f.take half) (by omega) _ W (hT.below hW) (hok' _ (by omega)))
      have C2 := hid (fun (W : World) (hW : G w W) => made_anyP g' (o' + half * 41) nm vv m kv ks W (hW.lies hc) (hSk.below hW) (hok' _ (by omega)) (ih ks (by omega)))
      have C3 := hid (fun (W : World) (hW : G w W) => ih (f.drop (half + 1)) (by omega) _ W (hU.below hW) (hok' _ (by omega)))
      have HSZ : Hid ((f.take half).size + (f.drop (half + 1)).size + ks.size + 1 ≤ 9223372036854775807) := by show _ ≤ _; unfold F.okL at hok; omega
      have HFF : Hid ((f.take half).app (.cons nm vv m ks (f.drop (half + 1))) = f) := by show _ = _; rw [← hd]; exact F.app_take_drop f half
      generalize hg' : g' = g at *
      generalize ho' : o' = o at *
      rw [hN] at hcap
      obtain ⟨half1, hh1⟩ : ∃ h1, half + 1 = h1 := ⟨_, rfl⟩
      have q1 : (N : Int).tdiv 2 = (half : Int) := by rw [← hh]; exact Int.ofNat_tdiv N 2
      have q2 : IntKind.i64.wrap ((half : Int) + 1) = (half1 : Int) := by rw [← hh1, IntKind.wrap_i64]; omega
      have q3 : (half : Int) < (N : Int) := by omega
      have q4 : (half : Int) ≤ (cap : Int) := by omega
      have q5 : (half1 : Int) ≤ (N : Int) := by omega
      have q6 : (N : Int) ≤ (cap : Int) := by omega
      have q7 : ¬ (N : Int) = 0 := by omega
      have HAA : Hid (((if cap = half + 1 then some (⟨g, o, none⟩ : Addr) else some ⟨g, o + (half + 1) * 41, none⟩) = AA) ∧ N - (half + 1) = N2 ∧ cap - (half + 1) = cap2 ∧ half + 1 = half1) := ⟨hAA, hN2', hcap2, hh1⟩
      rw [hN]
      clear hS hr hd hSk hc hT hU hAA hN2' hcap2 hh1 hN ih hsz hok' hh hok hZ
      go_enter Try.func50, Try.ntmps50
      go_upto_region 4 with fail
      refine wp_region_G ?_
      have d0 := (G.drew w).cell n0
      have HD : Hid (G w w.drew) := G.drew w
      generalize w.drew = w2 at *
      refine takeG 0 10 (.slice (some ⟨g, o, none⟩) N cap) rfl rfl (by kernel_rfl) (by kernel_rfl) (by kernel_rfl) (fun _ _ _ h => h) (by kernel_rfl) (fun wz hz => ?_) ?_
      · rfl
      try simp only [Act.put, List.setIfInBounds_toArray, List.set_cons_zero, List.set_cons_succ]
      refine takeG 1 11 (.int .i64 (half : Int)) rfl rfl (by kernel_rfl) (by kernel_rfl) (by kernel_rfl) (fun _ _ _ h => h) (by kernel_rfl) (fun wz hz => ?_) ?_
      · rfl
      try simp only [Act.put, List.setIfInBounds_toArray, List.set_cons_zero, List.set_cons_succ]
      refine takeG 2 12 (.slice (some ⟨g, o, none⟩) half cap) rfl rfl (by kernel_rfl) (by kernel_rfl) (by kernel_rfl) (fun _ _ _ h => h) (by kernel_rfl) (fun wz hz => ?_) ?_
      · go_simp
      try simp only [Act.put, List.setIfInBounds_toArray, List.set_cons_zero, List.set_cons_succ]
      refine takeG 4 14 (.slice (some ⟨g, o, none⟩) N cap) rfl rfl (by kernel_rfl) (by kernel_rfl) (by kernel_rfl) (fun _ _ _ h => h) (by kernel_rfl) (fun wz hz => ?_) ?_
      · rfl
      try simp only [Act.put, List.setIfInBounds_toArray, List.set_cons_zero, List.set_cons_succ]
      refine takeG 5 15 (.int .i64 (half : Int)) rfl rfl (by kernel_rfl) (by kernel_rfl) (by kernel_rfl) (fun _ _ _ h => h) (by kernel_rfl) (fun wz hz => ?_) ?_
      · rfl
      try simp only [Act.put, List.setIfInBounds_toArray, List.set_cons_zero, List.set_cons_succ]
      refine takeG 6 16 (.pointer (some ⟨g, o + half * 41, none⟩)) rfl rfl (by kernel_rfl) (by kernel_rfl) (by kernel_rfl) (fun _ _ _ h => h) (by kernel_rfl) (fun wz hz => ?_) ?_
      · go_simp
      try simp only [Act.put, List.setIfInBounds_toArray, List.set_cons_zero, List.set_cons_succ]
      refine takeG 7 17 (.pointer (some ⟨g, o + half * 41, none⟩)) rfl rfl (by kernel_rfl) (by kernel_rfl) (by kernel_rfl) (fun _ _ _ h => h) (by kernel_rfl) (fun wz hz => ?_) ?_
      · go_simp
      try simp only [Act.put, List.setIfInBounds_toArray, List.set_cons_zero, List.set_cons_succ]
      refine takeG 8 18 (.string nm) rfl rfl (by kernel_rfl) (by kernel_rfl) (by kernel_rfl) (fun _ _ _ h => h) (by kernel_rfl) (fun wz hz => ?_) ?_
      · have y0 := hz.cell d0; go_simp
      try simp only [Act.put, List.setIfInBounds_toArray, List.set_cons_zero, List.set_cons_succ]
      refine takeG 9 19 (.slice (some ⟨g, o, none⟩) N cap) rfl rfl (by kernel_rfl) (by kernel_rfl) (by kernel_rfl) (fun _ _ _ h => h) (by kernel_rfl) (fun wz hz => ?_) ?_
      · rfl
      try simp only [Act.put, List.setIfInBounds_toArray, List.set_cons_zero, List.set_cons_succ]
      refine takeG 10 20 (.int .i64 (half : Int)) rfl rfl (by kernel_rfl) (by kernel_rfl) (by kernel_rfl) (fun _ _ _ h => h) (by kernel_rfl) (fun wz hz => ?_) ?_
      · rfl
      try simp only [Act.put, List.setIfInBounds_toArray, List.set_cons_zero, List.set_cons_succ]
      refine takeG 11 21 (.pointer (some ⟨g, o + half * 41, none⟩)) rfl rfl (by kernel_rfl) (by kernel_rfl) (by kernel_rfl) (fun _ _ _ h => h) (by kernel_rfl) (fun wz hz => ?_) ?_
      · go_simp
      try simp only [Act.put, List.setIfInBounds_toArray, List.set_cons_zero, List.set_cons_succ]
      refine takeG 14 24 (.slice (some ⟨g, o, none⟩) N cap) rfl rfl (by kernel_rfl) (by kernel_rfl) (by kernel_rfl) (fun _ _ _ h => h) (by kernel_rfl) (fun wz hz => ?_) ?_
      · rfl
      try simp only [Act.put, List.setIfInBounds_toArray, List.set_cons_zero, List.set_cons_succ]
      refine takeG 15 25 (.int .i64 (half : Int)) rfl rfl (by kernel_rfl) (by kernel_rfl) (by kernel_rfl) (fun _ _ _ h => h) (by kernel_rfl) (fun wz hz => ?_) ?_
      · rfl
      try simp only [Act.put, List.setIfInBounds_toArray, List.set_cons_zero, List.set_cons_succ]
      refine takeG 16 26 (.int .i64 (half1 : Int)) rfl rfl (by kernel_rfl) (by kernel_rfl) (by kernel_rfl) (fun _ _ _ h => h) (by kernel_rfl) (fun wz hz => ?_) ?_
      · go_simp
      try simp only [Act.put, List.setIfInBounds_toArray, List.set_cons_zero, List.set_cons_succ]
      refine takeG 17 27 (.slice AA N2 cap2) rfl rfl (by kernel_rfl) (by kernel_rfl) (by kernel_rfl) (fun _ _ _ h => h) (by kernel_rfl) (fun wz hz => ?_) ?_
      · (go_simp; obtain ⟨e1, e2, e3, e4⟩ := HAA.out; subst e4; exact ⟨e1, e2, e3⟩)
      try simp only [Act.put, List.setIfInBounds_toArray, List.set_cons_zero, List.set_cons_succ]
      refine readyG [3] (by kernel_rfl) (by simp) (fun w3 hg3 => ?_)
      refine AllG.call 3 13 50 #[.slice (some ⟨g, o, none⟩) half cap] rfl rfl (by kernel_rfl) (by go_simp) ((C1.out w3 (HD.out.trans hg3)).mono ?_) AllG.nil
      rintro e w4 ⟨k1, u1, rfl, hk, hf, hg4, hpl⟩
      refine ⟨u1, rfl, hg4, ?_⟩
      obtain ⟨a1, rfl⟩ := hk.form
      have HK1 : Hid (At w4 k1 (.pointer a1) ∧ k1.flat = f.take half ∧ G w w4 ∧ k1.plain w4) := ⟨hk, hf, (HD.out.trans hg3).trans hg4, hpl⟩
      clear hpl hk hf hg4 hg3
      try simp only [Act.put, List.setIfInBounds_toArray, List.set_cons_zero, List.set_cons_succ]
      refine readyG [12] (by kernel_rfl) (by simp) (fun w5 hg5 => ?_)
      refine AllG.call 12 22 32 #[.pointer (some ⟨g, o + half * 41, none⟩)] rfl rfl (by kernel_rfl) (by go_simp) ((C2.out w5 (HK1.out.2.2.1.trans hg5)).mono ?_) AllG.nil
      rintro e w6 ⟨p, kk, rfl, hk, hf, hg6, hpl, htr⟩
      refine ⟨.pointer (some ⟨p, 0, none⟩), rfl, hg6, ?_⟩
      have HK2 : Hid (AtT w6 p vv m kk ∧ kk.flat = ks ∧ G w w6 ∧ G w4 w6 ∧ kk.plain w6 ∧ Tr w6 p) := ⟨hk, hf, (HK1.out.2.2.1.trans hg5).trans hg6, hg5.trans hg6, hpl, htr⟩
      clear hpl htr hk hf hg6 hg5
      try simp only [Act.put, List.setIfInBounds_toArray, List.set_cons_zero, List.set_cons_succ]
      refine takeG 13 23 (.agg #[.string nm, .pointer (some ⟨p, 0, none⟩)]) rfl rfl (by kernel_rfl) (by kernel_rfl) (by kernel_rfl) (fun _ _ _ h => h) (by kernel_rfl) (fun wz hz => ?_) ?_
      · go_simp
      try simp only [Act.put, List.setIfInBounds_toArray, List.set_cons_zero, List.set_cons_succ]
      refine readyG [18] (by kernel_rfl) (by simp) (fun w7 hg7 => ?_)
      refine AllG.call 18 28 50 #[.slice AA N2 cap2] rfl rfl (by kernel_rfl) (by go_simp) ((C3.out w7 (HK2.out.2.2.1.trans hg7)).mono ?_) AllG.nil
      rintro e w8 ⟨k2, u2, rfl, hk, hf, hg8, hpl⟩
      refine ⟨u2, rfl, hg8, ?_⟩
      obtain ⟨a2, rfl⟩ := hk.form
      have HK3 : Hid (At w8 k2 (.pointer a2) ∧ k2.flat = f.drop (half + 1) ∧ G w w8 ∧ G w6 w8 ∧ k2.plain w8) := ⟨hk, hf, (HK2.out.2.2.1.trans hg7).trans hg8, hg7.trans hg8, hpl⟩
      clear hpl hk hf hg8 hg7
      try simp only [Act.put, List.setIfInBounds_toArray, List.set_cons_zero, List.set_cons_succ]
      refine readyG [19] (by kernel_rfl) (by simp) (fun w9 hg9 => ?_)
      have CJ := join_any k1 k2 kk (.pointer a1) (.pointer a2) nm p vv m w9 (HK1.out.1.grow ((HK2.out.2.2.2.1.trans HK3.out.2.2.2.1).trans hg9)) (HK3.out.1.grow hg9) (HK2.out.1.grow (HK3.out.2.2.2.1.trans hg9)) (by rw [HK1.out.2.1, HK2.out.2.1, HK3.out.2.1]; exact HSZ.out)
      refine AllG.call 19 29 59 #[.pointer a1, .agg #[.string nm, .pointer (some ⟨p, 0, none⟩)], .pointer a2] rfl rfl (by kernel_rfl) (by go_simp) (CJ.mono ?_) AllG.nil
      rintro e w10 ⟨q, rfl, hq, hg10⟩
      refine ⟨.pointer (some ⟨q, 0, none⟩), rfl, hg10, ?_⟩
      have HQ : Hid (At w10 (K.node q p nm vv m kk k1 k2) (.pointer (some ⟨q, 0, none⟩)) ∧ G w w10 ∧ G w8 w10) := ⟨hq, (HK3.out.2.2.1.trans hg9).trans hg10, hg9.trans hg10⟩
      clear hq hg10 hg9 CJ
      try simp only [Act.put, List.setIfInBounds_toArray, List.set_cons_zero, List.set_cons_succ]
      refine takeG 20 2 (.pointer (some ⟨q, 0, none⟩)) rfl rfl (by kernel_rfl) (by kernel_rfl) (by kernel_rfl) (fun _ _ _ h => h) (by kernel_rfl) (fun wz hz => ?_) ?_
      · rfl
      try simp only [Act.put, List.setIfInBounds_toArray, List.set_cons_zero, List.set_cons_succ]
      refine doneG (by kernel_rfl) (fun w11 hg11 => ?_)
      go_wp2_with fail
      go_ret
      have g8 := HQ.out.2.2.trans hg11
      have g6 := HK3.out.2.2.2.1.trans g8
      have g4 := HK2.out.2.2.2.1.trans g6
      refine ⟨_, _, rfl, HQ.out.1.grow hg11, ?_, HQ.out.2.1.trans hg11, HK2.out.2.2.2.2.2.grow g6, K.plain_grow g6 HK2.out.2.2.2.2.1, K.plain_grow g4 HK1.out.2.2.2, K.plain_grow g8 HK3.out.2.2.2.2⟩
      rw [K.flat, HK1.out.2.1, HK2.out.2.1, HK3.out.2.1]
      exact HFF.out
def OfResP (w : World) (u : Value) (ce : Int) (v : Vd) (m : Md) (ks : F) : Prop := (ce ≠ 0 ∧ u = .pointer none) ∨ (ce = 0 ∧ ∃ p k, u = .pointer (some ⟨p, 0, none⟩) ∧ AtT w p v m k ∧ k.flat = ks ∧ k.plain w ∧ Tr w p)
theorem of_anyP (c : Array Value) (nm : ByteArray) (v : Vd) (m : Md) (ks : F) (w : World) (hN : HasN w c nm v m ks) (hw : ks.weight ≤ 100000) :
    Calls Try.prog 18 #[.agg c] w fun e w' => ∃ u, e = .returned (.tuple #[u, .int .i64 (checkE v m ks)]) ∧ G w w' ∧ OfResP w' u (checkE v m ks) v m ks := by
  have hB : G w (w.alloc (.cells c 30)) := G.alloc _ _
  have C1 := tcheck_any c nm v m ks (w.alloc (.cells c 30)) (hN.below hB) hw
  obtain ⟨kv, hc, hS⟩ := hN
  have hl := lies_new w c 30
  have HL : Hid (Lies (w.alloc (.cells c 30)) w.heap.size 0 c ∧ c.size = 41) := ⟨hl, by rw [hc]; exact nc_size ..⟩
  have C2 := hid (fun (W : World) (hW : G (w.alloc (.cells c 30)) W) => made_anyP w.heap.size 0 nm v m kv ks W (by have := hW.lies hl; rw [hc] at this; exact this) ((hS.below hB).below hW) (F.okL_of_weight _ (by omega)) (children_anyP (ks.size + 1) ks (Nat.lt_succ_self _)))
  have HG : Hid (G w (w.alloc (.cells c 30))) := hB
  generalize checkP v m ks = cp at *
  generalize checkE v m ks = ce at *
  clear hl hc hS hB hw
  go_enter Try.func18, Try.ntmps18
  go_upto_region 1 with fail
  generalize w.alloc (.cells c 30) = w1 at *
  generalize w.heap.size = H at *
  by_cases h0 : ce = 0
  · subst h0
    go_wp2_with (first
      | (with_reducible refine wpList_exec (.agg c) ?_ ?_ ?_; exact exec_load30 _ rfl H 0 rfl c HL.out.2 HL.out.1; kernel_rfl)
      | (go_at_call 31; refine C1.mono ?_; rintro e w2 ⟨rfl, g2⟩; have CM := C2.out w2 g2; have HG2 : Hid (G w w2) := HG.out.trans g2; clear C1 C2 g2)
      | (go_at_call 32; refine CM.mono ?_; rintro e w3 ⟨p, k, rfl, h3⟩; have H3 := hid h3; clear h3 CM))
    go_ret2
    exact ⟨_, rfl, HG2.out.trans H3.out.2.2.1, .inr ⟨rfl, p, k, rfl, H3.out.1, H3.out.2.1, H3.out.2.2.2⟩⟩
  · have h0' : (ce != 0) = true := by simpa using h0
    have H0 : Hid (ce ≠ 0) := h0
    clear h0
    go_wp2_with (first
      | (with_reducible refine wpList_exec (.agg c) ?_ ?_ ?_; exact exec_load30 _ rfl H 0 rfl c HL.out.2 HL.out.1; kernel_rfl)
      | (go_at_call 31; refine C1.mono ?_; rintro e w2 ⟨rfl, g2⟩; have HG2 : Hid (G w w2) := HG.out.trans g2; clear C1 C2 g2))
    go_ret2
    exact ⟨_, rfl, HG2.out, .inl ⟨H0.out, rfl⟩⟩
end Go.Proofs.Ytlelgboklkmkdaa
/-
  The walk over two trees, kid by kid, in Lean alone.
-/
namespace Go.Proofs.Ytlelgboklkmkdaa
open Go.RowKit Ch
theorem lies_one {w : World} {g : Nat} {c d : Array Value} (h : Lies w g 0 c) (h' : Lies w g 0 d) (j : Nat) (u u' : Value) (hu : c[j]? = some u) (hu' : d[j]? = some u') : u = u' := by
  have h1 := h j u hu
  have h2 := h' j u' hu'
  rw [h1] at h2
  exact Option.some.inj h2
theorem lies_arr {w : World} {g : Nat} {c d : Array Value} (h : Lies w g 0 c) (h' : Lies w g 0 d) (hs : c.size = d.size) : c = d := by
  refine Array.ext hs fun i h1 h2 => ?_
  exact lies_one h h' i c[i] d[i] (by simp [h1]) (by simp [h2])
theorem lies_tc {w : World} {p : Nat} {v v' : Vd} {m m' : Md} {pk pk' : Value} (h : Lies w p 0 (tc v m pk)) (h' : Lies w p 0 (tc v' m' pk')) : v = v' ∧ m = m' ∧ pk = pk' := by
  have e := lies_arr h h' (by rw [tc_size, tc_size])
  have h1 := congrArg (fun a : Array Value => a.extract 0 35) e
  have h2 := congrArg (fun a : Array Value => a.extract 35 39) e
  have h3 := congrArg (fun a : Array Value => a[39]?) e
  simp only [tc_val, tc_marks, tc_kids] at h1 h2 h3
  exact ⟨vx_inj (by simpa using h1), mx_inj (by simpa using h2), Option.some.inj h3⟩
/-- what lies there tells which tree it is -/
theorem At.uniq {w : World} : ∀ {k k' : K} {u : Value}, At w k u → At w k' u → k = k'
  | .nil, .nil, _, _, _ => rfl
  | .nil, .node .., _, h, ⟨h', _⟩ => by rw [h] at h'; cases h'
  | .node .., .nil, _, ⟨h, _⟩, h' => by rw [h] at h'; cases h'
  | .node q p nm v m kids ah be, .node q' p' nm' v' m' kids' ah' be', _, ⟨h1, pk, pa, pb, ⟨h2, h3⟩, h4, h5, h6⟩, ⟨g1, pk', pa', pb', ⟨g2, g3⟩, g4, g5, g6⟩ => by
    rw [h1] at g1
    injection g1 with g1
    injection g1 with g1
    injection g1 with g1
    subst g1
    have e0 := lies_one h2 g2 0 (.string nm) (.string nm') rfl rfl
    have e1 := lies_one h2 g2 1 (.pointer (some ⟨p, 0, none⟩)) (.pointer (some ⟨p', 0, none⟩)) rfl rfl
    have e2 := lies_one h2 g2 2 pa pa' rfl rfl
    have e3 := lies_one h2 g2 3 pb pb' rfl rfl
    injection e0 with e0
    injection e1 with e1
    injection e1 with e1
    injection e1 with e1
    subst e0 e1 e2 e3
    obtain ⟨e4, e5, e6⟩ := lies_tc h3 g3
    subst e4 e5 e6
    rw [At.uniq h4 g4, At.uniq h5 g5, At.uniq h6 g6]
theorem AtT.uniq {w : World} {p : Nat} {v v' : Vd} {m m' : Md} {k k' : K} (h : AtT w p v m k) (h' : AtT w p v' m' k') : v = v' ∧ m = m' ∧ k = k' := by
  obtain ⟨pk, h1, h2⟩ := h
  obtain ⟨pk', h1', h2'⟩ := h'
  obtain ⟨e1, e2, e3⟩ := lies_tc h1 h1'
  subst e3
  exact ⟨e1, e2, h2.uniq h2'⟩
/-- a side of the walk: nothing, or a tree (its name is of no account) -/
abbrev Si := Option Kid
def siP (x : Si) : Value := .pointer (x.map fun q => ⟨q.p, 0, none⟩)
def siV (x : Si) : Vd := match x with | none => DO.vz | some q => q.v
def siF (x : Si) : F := match x with | none => .nil | some q => q.k.flat
def siI (x : Si) : List Kid := match x with | none => [] | some q => q.k.items
def siZ (x : Si) : Nat := match x with | none => 0 | some q => q.k.flat.size + 1
def SiAt (w : World) (x : Si) : Prop := ∀ q, x = some q → AtT w q.p q.v q.m q.k ∧ q.k.plain w ∧ Tr w q.p
theorem SiAt.grow {w w' : World} {x : Si} (h : SiAt w x) (hg : G w w') : SiAt w' x := fun q e => ⟨(h q e).1.grow hg, K.plain_grow hg (h q e).2.1, (h q e).2.2.grow hg⟩
theorem siF_items (x : Si) : kidsF (siI x) = siF x := by
  cases x with
  | none => rfl
  | some q => exact kidsF_items q.k
/-- what is yielded for a difference -/
def cvV (v : Vd) : Ch.Vd := ⟨v.kind, v.mode, v.size, v.sum, v.len⟩
theorem cvV_vx (v : Vd) : Ch.vx (cvV v) = vx v := rfl
theorem cvV_inj {v v' : Vd} (h : cvV v = cvV v') : v = v' := by
  obtain ⟨k, m, s, l, hl⟩ := v
  obtain ⟨k', m', s', l', hl'⟩ := v'
  simp only [cvV, Ch.Vd.mk.injEq] at h
  obtain ⟨rfl, rfl, rfl, rfl⟩ := h
  rfl
def toC (d : DO.Dif) : Cd := ⟨ofB (joinL d.p), cvV d.o, cvV d.n⟩
/-- all that differs below names between two sides -/
def dl (L : List By) (x y : Si) : List DO.Dif := DO.df L (siV x) (siV y) ++ DO.wk ((siF x).size + (siF y).size + 1) L (siF x) (siF y)
theorem wk_more : ∀ (N M : Nat) (L : List By) (f g : F), f.size + g.size < N → f.size + g.size < M → DO.wk N L f g = DO.wk M L f g := by
  intro N
  induction N with
  | zero => intro M L f g h _; omega
  | succ N ih =>
    intro M L f g h h2
    cases M with
    | zero => omega
    | succ M =>
      cases f with
      | nil => cases g with
        | nil => rfl
        | cons nm v m k r =>
          simp only [F.size] at h h2
          simp only [DO.wk]
          rw [ih M _ .nil k (by simp [F.size]; omega) (by simp [F.size]; omega), ih M _ .nil r (by simp [F.size]; omega) (by simp [F.size]; omega)]
      | cons nm v m k r => cases g with
        | nil =>
          simp only [F.size] at h h2
          simp only [DO.wk]
          rw [ih M _ k .nil (by simp [F.size]; omega) (by simp [F.size]; omega), ih M _ r .nil (by simp [F.size]; omega) (by simp [F.size]; omega)]
        | cons nm2 v2 m2 k2 r2 =>
          simp only [F.size] at h h2
          simp only [DO.wk]
          rw [ih M _ k .nil (by simp [F.size]; omega) (by simp [F.size]; omega), ih M _ r (.cons nm2 v2 m2 k2 r2) (by simp [F.size]; omega) (by simp [F.size]; omega),
            ih M _ .nil k2 (by simp [F.size]; omega) (by simp [F.size]; omega), ih M _ (.cons nm v m k r) r2 (by simp [F.size]; omega) (by simp [F.size]; omega),
            ih M _ k k2 (by omega) (by omega), ih M _ r r2 (by omega) (by omega)]
theorem wk_self : ∀ (N : Nat) (L : List By) (f : F), DO.wk N L f f = [] := by
  intro N
  induction N with
  | zero => intro L f; rfl
  | succ N ih =>
    intro L f
    cases f with
    | nil => rfl
    | cons nm v m k r =>
      simp only [DO.wk, DO.belowL_self, Bool.false_eq_true, if_false, ih, DO.df, if_true, List.append_nil]
theorem dl_same {L : List By} {x : Si} : dl L x x = [] := by
  unfold dl
  rw [wk_self]
  simp [DO.df]
theorem dl_at {w : World} {L : List By} {x y : Si} (hx : SiAt w x) (hy : SiAt w y) (h : siP x = siP y) : dl L x y = [] := by
  cases x with
  | none => cases y with
    | none => exact dl_same
    | some q => simp [siP] at h
  | some q => cases y with
    | none => simp [siP] at h
    | some r =>
      simp [siP] at h
      have h1 := (hx q rfl).1
      have h2 := (hy r rfl).1
      rw [h] at h1
      obtain ⟨e1, e2, e3⟩ := h1.uniq h2
      have : dl L (some q) (some r) = dl L (some r) (some r) := by simp only [dl, siV, siF, e1, e3]
      rw [this]
      exact dl_same
/-- the pair's sides -/
def pX (A : List Kid) (i : Option Nat) : Si := match i with | none => none | some i => A[i]?
def pNm (A B : List Kid) (p : Pr) : ByteArray := match pX A p.1, pX B p.2 with | some a, _ => a.nm | none, some b => b.nm | none, none => ⟨#[]⟩
def pD (L : List By) (A B : List Kid) (p : Pr) : List DO.Dif := dl (L ++ [tl (pNm A B p)]) (pX A p.1) (pX B p.2)
theorem kidsF_drop {A : List Kid} {i : Nat} {x : Kid} (h : A[i]? = some x) : kidsF (A.drop i) = .cons x.nm x.v x.m x.k.flat (kidsF (A.drop (i + 1))) := by
  obtain ⟨hlt, e⟩ := List.getElem?_eq_some_iff.1 h
  rw [List.drop_eq_getElem_cons hlt, e]
  rfl
theorem tl_data (a : ByteArray) : a.toList = a.data.toList := by simp [ByteArray.toList_eq]
theorem cmp_below (a b : ByteArray) : (cmpB a b < 0 ↔ belowL (tl a) (tl b) = true) ∧ (0 < cmpB a b ↔ belowL (tl b) (tl a) = true) := by
  have h := below_of_cmp (tl a) (tl b)
  have e : cmpB a b = Lib.compareBytes (tl a) (tl b) := by unfold cmpB; show Lib.compareBytes a.data.toList b.data.toList = Lib.compareBytes a.toList b.toList; rw [tl_data, tl_data]
  have h3 : Lib.compareBytes (tl a) (tl b) = -1 ∨ Lib.compareBytes (tl a) (tl b) = 0 ∨ Lib.compareBytes (tl a) (tl b) = 1 := by
    by_cases h1 : belowL (tl a) (tl b) = true
    · exact .inl (h.1.2 h1)
    · by_cases h2 : belowL (tl b) (tl a) = true
      · exact .inr (.inr (h.2.2.2 h2))
      · exact .inr (.inl (h.2.1.2 (DO.belowL_eq _ _ (by simpa using h1) (by simpa using h2))))
  rw [e]
  refine ⟨⟨fun hh => h.1.1 (by omega), fun hh => by rw [h.1.2 hh]; omega⟩, ⟨fun hh => h.2.2.1 (by omega), fun hh => by rw [h.2.2.2 hh]; omega⟩⟩
/-- the walk over two forests is the walk over the pairs of kids -/
theorem wk_pairs (L : List By) (A B : List Kid) : ∀ (r i j N : Nat), Ch.rem A B i j ≤ r → (kidsF (A.drop i)).size + (kidsF (B.drop j)).size < N → DO.wk N L (kidsF (A.drop i)) (kidsF (B.drop j)) = (mg A B i j).flatMap (pD L A B) := by
  intro r
  induction r with
  | zero =>
    intro i j N h hN
    unfold Ch.rem at h
    rw [mg_done (by omega), List.drop_of_length_le (by omega), List.drop_of_length_le (by omega)]
    cases N with
    | zero => rfl
    | succ N => rfl
  | succ r ih =>
    intro i j N h hN
    by_cases hc : i < A.length ∨ j < B.length
    · rw [mg_step hc, List.flatMap_cons]
      have hrem := rem_next hc
      rcases Int.lt_trichotomy (ordA A B i j) 0 with hn | hz | hp
      · have hi := ord_left hc (by omega)
        obtain ⟨x, hx⟩ : ∃ x, A[i]? = some x := ⟨A[i], by simp⟩
        rw [(itm_neg hn).1, (itm_neg hn).2.1, (itm_neg hn).2.2]
        rw [(itm_neg hn).2.1, (itm_neg hn).2.2] at hrem
        rw [kidsF_drop hx] at hN ⊢
        simp only [F.size] at hN
        obtain ⟨N, rfl⟩ : ∃ N', N = N' + 1 := ⟨N - 1, by omega⟩
        have e1 : pD L A B (some i, none) = DO.df (L ++ [tl x.nm]) x.v DO.vz ++ DO.wk N (L ++ [tl x.nm]) x.k.flat .nil := by
          have e0 : pNm A B (some i, none) = x.nm := by simp [pNm, pX, hx]
          simp only [pD, dl, e0, pX, hx, siV, siF]
          rw [wk_more _ N _ _ _ (by omega) (by simp [F.size]; omega)]
        rw [e1, ← ih (i + 1) j N (by omega) (by omega)]
        cases hB : B[j]? with
        | none =>
          have : B.drop j = [] := List.drop_of_length_le (by simpa using hB)
          rw [this]
          simp only [kidsF, DO.wk, List.append_assoc]
        | some y =>
          rw [kidsF_drop hB, DO.wk]
          have : belowL (tl x.nm) (tl y.nm) = true := (cmp_below x.nm y.nm).1.1 (by unfold ordA at hn; rw [hx, hB] at hn; exact hn)
          rw [if_pos this, List.append_assoc]
      · have hi := ord_left hc (by omega)
        have hj := ord_right hc (by omega)
        obtain ⟨x, hx⟩ : ∃ x, A[i]? = some x := ⟨A[i], by simp⟩
        obtain ⟨y, hy⟩ : ∃ y, B[j]? = some y := ⟨B[j], by simp⟩
        rw [(itm_zero hz).1, (itm_zero hz).2.1, (itm_zero hz).2.2]
        rw [(itm_zero hz).2.1, (itm_zero hz).2.2] at hrem
        rw [kidsF_drop hx, kidsF_drop hy] at hN ⊢
        simp only [F.size] at hN
        obtain ⟨N, rfl⟩ : ∃ N', N = N' + 1 := ⟨N - 1, by omega⟩
        have e1 : pD L A B (some i, some j) = DO.df (L ++ [tl x.nm]) x.v y.v ++ DO.wk N (L ++ [tl x.nm]) x.k.flat y.k.flat := by
          have e0 : pNm A B (some i, some j) = x.nm := by simp [pNm, pX, hx]
          simp only [pD, dl, e0, pX, hx, hy, siV, siF]
          rw [wk_more _ N _ _ _ (by omega) (by omega)]
        have hc0 : cmpB x.nm y.nm = 0 := by unfold ordA at hz; rw [hx, hy] at hz; exact hz
        have n1 : ¬ belowL (tl x.nm) (tl y.nm) = true := fun e => by have := (cmp_below x.nm y.nm).1.2 e; omega
        have n2 : ¬ belowL (tl y.nm) (tl x.nm) = true := fun e => by have := (cmp_below x.nm y.nm).2.2 e; omega
        rw [e1, ← ih (i + 1) (j + 1) N (by omega) (by omega), DO.wk, if_neg n1, if_neg n2, List.append_assoc]
      · have hj := ord_right hc (by omega)
        obtain ⟨y, hy⟩ : ∃ y, B[j]? = some y := ⟨B[j], by simp⟩
        rw [(itm_pos hp).1, (itm_pos hp).2.1, (itm_pos hp).2.2]
        rw [(itm_pos hp).2.1, (itm_pos hp).2.2] at hrem
        rw [kidsF_drop hy] at hN ⊢
        simp only [F.size] at hN
        obtain ⟨N, rfl⟩ : ∃ N', N = N' + 1 := ⟨N - 1, by omega⟩
        have e1 : pD L A B (none, some j) = DO.df (L ++ [tl y.nm]) DO.vz y.v ++ DO.wk N (L ++ [tl y.nm]) .nil y.k.flat := by
          have e0 : pNm A B (none, some j) = y.nm := by simp [pNm, pX, hy]
          simp only [pD, dl, e0, pX, hy, siV, siF]
          rw [wk_more _ N _ _ _ (by omega) (by simp [F.size]; omega)]
        rw [e1, ← ih i (j + 1) N (by omega) (by omega)]
        cases hA : A[i]? with
        | none =>
          have : A.drop i = [] := List.drop_of_length_le (by simpa using hA)
          rw [this]
          simp only [kidsF, DO.wk, List.append_assoc]
        | some x =>
          rw [kidsF_drop hA, DO.wk]
          have hc0 : 0 < cmpB x.nm y.nm := by unfold ordA at hp; rw [hA, hy] at hp; exact hp
          have n1 : ¬ belowL (tl x.nm) (tl y.nm) = true := fun e => by have := (cmp_below x.nm y.nm).1.2 e; omega
          rw [if_neg n1, if_pos ((cmp_below x.nm y.nm).2.1 hc0), List.append_assoc]
    · rw [mg_done hc, List.drop_of_length_le (by omega), List.drop_of_length_le (by omega)]
      cases N with
      | zero => rfl
      | succ N => rfl
theorem dl_pairs (L : List By) (x y : Si) : dl L x y = DO.df L (siV x) (siV y) ++ (mg (siI x) (siI y) 0 0).flatMap (pD L (siI x) (siI y)) := by
  unfold dl
  have := wk_pairs L (siI x) (siI y) _ 0 0 ((siF x).size + (siF y).size + 1) (Nat.le_refl _) (by simp only [List.drop_zero, siF_items]; omega)
  rw [← this]
  simp only [List.drop_zero, siF_items]
end Go.Proofs.Ytlelgboklkmkdaa
