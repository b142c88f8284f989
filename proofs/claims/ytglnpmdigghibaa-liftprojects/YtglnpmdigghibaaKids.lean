/-
  tree.childrenOf by contract.
-/
import Derived.Test.YtglnpmdigghibaaMade
namespace Go.Proofs.Ytglnpmdigghibaa
open Go.RowKit

theorem HasR.take {w : World} : ∀ {f : F} {k g o : Nat}, HasR w f g o → HasR w (f.take k) g o
  | f, 0, _, _, _ => by rw [F.take_zero]; trivial
  | .nil, _ + 1, _, _, _ => trivial
  | .cons _ _ _ _ r, k + 1, _, _, h => ⟨h.1, HasR.take (f := r) (k := k) h.2⟩
theorem F.split_size {f : F} {k : Nat} {nm : ByteArray} {v : Vd} {m : Md} {ks r : F} (h : f.drop k = .cons nm v m ks r) : (f.take k).size + r.size + ks.size + 1 = f.size := by
  have h1 := congrArg F.size (F.app_take_drop f k)
  rw [F.app_size, h, F.size] at h1
  omega

set_option maxRecDepth 100000 in
set_option maxHeartbeats 1000000 in
theorem children_any : ∀ (Z : Nat) (f : F), f.size < Z → ChildrenOk f := by
  intro Z
  induction Z with
  | zero => intro f h; omega
  | succ Z ih =>
    intro f hZ v w hS hok
    obtain ⟨a, cap, rfl, hcap⟩ := hS.form
    obtain ⟨N, hN⟩ : ∃ N, f.len = N := ⟨_, rfl⟩
    have hN2 : N ≤ 9223372036854775807 := by have := f.len_le_size; unfold F.okL at hok; omega
    by_cases h0 : N = 0
    · have hf : f = .nil := by
        cases f with
        | nil => rfl
        | cons => simp [F.len] at hN; omega
      rw [hN]
      subst h0
      go_enter Try.func29, Try.ntmps29
      go_wp2_with fail
      go_ret
      exact ⟨.nil, _, rfl, rfl, hf.symm, G.refl w⟩
    · have hlt : N / 2 < N := by omega
      obtain ⟨half, hh⟩ : ∃ half, N / 2 = half := ⟨_, rfl⟩
      rw [hh] at hlt
      obtain ⟨_, _, he, _, hr⟩ := id hS
      rcases hr with hr | ⟨g, o, ha, hr⟩
      · subst hr; simp [F.len] at hN; omega
      obtain rfl : a = some ⟨g, o, none⟩ := by injection he with e1; rw [e1, ha]
      clear he ha
      obtain ⟨g', o', cap', nm, vv, m, ks, c, hv, hd, hNN, hc⟩ := hS.at (k := half) (by omega)
      obtain ⟨rfl, rfl⟩ : g' = g ∧ o' = o := by injection hv with e1; injection e1 with e2; injection e2 with e3 e4; exact ⟨e3.symm, e4.symm⟩
      clear hv
      obtain ⟨kv, rfl, hSk⟩ := hNN
      have hsz := F.split_size hd
      have hok' : ∀ x : F, x.size ≤ f.size → x.okL := fun x hx => by unfold F.okL at *; omega
      have n0 : w.cell? ⟨g', o' + half * 41, none⟩ = some (.string nm) := hc 0 _ (nc_name ..)
      have hT : HasS w (.slice (some ⟨g', o', none⟩) half cap) (f.take half) := ⟨_, _, by rw [F.take_len f half (by omega)], by rw [F.take_len f half (by omega)]; omega, .inr ⟨g', o', rfl, hr.take⟩⟩
      obtain ⟨AA, hAA⟩ : ∃ AA, (if cap = half + 1 then some (⟨g', o', none⟩ : Addr) else some ⟨g', o' + (half + 1) * 41, none⟩) = AA := ⟨_, rfl⟩
      obtain ⟨N2, hN2'⟩ : ∃ N2, N - (half + 1) = N2 := ⟨_, rfl⟩
      obtain ⟨cap2, hcap2⟩ : ∃ c2, cap - (half + 1) = c2 := ⟨_, rfl⟩
      have hU : HasS w (.slice AA N2 cap2) (f.drop (half + 1)) := by
        refine ⟨_, _, by rw [F.drop_len, hN, hN2'], by rw [F.drop_len]; omega, ?_⟩
        by_cases hce : cap = half + 1
        · left
          exact F.drop_all f _ (by omega)
        · right
          rw [if_neg hce] at hAA
          exact ⟨_, _, hAA.symm, hr.drop⟩
      have C1 := hid (fun (W : World) (hW : G w W) => ih (f.take half) (by omega) _ W (hT.below hW) (hok' _ (by omega)))
      have C2 := hid (fun (W : World) (hW : G w W) => made_any g' (o' + half * 41) nm vv m kv ks W (hW.lies hc) (hSk.below hW) (hok' _ (by omega)) (ih ks (by omega)))
      have C3 := hid (fun (W : World) (hW : G w W) => ih (f.drop (half + 1)) (by omega) _ W (hU.below hW) (hok' _ (by omega)))
      have HSZ : Hid ((f.take half).size + (f.drop (half + 1)).size + ks.size + 1 ≤ 9223372036854775807) := by show _ ≤ _; unfold F.okL at hok; omega
      have HFF : Hid ((f.take half).app (.cons nm vv m ks (f.drop (half + 1))) = f) := by show _ = _; rw [← hd]; exact F.app_take_drop f half
      generalize hg' : g' = g at *
      generalize ho' : o' = o at *
      rw [hN] at hcap
      obtain ⟨half1, hh1⟩ : ∃ h1, half + 1 = h1 := ⟨_, rfl⟩
      have q1 : (N : Int).tdiv 2 = (half : Int) := by rw [← hh]; exact Int.ofNat_tdiv N 2
      have q2 : IntKind.i64.wrap ((half : Int) + 1) = (half1 : Int) := by rw [← hh1, IntKind.wrap_i64]; omega
      have q3 : (half : Int) < (N : Int) := by omega
      have q4 : (half : Int) ≤ (cap : Int) := by omega
      have q5 : (half1 : Int) ≤ (N : Int) := by omega
      have q6 : (N : Int) ≤ (cap : Int) := by omega
      have q7 : ¬ (N : Int) = 0 := by omega
      have HAA : Hid (((if cap = half + 1 then some (⟨g, o, none⟩ : Addr) else some ⟨g, o + (half + 1) * 41, none⟩) = AA) ∧ N - (half + 1) = N2 ∧ cap - (half + 1) = cap2 ∧ half + 1 = half1) := ⟨hAA, hN2', hcap2, hh1⟩
      rw [hN]
      clear hS hr hd hSk hc hT hU hAA hN2' hcap2 hh1 hN ih hsz hok' hh hok hZ
      go_enter Try.func29, Try.ntmps29
      go_upto_region 4 with fail
      refine wp_region_G ?_
      have d0 := (G.drew w).cell n0
      have HD : Hid (G w w.drew) := G.drew w
      generalize w.drew = w2 at *
      refine takeG 0 10 (.slice (some ⟨g, o, none⟩) N cap) rfl rfl (by kernel_rfl) (by kernel_rfl) (by kernel_rfl) (fun _ _ _ h => h) (by kernel_rfl) (fun wz hz => ?_) ?_
      · rfl
      try simp only [Act.put, List.setIfInBounds_toArray, List.set_cons_zero, List.set_cons_succ]
      refine takeG 1 11 (.int .i64 (half : Int)) rfl rfl (by kernel_rfl) (by kernel_rfl) (by kernel_rfl) (fun _ _ _ h => h) (by kernel_rfl) (fun wz hz => ?_) ?_
      · rfl
      try simp only [Act.put, List.setIfInBounds_toArray, List.set_cons_zero, List.set_cons_succ]
      refine takeG 2 12 (.slice (some ⟨g, o, none⟩) half cap) rfl rfl (by kernel_rfl) (by kernel_rfl) (by kernel_rfl) (fun _ _ _ h => h) (by kernel_rfl) (fun wz hz => ?_) ?_
      · go_simp
      try simp only [Act.put, List.setIfInBounds_toArray, List.set_cons_zero, List.set_cons_succ]
      refine takeG 4 14 (.slice (some ⟨g, o, none⟩) N cap) rfl rfl (by kernel_rfl) (by kernel_rfl) (by kernel_rfl) (fun _ _ _ h => h) (by kernel_rfl) (fun wz hz => ?_) ?_
      · rfl
      try simp only [Act.put, List.setIfInBounds_toArray, List.set_cons_zero, List.set_cons_succ]
      refine takeG 5 15 (.int .i64 (half : Int)) rfl rfl (by kernel_rfl) (by kernel_rfl) (by kernel_rfl) (fun _ _ _ h => h) (by kernel_rfl) (fun wz hz => ?_) ?_
      · rfl
      try simp only [Act.put, List.setIfInBounds_toArray, List.set_cons_zero, List.set_cons_succ]
      refine takeG 6 16 (.pointer (some ⟨g, o + half * 41, none⟩)) rfl rfl (by kernel_rfl) (by kernel_rfl) (by kernel_rfl) (fun _ _ _ h => h) (by kernel_rfl) (fun wz hz => ?_) ?_
      · go_simp
      try simp only [Act.put, List.setIfInBounds_toArray, List.set_cons_zero, List.set_cons_succ]
      refine takeG 7 17 (.pointer (some ⟨g, o + half * 41, none⟩)) rfl rfl (by kernel_rfl) (by kernel_rfl) (by kernel_rfl) (fun _ _ _ h => h) (by kernel_rfl) (fun wz hz => ?_) ?_
      · go_simp
      try simp only [Act.put, List.setIfInBounds_toArray, List.set_cons_zero, List.set_cons_succ]
      refine takeG 8 18 (.string nm) rfl rfl (by kernel_rfl) (by kernel_rfl) (by kernel_rfl) (fun _ _ _ h => h) (by kernel_rfl) (fun wz hz => ?_) ?_
      · have y0 := hz.cell d0; go_simp
      try simp only [Act.put, List.setIfInBounds_toArray, List.set_cons_zero, List.set_cons_succ]
      refine takeG 9 19 (.slice (some ⟨g, o, none⟩) N cap) rfl rfl (by kernel_rfl) (by kernel_rfl) (by kernel_rfl) (fun _ _ _ h => h) (by kernel_rfl) (fun wz hz => ?_) ?_
      · rfl
      try simp only [Act.put, List.setIfInBounds_toArray, List.set_cons_zero, List.set_cons_succ]
      refine takeG 10 20 (.int .i64 (half : Int)) rfl rfl (by kernel_rfl) (by kernel_rfl) (by kernel_rfl) (fun _ _ _ h => h) (by kernel_rfl) (fun wz hz => ?_) ?_
      · rfl
      try simp only [Act.put, List.setIfInBounds_toArray, List.set_cons_zero, List.set_cons_succ]
      refine takeG 11 21 (.pointer (some ⟨g, o + half * 41, none⟩)) rfl rfl (by kernel_rfl) (by kernel_rfl) (by kernel_rfl) (fun _ _ _ h => h) (by kernel_rfl) (fun wz hz => ?_) ?_
      · go_simp
      try simp only [Act.put, List.setIfInBounds_toArray, List.set_cons_zero, List.set_cons_succ]
      refine takeG 14 24 (.slice (some ⟨g, o, none⟩) N cap) rfl rfl (by kernel_rfl) (by kernel_rfl) (by kernel_rfl) (fun _ _ _ h => h) (by kernel_rfl) (fun wz hz => ?_) ?_
      · rfl
      try simp only [Act.put, List.setIfInBounds_toArray, List.set_cons_zero, List.set_cons_succ]
      refine takeG 15 25 (.int .i64 (half : Int)) rfl rfl (by kernel_rfl) (by kernel_rfl) (by kernel_rfl) (fun _ _ _ h => h) (by kernel_rfl) (fun wz hz => ?_) ?_
      · rfl
      try simp only [Act.put, List.setIfInBounds_toArray, List.set_cons_zero, List.set_cons_succ]
      refine takeG 16 26 (.int .i64 (half1 : Int)) rfl rfl (by kernel_rfl) (by kernel_rfl) (by kernel_rfl) (fun _ _ _ h => h) (by kernel_rfl) (fun wz hz => ?_) ?_
      · go_simp
      try simp only [Act.put, List.setIfInBounds_toArray, List.set_cons_zero, List.set_cons_succ]
      refine takeG 17 27 (.slice AA N2 cap2) rfl rfl (by kernel_rfl) (by kernel_rfl) (by kernel_rfl) (fun _ _ _ h => h) (by kernel_rfl) (fun wz hz => ?_) ?_
      · (go_simp; obtain ⟨e1, e2, e3, e4⟩ := HAA.out; subst e4; exact ⟨e1, e2, e3⟩)
      try simp only [Act.put, List.setIfInBounds_toArray, List.set_cons_zero, List.set_cons_succ]
      refine readyG [3] (by kernel_rfl) (by simp) (fun w3 hg3 => ?_)
      refine AllG.call 3 13 29 #[.slice (some ⟨g, o, none⟩) half cap] rfl rfl (by kernel_rfl) (by go_simp) ((C1.out w3 (HD.out.trans hg3)).mono ?_) AllG.nil
      rintro e w4 ⟨k1, u1, rfl, hk, hf, hg4⟩
      refine ⟨u1, rfl, hg4, ?_⟩
      obtain ⟨a1, rfl⟩ := hk.form
      have HK1 : Hid (At w4 k1 (.pointer a1) ∧ k1.flat = f.take half ∧ G w w4) := ⟨hk, hf, (HD.out.trans hg3).trans hg4⟩
      clear hk hf hg4 hg3
      try simp only [Act.put, List.setIfInBounds_toArray, List.set_cons_zero, List.set_cons_succ]
      refine readyG [12] (by kernel_rfl) (by simp) (fun w5 hg5 => ?_)
      refine AllG.call 12 22 16 #[.pointer (some ⟨g, o + half * 41, none⟩)] rfl rfl (by kernel_rfl) (by go_simp) ((C2.out w5 (HK1.out.2.2.trans hg5)).mono ?_) AllG.nil
      rintro e w6 ⟨p, kk, rfl, hk, hf, hg6⟩
      refine ⟨.pointer (some ⟨p, 0, none⟩), rfl, hg6, ?_⟩
      have HK2 : Hid (AtT w6 p vv m kk ∧ kk.flat = ks ∧ G w w6 ∧ G w4 w6) := ⟨hk, hf, (HK1.out.2.2.trans hg5).trans hg6, hg5.trans hg6⟩
      clear hk hf hg6 hg5
      try simp only [Act.put, List.setIfInBounds_toArray, List.set_cons_zero, List.set_cons_succ]
      refine takeG 13 23 (.agg #[.string nm, .pointer (some ⟨p, 0, none⟩)]) rfl rfl (by kernel_rfl) (by kernel_rfl) (by kernel_rfl) (fun _ _ _ h => h) (by kernel_rfl) (fun wz hz => ?_) ?_
      · go_simp
      try simp only [Act.put, List.setIfInBounds_toArray, List.set_cons_zero, List.set_cons_succ]
      refine readyG [18] (by kernel_rfl) (by simp) (fun w7 hg7 => ?_)
      refine AllG.call 18 28 29 #[.slice AA N2 cap2] rfl rfl (by kernel_rfl) (by go_simp) ((C3.out w7 (HK2.out.2.2.1.trans hg7)).mono ?_) AllG.nil
      rintro e w8 ⟨k2, u2, rfl, hk, hf, hg8⟩
      refine ⟨u2, rfl, hg8, ?_⟩
      obtain ⟨a2, rfl⟩ := hk.form
      have HK3 : Hid (At w8 k2 (.pointer a2) ∧ k2.flat = f.drop (half + 1) ∧ G w w8 ∧ G w6 w8) := ⟨hk, hf, (HK2.out.2.2.1.trans hg7).trans hg8, hg7.trans hg8⟩
      clear hk hf hg8 hg7
      try simp only [Act.put, List.setIfInBounds_toArray, List.set_cons_zero, List.set_cons_succ]
      refine readyG [19] (by kernel_rfl) (by simp) (fun w9 hg9 => ?_)
      have CJ := join_any k1 k2 kk (.pointer a1) (.pointer a2) nm p vv m w9 (HK1.out.1.grow ((HK2.out.2.2.2.trans HK3.out.2.2.2).trans hg9)) (HK3.out.1.grow hg9) (HK2.out.1.grow (HK3.out.2.2.2.trans hg9)) (by rw [HK1.out.2.1, HK2.out.2.1, HK3.out.2.1]; exact HSZ.out)
      refine AllG.call 19 29 40 #[.pointer a1, .agg #[.string nm, .pointer (some ⟨p, 0, none⟩)], .pointer a2] rfl rfl (by kernel_rfl) (by go_simp) (CJ.mono ?_) AllG.nil
      rintro e w10 ⟨q, rfl, hq, hg10⟩
      refine ⟨.pointer (some ⟨q, 0, none⟩), rfl, hg10, ?_⟩
      have HQ : Hid (At w10 (K.node q p nm vv m kk k1 k2) (.pointer (some ⟨q, 0, none⟩)) ∧ G w w10) := ⟨hq, (HK3.out.2.2.1.trans hg9).trans hg10⟩
      clear hq hg10 hg9 CJ
      try simp only [Act.put, List.setIfInBounds_toArray, List.set_cons_zero, List.set_cons_succ]
      refine takeG 20 2 (.pointer (some ⟨q, 0, none⟩)) rfl rfl (by kernel_rfl) (by kernel_rfl) (by kernel_rfl) (fun _ _ _ h => h) (by kernel_rfl) (fun wz hz => ?_) ?_
      · rfl
      try simp only [Act.put, List.setIfInBounds_toArray, List.set_cons_zero, List.set_cons_succ]
      refine doneG (by kernel_rfl) (fun w11 hg11 => ?_)
      go_wp2_with fail
      go_ret
      refine ⟨_, _, rfl, HQ.out.1.grow hg11, ?_, HQ.out.2.trans hg11⟩
      rw [K.flat, HK1.out.2.1, HK2.out.2.1, HK3.out.2.1]
      exact HFF.out
end Go.Proofs.Ytglnpmdigghibaa
