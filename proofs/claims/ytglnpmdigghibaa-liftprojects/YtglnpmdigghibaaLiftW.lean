/-
  LiftProjects: the walk.
-/
import Derived.Test.YtglnpmdigghibaaLift
import Derived.Test.YtglnpmdigghibaaFew
import Derived.Test.YtglnpmdigghibaaPlainN
namespace Go.Proofs.Ytglnpmdigghibaa
open Go.RowKit

theorem tc_first (v : Vd) (m : Md) (pk : Value) : (tc v m pk)[0]? = some (.int .i64 v.kind) := by simp [tc, vx]
/-- a thing's own variable is no block of a tree -/
theorem At.keepB {w w' : World} {B : Nat} {nm0 : ByteArray} {v0 : Vd} {m0 : Md} {kv0 : Value} (hB : Var w B (nc nm0 v0 m0 kv0)) (ho : ∀ b, b ≠ B → w'.heap[b]? = w.heap[b]?) : ∀ {k : K} {u : Value}, At w k u → At w' k u
  | .nil, _, h => h
  | .node q p nm v m kids ah be, _, ⟨h1, pk, pa, pb, ⟨h2, h3⟩, h4, h5, h6⟩ => by
    have hq : q ≠ B := fun e => by
      subst e
      have a := lies_cell h2 1 (.pointer (some ⟨p, 0, none⟩)) rfl
      rw [lies_cell hB.lies 1 _ (nc_kind ..)] at a
      cases a
    have hp : p ≠ B := fun e => by
      subst e
      have a := lies_cell h3 0 _ (tc_first ..)
      rw [lies_cell hB.lies 0 _ (nc_name ..)] at a
      cases a
    exact ⟨h1, pk, pa, pb, ⟨h2.same (ho q hq), h3.same (ho p hp)⟩, At.keepB hB ho h4, At.keepB hB ho h5, At.keepB hB ho h6⟩
theorem AtT.keepB {w w' : World} {B p : Nat} {v : Vd} {m : Md} {k : K} {nm0 : ByteArray} {v0 : Vd} {m0 : Md} {kv0 : Value} (hB : Var w B (nc nm0 v0 m0 kv0)) (ho : ∀ b, b ≠ B → w'.heap[b]? = w.heap[b]?) (h : AtT w p v m k) : AtT w' p v m k := by
  obtain ⟨pk, h3, h4⟩ := h
  have hp : p ≠ B := fun e => by
    subst e
    have a := lies_cell h3 0 _ (tc_first ..)
    rw [lies_cell hB.lies 0 _ (nc_name ..)] at a
    cases a
  exact ⟨pk, h3.same (ho p hp), h4.keepB hB ho⟩
theorem Tr.keepB {w w' : World} {B p : Nat} {c : Array Value} (hB : Var w B c) (ho : ∀ b, b ≠ B → w'.heap[b]? = w.heap[b]?) (h : Tr w p) : Tr w' p := by
  obtain ⟨x, hx⟩ := h
  have hp : p ≠ B := fun e => by
    subst e
    have hb : w.heap[p]? = some (.cells c 30 (0, 0)) := hB
    rw [hb] at hx
    cases hx
  exact ⟨x, (ho p hp).trans hx⟩

/-- what the law holds in its hands, round by round -/
structure LX (w wr : World) (B0 p : Nat) (c2 : Array Value) (v : Vd) (m : Md) (k : K) : Prop where
  g : G w wr
  v0 : Var wr B0 c2
  z : c2.size = 41
  n : HasN wr c2 ⟨#[]⟩ v m k.flat
  t : AtT wr p v m k
  r : Tr wr p
theorem LX.grow {w wr w' : World} {B0 p : Nat} {c2 : Array Value} {v : Vd} {m : Md} {k : K} (h : LX w wr B0 p c2 v m k) (hg : G wr w') : LX w w' B0 p c2 v m k :=
  ⟨h.g.trans hg, h.v0.grow hg, h.z, h.n.below hg, h.t.grow hg, h.r.grow hg⟩

set_option maxRecDepth 100000 in
set_option maxHeartbeats 4000000 in
theorem lift_walk (c : Array Value) (nm : ByteArray) (v : Vd) (m : Md) (ks : F) (ver : Int) (w : World) (hN : HasN w c nm v m ks) (hnm : nm.size ≤ 9223372036854775807) (hok : ks.ok) (hlen : ks.len ≤ 9223372036854775807) :
    Calls Try.prog 3 #[.agg c, .int .i64 ver] w fun e w' => e = .returned (.bool true) ∧ G w w' := by
  have hcs : c.size = 41 := by obtain ⟨_, rfl, _⟩ := hN; exact nc_size ..
  have hG0 : G w (w.alloc (.cells c 30)) := G.alloc _ _
  have hV0 := Var.new w c
  have HN : Hid (HasN (w.alloc (.cells c 30)) c nm v m ks ∧ Var (w.alloc (.cells c 30)) w.heap.size c ∧ G w (w.alloc (.cells c 30))) := ⟨hN.below hG0, hV0, hG0⟩
  have HO : Hid (nm.size ≤ 9223372036854775807 ∧ ks.ok ∧ ks.len ≤ 9223372036854775807) := ⟨hnm, hok, hlen⟩
  clear hN hnm hok hlen hG0 hV0
  go_enter Try.func3, Try.ntmps3
  go_upto_region 1 with fail
  generalize w.alloc (.cells c 30) = w1 at *
  obtain ⟨B0, hB0⟩ : ∃ B, w.heap.size = B := ⟨_, rfl⟩
  have HB0 := hid hB0
  rw [hB0] at HN ⊢
  clear hB0
  go_wp2_with ((with_reducible refine wpList_exec (.agg c) ?_ ?_ ?_); exact exec_load30 _ rfl B0 0 rfl c hcs HN.out.2.1.lies; kernel_rfl)
  refine (few_any c nm v m ks w1 HN.out.1 HO.out.1 HO.out.2.1 HO.out.2.2).mono ?_
  rintro e w2 ⟨q, rfl, hq, hg2⟩
  have HQ := hid hq
  have HG2 : Hid (G w1 w2) := hg2
  clear hq hg2
  by_cases hq0 : 0 ≤ q
  case neg =>
    rw [decide_eq_false hq0]
    go_wp2
    go_ret
    exact ⟨rfl, HN.out.2.2.trans HG2.out⟩
  have HW : Hid (ks.weight ≤ 20000) := by show _ ≤ _; have := HQ.out hq0; omega
  rw [decide_eq_true hq0]
  clear HQ hq0 HO
  obtain ⟨E, hE⟩ : ∃ E, checkE v m ks = E := ⟨_, rfl⟩
  obtain ⟨P, hP⟩ : ∃ P, checkP v m ks = P := ⟨_, rfl⟩
  have HE := hid hE
  have C5 : Hid (∀ W, HasN W c nm v m ks → Calls Try.prog 5 #[.agg c] W fun e w' => ∃ u, e = .returned (.tuple #[u, .int .i64 E]) ∧ G W w' ∧ OfResP w' u E v m ks) := fun W h => by rw [← hE]; exact of_anyP c nm v m ks W h (by have := HW.out; omega)
  have C6 : Hid (∀ W, HasN W c nm v m ks → Calls Try.prog 6 #[.agg c] W fun e w' => e = .returned (.tuple #[.string P, .int .i64 E]) ∧ G W w') := fun W h => by rw [← hP, ← hE]; exact refCheckT_any c nm v m ks W h (by have := HW.out; omega)
  clear hE hP
  replace HN := hid (⟨HN.out.1.below HG2.out, HN.out.2.1.grow HG2.out, HN.out.2.2.trans HG2.out⟩ : HasN w2 c nm v m ks ∧ Var w2 B0 c ∧ G w w2)
  clear HG2
  go_wp2_with ((with_reducible refine wpList_exec (.agg c) ?_ ?_ ?_); exact exec_load30 _ rfl B0 0 rfl c hcs HN.out.2.1.lies; kernel_rfl)
  refine (C5.out w2 HN.out.1).mono ?_
  rintro e w3 ⟨u, rfl, hg3, hu⟩
  replace HN := hid (⟨HN.out.1.below hg3, HN.out.2.1.grow hg3, HN.out.2.2.trans hg3⟩ : HasN w3 c nm v m ks ∧ Var w3 B0 c ∧ G w w3)
  clear hg3 C5
  rcases hu with ⟨hE0, rfl⟩ | ⟨rfl, p, k, rfl, hT, hfl, _, hTr⟩
  · have hE1 : (E == 0) = false := by simpa using hE0
    clear hE0
    go_wp2_with (first
      | ((with_reducible refine wpList_exec (.agg c) ?_ ?_ ?_); exact exec_load30 _ rfl B0 0 rfl c hcs HN.out.2.1.lies; kernel_rfl)
      | (go_at_call 6; refine (C6.out w3 HN.out.1).mono ?_; rintro e w4 ⟨rfl, hg4⟩; have HG4 := hid (HN.out.2.2.trans hg4); clear hg4 C6))
    go_ret
    exact ⟨rfl, HG4.out⟩
  subst hfl
  have HT := hid (And.intro hT hTr)
  clear hT hTr
  go_upto_region 9 with (first
    | ((with_reducible refine wpList_exec (.agg c) ?_ ?_ ?_); exact exec_load30 _ rfl B0 0 rfl c hcs HN.out.2.1.lies; kernel_rfl)
    | (go_at_call 6; refine (C6.out w3 HN.out.1).mono ?_; rintro e w4 ⟨rfl, hg4⟩; replace HN := hid (⟨HN.out.1.below hg4, HN.out.2.1.grow hg4, HN.out.2.2.trans hg4⟩ : HasN w4 c nm v m k.flat ∧ Var w4 B0 c ∧ G w w4); replace HT := hid (⟨HT.out.1.grow hg4, HT.out.2.grow hg4⟩ : AtT w4 p v m k ∧ Tr w4 p); clear hg4 C6))
  try simp only [Act.put, List.setIfInBounds_toArray, List.set_cons_zero, List.set_cons_succ]
  go_wp2_with ((with_reducible refine wpList_exec (.agg c) ?_ ?_ ?_); exact exec_load30 _ rfl B0 0 rfl c hcs HN.out.2.1.lies; kernel_rfl)
  refine (plain_any nm v m k.flat c w4 HN.out.1 (by have := HW.out; omega)).mono ?_
  rintro e w5 ⟨c2, rfl, hn5, hg5⟩
  have hf5 := hn5.facts
  have hV5 : Var w5 B0 c := HN.out.2.1.grow hg5
  have hlt := HN.out.2.1.lt
  have hB5 := HB0.out
  have hg0 := HN.out.2.2.trans hg5
  have ho5 : ∀ b, b ≠ B0 → (w5.setRow B0 c2).heap[b]? = w5.heap[b]? := fun b hb => setRow_other _ B0 b _ hb
  have hX : LX w (w5.setRow B0 c2) B0 p c2 v m k := by
    obtain ⟨kv, hc2, hk2⟩ := hn5
    obtain ⟨kv1, hc1, _⟩ := HN.out.1
    subst hc1
    exact ⟨Below.trans (B := w.heap.size) hg0 ⟨rfl, rfl, rfl, by simp, fun b hb => ho5 b (by omega)⟩, hV5.set, hf5.1, ⟨kv, hc2, (hk2.keep (P' := New w4 w5) fun b hb => ⟨ho5 b (by have := hb.1; omega), hb⟩).has⟩, (HT.out.1.grow hg5).keepB hV5 ho5, (HT.out.2.grow hg5).keepB hV5 ho5⟩
  have HV5 := hid hV5
  have HX := hid hX
  clear hX hn5 hg5 hV5 hlt hB5 hg0 ho5 HT HN HB0
  go_upto_region 10 with ((with_reducible refine wpList_skipW (w5.setRow B0 c2) ?_ ?_ ?_); exact exec_store30 _ _ rfl B0 c2 c rfl rfl _ HV5.out hf5.1 hcs hf5.2; kernel_rfl)
  try simp only [Act.put]
  clear HV5
  generalize w5.setRow B0 c2 = w6 at *
  have CP : Hid (∀ wr, LX w wr B0 p c2 v m k → Calls Try.prog 8 #[.pointer (some ⟨p, 0, none⟩), .int .i64 ver] wr fun e w' => ∃ u, e = .returned u ∧ Pjd wr w' u (pv ver v) (pm ver m) (k.flat.mp (pv ver) (pm ver))) := fun wr h => project_any ver k p v m wr h.t h.r HE.out HW.out
  have HS : Hid (k.flat.size ≤ 20000) := by show _ ≤ _; have := F.size_le_weight k.flat; have := HW.out; omega
  have HMS : Hid ((k.flat.mp (pv ver) (pm ver)).size ≤ 20000) := by show _ ≤ _; have := F.size_le_weight (k.flat.mp (pv ver) (pm ver)); rw [F.mp_weight] at this; have := HW.out; omega
  go_wp2_with fail
  go_loopw [9] (fun i wr => ∃ j : Nat, i = .int .i64 j ∧ j ≤ 2 ∧ Hid (LX w wr B0 p c2 v m k)) (fun i _ => 2 - iOf i)
  case atStart => exact ⟨0, rfl, by omega, HX.out⟩
  case round =>
    clear HX
    obtain ⟨j, rfl, hj, HX⟩ := hrel
    by_cases hj2 : j < 2
    · have hjI : (j : Int) < 2 := by omega
      go_upto_region 14 with (go_at_call 8; refine (CP.out _ HX.out).mono ?_; rintro e w7 ⟨u, rfl, p2, k2, rfl, hT2, hfl2, hTr2, hg2⟩; replace HX := hid (HX.out.grow hg2); have H2 := hid (And.intro hT2 hfl2); clear hT2 hfl2 hTr2 hg2)
      refine wp_region_G ?_
      replace HX := hid (HX.out.grow (G.drew w7))
      replace H2 := hid (⟨H2.out.1.grow (G.drew w7), H2.out.2⟩ : AtT w7.drew p2 (pv ver v) (pm ver m) k2 ∧ k2.flat = k.flat.mp (pv ver) (pm ver))
      generalize w7.drew = w8 at *
      refine takeG 0 45 (.pointer (some ⟨p2, 0, none⟩)) rfl rfl (by kernel_rfl) (by kernel_rfl) (by kernel_rfl) (fun _ _ _ h => h) (by kernel_rfl) (fun wz hz => ?_) ?_
      · rfl
      try simp only [Act.put, List.setIfInBounds_toArray, List.set_cons_zero, List.set_cons_succ]
      refine takeG 1 46 (.bool false) rfl rfl (by kernel_rfl) (by kernel_rfl) (by kernel_rfl) (fun _ _ _ h => h) (by kernel_rfl) (fun wz hz => ?_) ?_
      · go_simp
      try simp only [Act.put, List.setIfInBounds_toArray, List.set_cons_zero, List.set_cons_succ]
      refine takeG 2 47 (.bool false) rfl rfl (by kernel_rfl) (by kernel_rfl) (by kernel_rfl) (fun _ _ _ h => h) (by kernel_rfl) (fun wz hz => ?_) ?_
      · rfl
      try simp only [Act.put, List.setIfInBounds_toArray, List.set_cons_zero, List.set_cons_succ]
      refine takeG 3 48 (.pointer (some ⟨p2, 0, none⟩)) rfl rfl (by kernel_rfl) (by kernel_rfl) (by kernel_rfl) (fun _ _ _ h => h) (by kernel_rfl) (fun wz hz => ?_) ?_
      · rfl
      try simp only [Act.put, List.setIfInBounds_toArray, List.set_cons_zero, List.set_cons_succ]
      refine takeG 5 50 (.agg c2) rfl rfl (by kernel_rfl) (by kernel_rfl) (by kernel_rfl) (fun _ _ _ h => h) (by kernel_rfl) (fun wz hz => ?_) ?_
      · exact exec_load30 _ rfl B0 0 rfl c2 HX.out.z (hz.lies HX.out.v0.lies)
      try simp only [Act.put, List.setIfInBounds_toArray, List.set_cons_zero, List.set_cons_succ]
      refine takeG 6 51 (.int .i64 ver) rfl rfl (by kernel_rfl) (by kernel_rfl) (by kernel_rfl) (fun _ _ _ h => h) (by kernel_rfl) (fun wz hz => ?_) ?_
      · rfl
      try simp only [Act.put, List.setIfInBounds_toArray, List.set_cons_zero, List.set_cons_succ]
      refine readyG [4] (by kernel_rfl) (by simp) fun w9 hg9 => ?_
      refine AllG.call 4 49 10 #[.pointer (some ⟨p2, 0, none⟩)] rfl rfl (by kernel_rfl) (by go_simp) ((treeNode_any (k2.flat.size + 1) k2 (Nat.lt_succ_self _) p2 _ _ w9 (H2.out.1.grow hg9) (by rw [H2.out.2]; have := HMS.out; omega)).mono ?_) AllG.nil
      rintro e w10 ⟨c10, rfl, hn10, hg10⟩
      refine ⟨_, rfl, hg10, ?_⟩
      try simp only [Act.put, List.setIfInBounds_toArray, List.set_cons_zero, List.set_cons_succ]
      refine readyG [7] (by kernel_rfl) (by simp) fun w11 hg11 => ?_
      refine AllG.call 7 52 11 #[.agg c2, .int .i64 ver] rfl rfl (by kernel_rfl) (by go_simp) ((proj7_any ver k.flat _ _ _ c2 w11 (HX.out.n.below ((hg9.trans hg10).trans hg11)) (by have := HW.out; omega)).mono ?_) AllG.nil
      rintro e w12 ⟨c12, rfl, hn12, hg12⟩
      refine ⟨_, rfl, hg12, ?_⟩
      try simp only [Act.put, List.setIfInBounds_toArray, List.set_cons_zero, List.set_cons_succ]
      refine readyG [8] (by kernel_rfl) (by simp) fun w13 hg13 => ?_
      have hn10' := hn10.has.below ((hg11.trans hg12).trans hg13)
      rw [H2.out.2] at hn10'
      refine AllG.call 8 53 9 #[.agg c10, .agg c12] rfl rfl (by kernel_rfl) (by go_simp) ((sameNode_any _ _ _ _ _ _ _ _ c10 c12 w13 hn10' (hn12.below hg13) (by have := HMS.out; unfold F.okL; omega) (by have := HMS.out; unfold F.okL; omega)).mono ?_) AllG.nil
      rintro e w14 ⟨rfl, hg14⟩
      rw [decide_eq_true ⟨rfl, rfl, rfl, rfl⟩]
      refine ⟨_, rfl, hg14, ?_⟩
      try simp only [Act.put, List.setIfInBounds_toArray, List.set_cons_zero, List.set_cons_succ]
      replace HX := hid (HX.out.grow (((((hg9.trans hg10).trans hg11).trans hg12).trans hg13).trans hg14))
      clear hn10 hn10' hn12 hg9 hg10 hg11 hg12 hg13 hg14 H2
      refine takeG 9 54 (.bool false) rfl rfl (by kernel_rfl) (by kernel_rfl) (by kernel_rfl) (fun _ _ _ h => h) (by kernel_rfl) (fun wz hz => ?_) ?_
      · go_simp
      try simp only [Act.put, List.setIfInBounds_toArray, List.set_cons_zero, List.set_cons_succ]
      refine takeG 10 55 (.bool false) rfl rfl (by kernel_rfl) (by kernel_rfl) (by kernel_rfl) (fun _ _ _ h => h) (by kernel_rfl) (fun wz hz => ?_) ?_
      · go_simp
      try simp only [Act.put, List.setIfInBounds_toArray, List.set_cons_zero, List.set_cons_succ]
      refine takeG 11 56 (.bool false) rfl rfl (by kernel_rfl) (by kernel_rfl) (by kernel_rfl) (fun _ _ _ h => h) (by kernel_rfl) (fun wz hz => ?_) ?_
      · rfl
      try simp only [Act.put, List.setIfInBounds_toArray, List.set_cons_zero, List.set_cons_succ]
      refine takeG 12 57 (.pointer (some ⟨p, 0, none⟩)) rfl rfl (by kernel_rfl) (by kernel_rfl) (by kernel_rfl) (fun _ _ _ h => h) (by kernel_rfl) (fun wz hz => ?_) ?_
      · rfl
      try simp only [Act.put, List.setIfInBounds_toArray, List.set_cons_zero, List.set_cons_succ]
      refine takeG 14 59 (.agg c2) rfl rfl (by kernel_rfl) (by kernel_rfl) (by kernel_rfl) (fun _ _ _ h => h) (by kernel_rfl) (fun wz hz => ?_) ?_
      · exact exec_load30 _ rfl B0 0 rfl c2 HX.out.z (hz.lies HX.out.v0.lies)
      try simp only [Act.put, List.setIfInBounds_toArray, List.set_cons_zero, List.set_cons_succ]
      refine readyG [13] (by kernel_rfl) (by simp) fun w9 hg9 => ?_
      refine AllG.call 13 58 10 #[.pointer (some ⟨p, 0, none⟩)] rfl rfl (by kernel_rfl) (by go_simp) ((treeNode_any (k.flat.size + 1) k (Nat.lt_succ_self _) p _ _ w9 (HX.out.t.grow hg9) (by have := HS.out; omega)).mono ?_) AllG.nil
      rintro e w10 ⟨c10, rfl, hn10, hg10⟩
      refine ⟨_, rfl, hg10, ?_⟩
      try simp only [Act.put, List.setIfInBounds_toArray, List.set_cons_zero, List.set_cons_succ]
      refine readyG [15] (by kernel_rfl) (by simp) fun w11 hg11 => ?_
      refine AllG.call 15 60 9 #[.agg c10, .agg c2] rfl rfl (by kernel_rfl) (by go_simp) ((sameNode_any _ _ _ _ _ _ _ _ c10 c2 w11 (hn10.has.below hg11) (HX.out.n.below ((hg9.trans hg10).trans hg11)) (by have := HS.out; unfold F.okL; omega) (by have := HS.out; unfold F.okL; omega)).mono ?_) AllG.nil
      rintro e w12 ⟨rfl, hg12⟩
      rw [decide_eq_true ⟨rfl, rfl, rfl, rfl⟩]
      refine ⟨_, rfl, hg12, ?_⟩
      try simp only [Act.put, List.setIfInBounds_toArray, List.set_cons_zero, List.set_cons_succ]
      replace HX := hid (HX.out.grow (((hg9.trans hg10).trans hg11).trans hg12))
      clear hn10 hg9 hg10 hg11 hg12
      refine takeG 16 61 (.bool false) rfl rfl (by kernel_rfl) (by kernel_rfl) (by kernel_rfl) (fun _ _ _ h => h) (by kernel_rfl) (fun wz hz => ?_) ?_
      · go_simp
      try simp only [Act.put, List.setIfInBounds_toArray, List.set_cons_zero, List.set_cons_succ]
      refine takeG 17 62 (.bool false) rfl rfl (by kernel_rfl) (by kernel_rfl) (by kernel_rfl) (fun _ _ _ h => h) (by kernel_rfl) (fun wz hz => ?_) ?_
      · go_simp
      try simp only [Act.put, List.setIfInBounds_toArray, List.set_cons_zero, List.set_cons_succ]
      refine doneG (by kernel_rfl) (fun w13 hg13 => ?_)
      replace HX := hid (HX.out.grow hg13)
      clear hg13
      go_wp2_with fail
      go_roundw
      case rel => exact ⟨j + 1, by go_num, by omega, HX.out⟩
      case measure => simp; omega
    · have hjI : ¬ (j : Int) < 2 := by omega
      go_wp2_with fail
      go_ret
      exact ⟨rfl, HX.out.g⟩
end Go.Proofs.Ytglnpmdigghibaa
