import Derived.Test.YtbjjbgaomoihaaaGreatDoorBuild
set_option maxRecDepth 100000
set_option maxHeartbeats 1000000
namespace Go.Proofs.YtbjjbgaomoihaaaGreatDoor
open Go.RowKit
theorem count_any (p : Nat) (v : Vd) (m : Md) (k : K) (w : World) (h : AtT w p v m k) (hs : k.flat.size + 1 ≤ 9223372036854775807) : Calls Tryz.prog 6 #[.pointer (some ⟨p, 0, none⟩)] w fun e w' => e = .returned (.int .i64 ((1 + k.flat.size : Nat) : Int)) ∧ w' = w := by
  obtain ⟨pk, h1, h2⟩ := h
  have c39 := lies_cell h1 39 _ (tc_kids ..)
  have C1 := things_any k pk w h2
  obtain ⟨a, rfl⟩ := h2.form
  have C2 := addN_any 1 k.flat.size w (by omega)
  generalize hr : ((1 + k.flat.size : Nat) : Int) = r at *
  clear hr h1 h2
  generalize k.flat.size = n at *
  go_enter Tryz.func6, Tryz.ntmps6
  go_wp2_with (first
    | (go_at_call 20; refine C1.mono ?_; rintro e w1 ⟨rfl, e1⟩; subst e1)
    | (go_at_call 19; refine C2.mono ?_; rintro e w1 ⟨rfl, e1⟩; subst e1))
  go_ret
  exact ⟨rfl, rfl⟩
theorem depth_any (p : Nat) (v : Vd) (m : Md) (k : K) (w : World) (h : AtT w p v m k) : Calls Tryz.prog 13 #[.pointer (some ⟨p, 0, none⟩)] w fun e w' => e = .returned (.int .i64 k.flat.depth) ∧ w' = w := by
  obtain ⟨pk, h1, h2⟩ := h
  have c39 := lies_cell h1 39 _ (tc_kids ..)
  have C1 := levels_any k pk w h2
  obtain ⟨a, rfl⟩ := h2.form
  clear h1 h2
  generalize k.flat.depth = n at *
  go_enter Tryz.func13, Tryz.ntmps13
  go_wp2_with (go_at_call 27; refine C1.mono ?_; rintro e w1 ⟨rfl, e1⟩; subst e1)
  go_ret
  exact ⟨rfl, rfl⟩
theorem Calls.grown {f : FuncId} {args : Array Value} {w : World} {v : Value} (h : Calls Tryz.prog f args w fun e w' => e = .returned v ∧ w' = w) : Calls Tryz.prog f args w fun e w' => e = .returned v ∧ G w w' :=
  h.mono fun e w' h => ⟨h.1, by rw [h.2]; exact G.refl w⟩
theorem join_any (ka kb kk : K) (ua ub : Value) (nm : ByteArray) (p : Nat) (v : Vd) (m : Md) (w : World) (ha : At w ka ua) (hb : At w kb ub) (hk : AtT w p v m kk) (hs : ka.flat.size + kb.flat.size + kk.flat.size + 1 ≤ 9223372036854775807) :
    Calls Tryz.prog 87 #[ua, .agg #[.string nm, .pointer (some ⟨p, 0, none⟩)], ub] w fun e w' => ∃ q, e = .returned (.pointer (some ⟨q, 0, none⟩)) ∧ At w' (K.node q p nm v m kk ka kb) (.pointer (some ⟨q, 0, none⟩)) ∧ G w w' := by
  obtain ⟨aa, rfl⟩ := ha.form
  obtain ⟨ab, rfl⟩ := hb.form
  have l1 := F.len_le_size ka.flat
  have l2 := F.len_le_size kb.flat
  have l3 := F.depth_le_size ka.flat
  have l4 := F.depth_le_size kb.flat
  have l5 := F.depth_le_size kk.flat
  have HF : Hid ((K.node 0 p nm v m kk ka kb).flat.len = ka.flat.len + 1 + kb.flat.len ∧ (K.node 0 p nm v m kk ka kb).flat.size = (1 + kk.flat.size) + (ka.flat.size + kb.flat.size) ∧ (K.node 0 p nm v m kk ka kb).flat.depth = max (max ka.flat.depth (kk.flat.depth + 1)) kb.flat.depth) := by
    refine ⟨?_, ?_, ?_⟩
    · rw [K.flat, F.app_len, F.len]; omega
    · rw [K.flat, F.app_size, F.size]; omega
    · rw [K.flat, F.app_depth, F.depth]; omega
  have HQ : Hid (∀ q, (K.node q p nm v m kk ka kb).flat = (K.node 0 p nm v m kk ka kb).flat) := fun q => rfl
  have C1 := hid (fun (W : World) (hW : G w W) => Calls.grown (many2_any ka (.pointer aa) W (ha.grow hW)))
  have C2 := hid (fun (W : World) (hW : G w W) => Calls.grown (many2_any kb (.pointer ab) W (hb.grow hW)))
  have C3 := hid (fun (W : World) (hW : G w W) => Calls.grown (things_any ka (.pointer aa) W (ha.grow hW)))
  have C4 := hid (fun (W : World) (hW : G w W) => Calls.grown (things_any kb (.pointer ab) W (hb.grow hW)))
  have C5 := hid (fun (W : World) (hW : G w W) => Calls.grown (levels_any ka (.pointer aa) W (ha.grow hW)))
  have C6 := hid (fun (W : World) (hW : G w W) => Calls.grown (levels_any kb (.pointer ab) W (hb.grow hW)))
  have C7 := hid (fun (W : World) (hW : G w W) => Calls.grown (count_any p v m kk W (hk.grow hW) (by omega)))
  have C8 := hid (fun (W : World) (hW : G w W) => Calls.grown (depth_any p v m kk W (hk.grow hW)))
  have C9 := hid (fun (W : World) => Calls.grown (addN_any ka.flat.size kb.flat.size W (by omega)))
  have C10 := hid (fun (W : World) => Calls.grown (addN_any (1 + kk.flat.size) (ka.flat.size + kb.flat.size) W (by omega)))
  have HA : Hid (At w ka (.pointer aa) ∧ At w kb (.pointer ab) ∧ AtT w p v m kk) := ⟨ha, hb, hk⟩
  clear ha hb hk
  generalize (K.node 0 p nm v m kk ka kb).flat = FF at *
  generalize hna : ka.flat.len = na at *
  generalize hnb : kb.flat.len = nb at *
  generalize hsa : ka.flat.size = sa at *
  generalize hsb : kb.flat.size = sb at *
  generalize hda : ka.flat.depth = da at *
  generalize hdb : kb.flat.depth = db at *
  generalize hsk : kk.flat.size = sk at *
  generalize hdk : kk.flat.depth = dk at *
  clear hna hnb hsa hsb hda hdb hsk hdk
  have e1 : IntKind.i64.wrap ((na : Int) + 1) = ((na + 1 : Nat) : Int) := by rw [IntKind.wrap_i64]; omega
  have e2 : IntKind.i64.wrap (((na + 1 : Nat) : Int) + (nb : Int)) = ((na + 1 + nb : Nat) : Int) := by rw [IntKind.wrap_i64]; omega
  have e3 : IntKind.i64.wrap ((dk : Int) + 1) = ((dk + 1 : Nat) : Int) := by rw [IntKind.wrap_i64]; omega
  generalize hN1 : na + 1 = N1 at *
  generalize hN2 : N1 + nb = N2 at *
  generalize hD1 : dk + 1 = D1 at *
  generalize hS0 : sa + sb = S0 at *
  generalize hS1 : 1 + sk = S1 at *
  generalize hS2 : S1 + S0 = S2 at *
  generalize hM : max (max da D1) db = M at *
  have HM : Hid (max (max da D1) db = M) := hM
  clear hM hS2 hS1 hS0 hD1 hN2 hN1 hs l1 l2 l3 l4 l5
  have hb0 := lies_new w #[.string nm, .pointer (some ⟨p, 0, none⟩)] 84
  have b0 := lies_cell hb0 0 (.string nm) rfl
  have b1 := lies_cell hb0 1 (.pointer (some ⟨p, 0, none⟩)) rfl
  have HG : Hid (G w (w.alloc (.cells #[.string nm, .pointer (some ⟨p, 0, none⟩)] 84))) := G.alloc w _
  go_enter Tryz.func87, Tryz.ntmps87
  go_upto_region 1 with fail
  clear hb0
  generalize hH : w.heap.size = H at *
  generalize (w.alloc (.cells #[.string nm, .pointer (some ⟨p, 0, none⟩)] 84)) = w1 at *
  have z0 := (G.drew w1).cell b0
  have z1 := (G.drew w1).cell b1
  have HD : Hid (G w w1.drew) := HG.out.trans (G.drew w1)
  refine wp_region_G ?_
  generalize w1.drew = w2 at *
  refine takeG 0 7 (.agg #[.string nm, .pointer (some ⟨p, 0, none⟩)]) rfl rfl (by kernel_rfl) (by kernel_rfl) (by kernel_rfl) (fun _ _ _ h => h) (by kernel_rfl) (fun wz hz => ?_) ?_
  · have y0 := hz.cell z0; have y1 := hz.cell z1; go_simp
  try simp only [Act.put, List.setIfInBounds_toArray, List.set_cons_zero, List.set_cons_succ]
  refine takeG 1 8 (.pointer aa) rfl rfl (by kernel_rfl) (by kernel_rfl) (by kernel_rfl) (fun _ _ _ h => h) (by kernel_rfl) (fun wz hz => ?_) ?_
  · rfl
  try simp only [Act.put, List.setIfInBounds_toArray, List.set_cons_zero, List.set_cons_succ]
  refine takeG 2 9 (.pointer ab) rfl rfl (by kernel_rfl) (by kernel_rfl) (by kernel_rfl) (fun _ _ _ h => h) (by kernel_rfl) (fun wz hz => ?_) ?_
  · rfl
  try simp only [Act.put, List.setIfInBounds_toArray, List.set_cons_zero, List.set_cons_succ]
  refine takeG 3 10 (.pointer aa) rfl rfl (by kernel_rfl) (by kernel_rfl) (by kernel_rfl) (fun _ _ _ h => h) (by kernel_rfl) (fun wz hz => ?_) ?_
  · rfl
  try simp only [Act.put, List.setIfInBounds_toArray, List.set_cons_zero, List.set_cons_succ]
  refine callG 4 11 (.int .i64 na) 67 #[.pointer aa] rfl rfl (by kernel_rfl) (by kernel_rfl) (by kernel_rfl) (fun _ _ _ h => h) (by kernel_rfl) (fun wz => by go_simp) (fun wz hz => ?_) ?_
  · exact C1.out wz (HD.out.trans hz)
  try simp only [Act.put, List.setIfInBounds_toArray, List.set_cons_zero, List.set_cons_succ]
  refine takeG 5 12 (.int .i64 (N1 : Int)) rfl rfl (by kernel_rfl) (by kernel_rfl) (by kernel_rfl) (fun _ _ _ h => h) (by kernel_rfl) (fun wz hz => ?_) ?_
  · go_simp
  try simp only [Act.put, List.setIfInBounds_toArray, List.set_cons_zero, List.set_cons_succ]
  refine takeG 6 13 (.pointer ab) rfl rfl (by kernel_rfl) (by kernel_rfl) (by kernel_rfl) (fun _ _ _ h => h) (by kernel_rfl) (fun wz hz => ?_) ?_
  · rfl
  try simp only [Act.put, List.setIfInBounds_toArray, List.set_cons_zero, List.set_cons_succ]
  refine callG 7 14 (.int .i64 nb) 67 #[.pointer ab] rfl rfl (by kernel_rfl) (by kernel_rfl) (by kernel_rfl) (fun _ _ _ h => h) (by kernel_rfl) (fun wz => by go_simp) (fun wz hz => ?_) ?_
  · exact C2.out wz (HD.out.trans hz)
  try simp only [Act.put, List.setIfInBounds_toArray, List.set_cons_zero, List.set_cons_succ]
  refine takeG 8 15 (.int .i64 (N2 : Int)) rfl rfl (by kernel_rfl) (by kernel_rfl) (by kernel_rfl) (fun _ _ _ h => h) (by kernel_rfl) (fun wz hz => ?_) ?_
  · go_simp
  try simp only [Act.put, List.setIfInBounds_toArray, List.set_cons_zero, List.set_cons_succ]
  refine takeG 9 16 (.pointer (some ⟨H, 1, none⟩)) rfl rfl (by kernel_rfl) (by kernel_rfl) (by kernel_rfl) (fun _ _ _ h => h) (by kernel_rfl) (fun wz hz => ?_) ?_
  · go_simp
  try simp only [Act.put, List.setIfInBounds_toArray, List.set_cons_zero, List.set_cons_succ]
  refine takeG 10 17 (.pointer (some ⟨p, 0, none⟩)) rfl rfl (by kernel_rfl) (by kernel_rfl) (by kernel_rfl) (fun _ _ _ h => h) (by kernel_rfl) (fun wz hz => ?_) ?_
  · have y0 := hz.cell z1; go_simp
  try simp only [Act.put, List.setIfInBounds_toArray, List.set_cons_zero, List.set_cons_succ]
  refine callG 11 18 (.int .i64 (S1 : Int)) 6 #[.pointer (some ⟨p, 0, none⟩)] rfl rfl (by kernel_rfl) (by kernel_rfl) (by kernel_rfl) (fun _ _ _ h => h) (by kernel_rfl) (fun wz => by go_simp) (fun wz hz => ?_) ?_
  · exact C7.out wz (HD.out.trans hz)
  try simp only [Act.put, List.setIfInBounds_toArray, List.set_cons_zero, List.set_cons_succ]
  refine takeG 12 19 (.pointer aa) rfl rfl (by kernel_rfl) (by kernel_rfl) (by kernel_rfl) (fun _ _ _ h => h) (by kernel_rfl) (fun wz hz => ?_) ?_
  · rfl
  try simp only [Act.put, List.setIfInBounds_toArray, List.set_cons_zero, List.set_cons_succ]
  refine callG 13 20 (.int .i64 sa) 20 #[.pointer aa] rfl rfl (by kernel_rfl) (by kernel_rfl) (by kernel_rfl) (fun _ _ _ h => h) (by kernel_rfl) (fun wz => by go_simp) (fun wz hz => ?_) ?_
  · exact C3.out wz (HD.out.trans hz)
  try simp only [Act.put, List.setIfInBounds_toArray, List.set_cons_zero, List.set_cons_succ]
  refine takeG 14 21 (.pointer ab) rfl rfl (by kernel_rfl) (by kernel_rfl) (by kernel_rfl) (fun _ _ _ h => h) (by kernel_rfl) (fun wz hz => ?_) ?_
  · rfl
  try simp only [Act.put, List.setIfInBounds_toArray, List.set_cons_zero, List.set_cons_succ]
  refine callG 15 22 (.int .i64 sb) 20 #[.pointer ab] rfl rfl (by kernel_rfl) (by kernel_rfl) (by kernel_rfl) (fun _ _ _ h => h) (by kernel_rfl) (fun wz => by go_simp) (fun wz hz => ?_) ?_
  · exact C4.out wz (HD.out.trans hz)
  try simp only [Act.put, List.setIfInBounds_toArray, List.set_cons_zero, List.set_cons_succ]
  refine callG 16 23 (.int .i64 (S0 : Int)) 19 #[.int .i64 sa, .int .i64 sb] rfl rfl (by kernel_rfl) (by kernel_rfl) (by kernel_rfl) (fun _ _ _ h => h) (by kernel_rfl) (fun wz => by go_simp) (fun wz hz => ?_) ?_
  · exact C9.out wz
  try simp only [Act.put, List.setIfInBounds_toArray, List.set_cons_zero, List.set_cons_succ]
  refine callG 17 24 (.int .i64 (S2 : Int)) 19 #[.int .i64 (S1 : Int), .int .i64 (S0 : Int)] rfl rfl (by kernel_rfl) (by kernel_rfl) (by kernel_rfl) (fun _ _ _ h => h) (by kernel_rfl) (fun wz => by go_simp) (fun wz hz => ?_) ?_
  · exact C10.out wz
  try simp only [Act.put, List.setIfInBounds_toArray, List.set_cons_zero, List.set_cons_succ]
  refine takeG 18 25 (.pointer aa) rfl rfl (by kernel_rfl) (by kernel_rfl) (by kernel_rfl) (fun _ _ _ h => h) (by kernel_rfl) (fun wz hz => ?_) ?_
  · rfl
  try simp only [Act.put, List.setIfInBounds_toArray, List.set_cons_zero, List.set_cons_succ]
  refine callG 19 26 (.int .i64 da) 27 #[.pointer aa] rfl rfl (by kernel_rfl) (by kernel_rfl) (by kernel_rfl) (fun _ _ _ h => h) (by kernel_rfl) (fun wz => by go_simp) (fun wz hz => ?_) ?_
  · exact C5.out wz (HD.out.trans hz)
  try simp only [Act.put, List.setIfInBounds_toArray, List.set_cons_zero, List.set_cons_succ]
  refine takeG 20 27 (.pointer (some ⟨H, 1, none⟩)) rfl rfl (by kernel_rfl) (by kernel_rfl) (by kernel_rfl) (fun _ _ _ h => h) (by kernel_rfl) (fun wz hz => ?_) ?_
  · go_simp
  try simp only [Act.put, List.setIfInBounds_toArray, List.set_cons_zero, List.set_cons_succ]
  refine takeG 21 28 (.pointer (some ⟨p, 0, none⟩)) rfl rfl (by kernel_rfl) (by kernel_rfl) (by kernel_rfl) (fun _ _ _ h => h) (by kernel_rfl) (fun wz hz => ?_) ?_
  · have y0 := hz.cell z1; go_simp
  try simp only [Act.put, List.setIfInBounds_toArray, List.set_cons_zero, List.set_cons_succ]
  refine callG 22 29 (.int .i64 dk) 13 #[.pointer (some ⟨p, 0, none⟩)] rfl rfl (by kernel_rfl) (by kernel_rfl) (by kernel_rfl) (fun _ _ _ h => h) (by kernel_rfl) (fun wz => by go_simp) (fun wz hz => ?_) ?_
  · exact C8.out wz (HD.out.trans hz)
  try simp only [Act.put, List.setIfInBounds_toArray, List.set_cons_zero, List.set_cons_succ]
  refine takeG 23 30 (.int .i64 (D1 : Int)) rfl rfl (by kernel_rfl) (by kernel_rfl) (by kernel_rfl) (fun _ _ _ h => h) (by kernel_rfl) (fun wz hz => ?_) ?_
  · go_simp
  try simp only [Act.put, List.setIfInBounds_toArray, List.set_cons_zero, List.set_cons_succ]
  refine takeG 24 31 (.pointer ab) rfl rfl (by kernel_rfl) (by kernel_rfl) (by kernel_rfl) (fun _ _ _ h => h) (by kernel_rfl) (fun wz hz => ?_) ?_
  · rfl
  try simp only [Act.put, List.setIfInBounds_toArray, List.set_cons_zero, List.set_cons_succ]
  refine callG 25 32 (.int .i64 db) 27 #[.pointer ab] rfl rfl (by kernel_rfl) (by kernel_rfl) (by kernel_rfl) (fun _ _ _ h => h) (by kernel_rfl) (fun wz => by go_simp) (fun wz hz => ?_) ?_
  · exact C6.out wz (HD.out.trans hz)
  try simp only [Act.put, List.setIfInBounds_toArray, List.set_cons_zero, List.set_cons_succ]
  refine takeG 26 33 (.int .i64 (M : Int)) rfl rfl (by kernel_rfl) (by kernel_rfl) (by kernel_rfl) (fun _ _ _ h => h) (by kernel_rfl) (fun wz hz => ?_) ?_
  · (go_simp; rw [← HM.out]; split <;> split <;> omega)
  try simp only [Act.put, List.setIfInBounds_toArray, List.set_cons_zero, List.set_cons_succ]
  refine takeG 27 34 (.agg (kc nm p (.pointer aa) (.pointer ab) N2 S2 M)) rfl rfl (by kernel_rfl) (by kernel_rfl) (by kernel_rfl) (fun _ _ _ h => h) (by kernel_rfl) (fun wz hz => ?_) ?_
  · (go_simp; rfl)
  try simp only [Act.put, List.setIfInBounds_toArray, List.set_cons_zero, List.set_cons_succ]
  refine readyG [28] (by kernel_rfl) (by simp) (fun w3 hg3 => ?_)
  refine AllG.value 28 35 (.pointer (some ⟨w3.heap.size, 0, none⟩)) (w3.alloc (.cells (kc nm p (.pointer aa) (.pointer ab) N2 S2 M) 86)) rfl rfl (by kernel_rfl) (by go_simp) (G.alloc _ _) ?_ AllG.nil
  try simp only [Act.put, List.setIfInBounds_toArray, List.set_cons_zero, List.set_cons_succ]
  have HW : Hid (G w (w3.alloc (.cells (kc nm p (.pointer aa) (.pointer ab) N2 S2 M) 86))) := (HD.out.trans hg3).trans (G.alloc _ _)
  have HL : Hid (Lies (w3.alloc (.cells (kc nm p (.pointer aa) (.pointer ab) N2 S2 M) 86)) w3.heap.size 0 (kc nm p (.pointer aa) (.pointer ab) N2 S2 M)) := lies_new _ _ _
  generalize w3.alloc (.cells (kc nm p (.pointer aa) (.pointer ab) N2 S2 M) 86) = w4 at *
  generalize w3.heap.size = q at *
  refine takeG 29 6 (.pointer (some ⟨q, 0, none⟩)) rfl rfl (by kernel_rfl) (by kernel_rfl) (by kernel_rfl) (fun _ _ _ h => h) (by kernel_rfl) (fun wz hz => ?_) ?_
  · rfl
  try simp only [Act.put, List.setIfInBounds_toArray, List.set_cons_zero, List.set_cons_succ]
  refine doneG (by kernel_rfl) (fun w5 hg5 => ?_)
  clear z0 z1 b0 b1
  go_wp2_with fail
  go_ret
  have hg := HW.out.trans hg5
  obtain ⟨hpk, hk1, hk2⟩ := HA.out.2.2.grow hg
  refine ⟨q, rfl, ⟨rfl, hpk, .pointer aa, .pointer ab, ⟨?_, hk1⟩, hk2, HA.out.1.grow hg, HA.out.2.1.grow hg⟩, hg⟩
  rw [HQ.out q, HF.out.1, HF.out.2.1, HF.out.2.2]
  exact hg5.lies HL.out
def ChildrenOk (f : F) : Prop := ∀ (v : Value) (w : World), HasS w v f → f.okL → Calls Tryz.prog 58 #[v] w fun e w' => ∃ k u, e = .returned u ∧ At w' k u ∧ k.flat = f ∧ G w w'
theorem exec_box103 {o : Oper} {a : Act} (x : Operand) (ho : o.op = .box 78 x) (c : Array Value) (hx : a.eval x = .agg c) (w : World) : (execOp a.eval o).run Tryz.prog w = .ok (.value (.pointer (some ⟨w.heap.size, 0, none⟩))) (w.alloc (.cells c 78)) := by
  unfold execOp
  simp [ho, hx, Instr.box, newVar, newRow, newObj, Value.cells]
  rfl
theorem made_any (g o : Nat) (nm : ByteArray) (v : Vd) (m : Md) (kv : Value) (ks : F) (w : World) (hl : Lies w g o (nc nm v m kv)) (hS : HasS w kv ks) (hok : ks.okL) (ih : ChildrenOk ks) :
    Calls Tryz.prog 26 #[.pointer (some ⟨g, o, none⟩)] w fun e w' => ∃ p k, e = .returned (.pointer (some ⟨p, 0, none⟩)) ∧ AtT w' p v m k ∧ k.flat = ks ∧ G w w' := by
  obtain ⟨a, cap, rfl, _⟩ := hS.form
  have CK := hid (fun (W : World) (hW : G w W) => ih _ W (hS.below hW) hok)
  have c40 := lies_kids hl
  have HL0 : Hid (Lies w g (o + 1) (vx v).toArray ∧ Lies w g (o + 36) (mx m).toArray) := ⟨lies_val hl, lies_marks hl⟩
  clear hl hS ih
  obtain ⟨N, hN⟩ : ∃ N, ks.len = N := ⟨_, rfl⟩
  rw [hN] at CK c40
  clear hN
  go_enter Tryz.func26, Tryz.ntmps26
  go_upto_region 1 with fail
  refine wp_region_G ?_
  have d40 := (G.drew w).cell c40
  have L : Hid (Lies w.drew g (o + 1) (vx v).toArray ∧ Lies w.drew g (o + 36) (mx m).toArray) := ⟨(G.drew w).lies HL0.out.1, (G.drew w).lies HL0.out.2⟩
  have HD : Hid (G w w.drew) := G.drew w
  generalize w.drew = w2 at *
  refine takeG 0 3 (.pointer (some ⟨g, o, none⟩)) rfl rfl (by kernel_rfl) (by kernel_rfl) (by kernel_rfl) (fun _ _ _ h => h) (by kernel_rfl) (fun wz hz => ?_) ?_
  · rfl
  try simp only [Act.put, List.setIfInBounds_toArray, List.set_cons_zero, List.set_cons_succ]
  refine takeG 1 4 (.pointer (some ⟨g, o, none⟩)) rfl rfl (by kernel_rfl) (by kernel_rfl) (by kernel_rfl) (fun _ _ _ h => h) (by kernel_rfl) (fun wz hz => ?_) ?_
  · go_simp
  try simp only [Act.put, List.setIfInBounds_toArray, List.set_cons_zero, List.set_cons_succ]
  refine takeG 2 5 (.pointer (some ⟨g, o + 1, none⟩)) rfl rfl (by kernel_rfl) (by kernel_rfl) (by kernel_rfl) (fun _ _ _ h => h) (by kernel_rfl) (fun wz hz => ?_) ?_
  · go_simp
  try simp only [Act.put, List.setIfInBounds_toArray, List.set_cons_zero, List.set_cons_succ]
  refine takeG 3 6 (.agg (vx v).toArray) rfl rfl (by kernel_rfl) (by kernel_rfl) (by kernel_rfl) (fun _ _ _ h => h) (by kernel_rfl) (fun wz hz => ?_) ?_
  · exact exec_load24 _ rfl g (o + 1) rfl _ (by simp [vx_len]) (hz.lies L.out.1)
  try simp only [Act.put, List.setIfInBounds_toArray, List.set_cons_zero, List.set_cons_succ]
  refine takeG 4 7 (.pointer (some ⟨g, o, none⟩)) rfl rfl (by kernel_rfl) (by kernel_rfl) (by kernel_rfl) (fun _ _ _ h => h) (by kernel_rfl) (fun wz hz => ?_) ?_
  · rfl
  try simp only [Act.put, List.setIfInBounds_toArray, List.set_cons_zero, List.set_cons_succ]
  refine takeG 5 8 (.pointer (some ⟨g, o, none⟩)) rfl rfl (by kernel_rfl) (by kernel_rfl) (by kernel_rfl) (fun _ _ _ h => h) (by kernel_rfl) (fun wz hz => ?_) ?_
  · go_simp
  try simp only [Act.put, List.setIfInBounds_toArray, List.set_cons_zero, List.set_cons_succ]
  refine takeG 6 9 (.pointer (some ⟨g, o + 36, none⟩)) rfl rfl (by kernel_rfl) (by kernel_rfl) (by kernel_rfl) (fun _ _ _ h => h) (by kernel_rfl) (fun wz hz => ?_) ?_
  · go_simp
  try simp only [Act.put, List.setIfInBounds_toArray, List.set_cons_zero, List.set_cons_succ]
  refine takeG 7 10 (.agg (mx m).toArray) rfl rfl (by kernel_rfl) (by kernel_rfl) (by kernel_rfl) (fun _ _ _ h => h) (by kernel_rfl) (fun wz hz => ?_) ?_
  · exact exec_load27 _ rfl g (o + 36) rfl _ (by simp [mx_len]) (hz.lies L.out.2)
  try simp only [Act.put, List.setIfInBounds_toArray, List.set_cons_zero, List.set_cons_succ]
  refine takeG 8 11 (.pointer (some ⟨g, o, none⟩)) rfl rfl (by kernel_rfl) (by kernel_rfl) (by kernel_rfl) (fun _ _ _ h => h) (by kernel_rfl) (fun wz hz => ?_) ?_
  · rfl
  try simp only [Act.put, List.setIfInBounds_toArray, List.set_cons_zero, List.set_cons_succ]
  refine takeG 9 12 (.pointer (some ⟨g, o, none⟩)) rfl rfl (by kernel_rfl) (by kernel_rfl) (by kernel_rfl) (fun _ _ _ h => h) (by kernel_rfl) (fun wz hz => ?_) ?_
  · go_simp
  try simp only [Act.put, List.setIfInBounds_toArray, List.set_cons_zero, List.set_cons_succ]
  refine takeG 10 13 (.pointer (some ⟨g, o + 40, none⟩)) rfl rfl (by kernel_rfl) (by kernel_rfl) (by kernel_rfl) (fun _ _ _ h => h) (by kernel_rfl) (fun wz hz => ?_) ?_
  · go_simp
  try simp only [Act.put, List.setIfInBounds_toArray, List.set_cons_zero, List.set_cons_succ]
  refine takeG 11 14 (.slice a N cap) rfl rfl (by kernel_rfl) (by kernel_rfl) (by kernel_rfl) (fun _ _ _ h => h) (by kernel_rfl) (fun wz hz => ?_) ?_
  · have y0 := hz.cell d40; go_simp
  try simp only [Act.put, List.setIfInBounds_toArray, List.set_cons_zero, List.set_cons_succ]
  refine readyG [12] (by kernel_rfl) (by simp) (fun w3 hg3 => ?_)
  refine AllG.call 12 15 58 #[.slice a N cap] rfl rfl (by kernel_rfl) (by go_simp) ((CK.out w3 (HD.out.trans hg3)).mono ?_) AllG.nil
  rintro e w4 ⟨k, u, rfl, hk, hf, hg4⟩
  refine ⟨u, rfl, hg4, ?_⟩
  obtain ⟨au, rfl⟩ := hk.form
  have HK : Hid (At w4 k (.pointer au) ∧ k.flat = ks ∧ G w w4) := ⟨hk, hf, (HD.out.trans hg3).trans hg4⟩
  clear hk hf hg4 hg3 d40
  try simp only [Act.put, List.setIfInBounds_toArray, List.set_cons_zero, List.set_cons_succ]
  refine takeG 13 16 (.agg (tc v m (.pointer au))) rfl rfl (by kernel_rfl) (by kernel_rfl) (by kernel_rfl) (fun _ _ _ h => h) (by kernel_rfl) (fun wz hz => ?_) ?_
  · exact exec_build103 _ rfl v m (.pointer au) rfl (by go_simp) _
  try simp only [Act.put, List.setIfInBounds_toArray, List.set_cons_zero, List.set_cons_succ]
  refine readyG [14] (by kernel_rfl) (by simp) (fun w5 hg5 => ?_)
  refine AllG.value 14 17 (.pointer (some ⟨w5.heap.size, 0, none⟩)) (w5.alloc (.cells (tc v m (.pointer au)) 78)) rfl rfl (by kernel_rfl) (exec_box103 _ rfl _ rfl _) (G.alloc _ _) ?_ AllG.nil
  try simp only [Act.put, List.setIfInBounds_toArray, List.set_cons_zero, List.set_cons_succ]
  have HL : Hid (Lies (w5.alloc (.cells (tc v m (.pointer au)) 78)) w5.heap.size 0 (tc v m (.pointer au))) := lies_new _ _ _
  have HW : Hid (G w4 (w5.alloc (.cells (tc v m (.pointer au)) 78))) := hg5.trans (G.alloc _ _)
  generalize w5.alloc (.cells (tc v m (.pointer au)) 78) = w6 at *
  generalize w5.heap.size = q at *
  refine takeG 15 2 (.pointer (some ⟨q, 0, none⟩)) rfl rfl (by kernel_rfl) (by kernel_rfl) (by kernel_rfl) (fun _ _ _ h => h) (by kernel_rfl) (fun wz hz => ?_) ?_
  · rfl
  try simp only [Act.put, List.setIfInBounds_toArray, List.set_cons_zero, List.set_cons_succ]
  refine doneG (by kernel_rfl) (fun w7 hg7 => ?_)
  go_wp2_with fail
  go_ret
  have hg := HW.out.trans hg7
  exact ⟨q, k, rfl, ⟨_, hg7.lies HL.out, HK.out.1.grow hg⟩, HK.out.2.1, HK.out.2.2.trans hg⟩
theorem HasR.take {w : World} : ∀ {f : F} {k g o : Nat}, HasR w f g o → HasR w (f.take k) g o
  | f, 0, _, _, _ => by rw [F.take_zero]; trivial
  | .nil, _ + 1, _, _, _ => trivial
  | .cons _ _ _ _ r, k + 1, _, _, h => ⟨h.1, HasR.take (f := r) (k := k) h.2⟩
theorem F.split_size {f : F} {k : Nat} {nm : ByteArray} {v : Vd} {m : Md} {ks r : F} (h : f.drop k = .cons nm v m ks r) : (f.take k).size + r.size + ks.size + 1 = f.size := by
  have h1 := congrArg F.size (F.app_take_drop f k)
  rw [F.app_size, h, F.size] at h1
  omega
theorem children_any : ∀ (Z : Nat) (f : F), f.size < Z → ChildrenOk f := by
  intro Z
  induction Z with
  | zero => intro f h; omega
  | succ Z ih =>
    intro f hZ v w hS hok
    obtain ⟨a, cap, rfl, hcap⟩ := hS.form
    obtain ⟨N, hN⟩ : ∃ N, f.len = N := ⟨_, rfl⟩
    have hN2 : N ≤ 9223372036854775807 := by have := f.len_le_size; unfold F.okL at hok; omega
    by_cases h0 : N = 0
    · have hf : f = .nil := by
        cases f with
        | nil => rfl
        | cons => simp [F.len] at hN; omega
      rw [hN]
      subst h0
      go_enter Tryz.func58, Tryz.ntmps58
      go_wp2_with fail
      go_ret
      exact ⟨.nil, _, rfl, rfl, hf.symm, G.refl w⟩
    · have hlt : N / 2 < N := by omega
      obtain ⟨half, hh⟩ : ∃ half, N / 2 = half := ⟨_, rfl⟩
      rw [hh] at hlt
      obtain ⟨_, _, he, _, hr⟩ := id hS
      rcases hr with hr | ⟨g, o, ha, hr⟩
      · subst hr; simp [F.len] at hN; omega
      obtain rfl : a = some ⟨g, o, none⟩ := by injection he with e1; rw [e1, ha]
      clear he ha
      obtain ⟨g', o', cap', nm, vv, m, ks, c, hv, hd, hNN, hc⟩ := hS.at (k := half) (by omega)
      obtain ⟨rfl, rfl⟩ : g' = g ∧ o' = o := by injection hv with e1; injection e1 with e2; injection e2 with e3 e4; exact ⟨e3.symm, e4.symm⟩
      clear hv
      obtain ⟨kv, rfl, hSk⟩ := hNN
      have hsz := F.split_size hd
      have hok' : ∀ x : F, x.size ≤ f.size → x.okL := fun x hx => by unfold F.okL at *; omega
      have n0 : w.cell? ⟨g', o' + half * 41, none⟩ = some (.string nm) := hc 0 _ (nc_name ..)
      have hT : HasS w (.slice (some ⟨g', o', none⟩) half cap) (f.take half) := ⟨_, _, by rw [F.take_len f half (by omega)], by rw [F.take_len f half (by omega)]; omega, .inr ⟨g', o', rfl, hr.take⟩⟩
      obtain ⟨AA, hAA⟩ : ∃ AA, (if cap = half + 1 then some (⟨g', o', none⟩ : Addr) else some ⟨g', o' + (half + 1) * 41, none⟩) = AA := ⟨_, rfl⟩
      obtain ⟨N2, hN2'⟩ : ∃ N2, N - (half + 1) = N2 := ⟨_, rfl⟩
      obtain ⟨cap2, hcap2⟩ : ∃ c2, cap - (half + 1) = c2 := ⟨_, rfl⟩
      have hU : HasS w (.slice AA N2 cap2) (f.drop (half + 1)) := by
        refine ⟨_, _, by rw [F.drop_len, hN, hN2'], by rw [F.drop_len]; omega, ?_⟩
        by_cases hce : cap = half + 1
        · left
          exact F.drop_all f _ (by omega)
        · right
          rw [if_neg hce] at hAA
          exact ⟨_, _, hAA.symm, hr.drop⟩
      have C1 := hid (fun (W : World) (hW : G w W) => ih (f.take half) (by omega) _ W (hT.below hW) (hok' _ (by omega)))
      have C2 := hid (fun (W : World) (hW : G w W) => made_any g' (o' + half * 41) nm vv m kv ks W (hW.lies hc) (hSk.below hW) (hok' _ (by omega)) (ih ks (by omega)))
      have C3 := hid (fun (W : World) (hW : G w W) => ih (f.drop (half + 1)) (by omega) _ W (hU.below hW) (hok' _ (by omega)))
      have HSZ : Hid ((f.take half).size + (f.drop (half + 1)).size + ks.size + 1 ≤ 9223372036854775807) := by show _ ≤ _; unfold F.okL at hok; omega
      have HFF : Hid ((f.take half).app (.cons nm vv m ks (f.drop (half + 1))) = f) := by show _ = _; rw [← hd]; exact F.app_take_drop f half
      generalize hg' : g' = g at *
      generalize ho' : o' = o at *
      rw [hN] at hcap
      obtain ⟨half1, hh1⟩ : ∃ h1, half + 1 = h1 := ⟨_, rfl⟩
      have q1 : (N : Int).tdiv 2 = (half : Int) := by rw [← hh]; exact Int.ofNat_tdiv N 2
      have q2 : IntKind.i64.wrap ((half : Int) + 1) = (half1 : Int) := by rw [← hh1, IntKind.wrap_i64]; omega
      have q3 : (half : Int) < (N : Int) := by omega
      have q4 : (half : Int) ≤ (cap : Int) := by omega
      have q5 : (half1 : Int) ≤ (N : Int) := by omega
      have q6 : (N : Int) ≤ (cap : Int) := by omega
      have q7 : ¬ (N : Int) = 0 := by omega
      have HAA : Hid (((if cap = half + 1 then some (⟨g, o, none⟩ : Addr) else some ⟨g, o + (half + 1) * 41, none⟩) = AA) ∧ N - (half + 1) = N2 ∧ cap - (half + 1) = cap2 ∧ half + 1 = half1) := ⟨hAA, hN2', hcap2, hh1⟩
      rw [hN]
      clear hS hr hd hSk hc hT hU hAA hN2' hcap2 hh1 hN ih hsz hok' hh hok hZ
      go_enter Tryz.func58, Tryz.ntmps58
      go_upto_region 4 with fail
      refine wp_region_G ?_
      have d0 := (G.drew w).cell n0
      have HD : Hid (G w w.drew) := G.drew w
      generalize w.drew = w2 at *
      refine takeG 0 10 (.slice (some ⟨g, o, none⟩) N cap) rfl rfl (by kernel_rfl) (by kernel_rfl) (by kernel_rfl) (fun _ _ _ h => h) (by kernel_rfl) (fun wz hz => ?_) ?_
      · rfl
      try simp only [Act.put, List.setIfInBounds_toArray, List.set_cons_zero, List.set_cons_succ]
      refine takeG 1 11 (.int .i64 (half : Int)) rfl rfl (by kernel_rfl) (by kernel_rfl) (by kernel_rfl) (fun _ _ _ h => h) (by kernel_rfl) (fun wz hz => ?_) ?_
      · rfl
      try simp only [Act.put, List.setIfInBounds_toArray, List.set_cons_zero, List.set_cons_succ]
      refine takeG 2 12 (.slice (some ⟨g, o, none⟩) half cap) rfl rfl (by kernel_rfl) (by kernel_rfl) (by kernel_rfl) (fun _ _ _ h => h) (by kernel_rfl) (fun wz hz => ?_) ?_
      · go_simp
      try simp only [Act.put, List.setIfInBounds_toArray, List.set_cons_zero, List.set_cons_succ]
      refine takeG 4 14 (.slice (some ⟨g, o, none⟩) N cap) rfl rfl (by kernel_rfl) (by kernel_rfl) (by kernel_rfl) (fun _ _ _ h => h) (by kernel_rfl) (fun wz hz => ?_) ?_
      · rfl
      try simp only [Act.put, List.setIfInBounds_toArray, List.set_cons_zero, List.set_cons_succ]
      refine takeG 5 15 (.int .i64 (half : Int)) rfl rfl (by kernel_rfl) (by kernel_rfl) (by kernel_rfl) (fun _ _ _ h => h) (by kernel_rfl) (fun wz hz => ?_) ?_
      · rfl
      try simp only [Act.put, List.setIfInBounds_toArray, List.set_cons_zero, List.set_cons_succ]
      refine takeG 6 16 (.pointer (some ⟨g, o + half * 41, none⟩)) rfl rfl (by kernel_rfl) (by kernel_rfl) (by kernel_rfl) (fun _ _ _ h => h) (by kernel_rfl) (fun wz hz => ?_) ?_
      · go_simp
      try simp only [Act.put, List.setIfInBounds_toArray, List.set_cons_zero, List.set_cons_succ]
      refine takeG 7 17 (.pointer (some ⟨g, o + half * 41, none⟩)) rfl rfl (by kernel_rfl) (by kernel_rfl) (by kernel_rfl) (fun _ _ _ h => h) (by kernel_rfl) (fun wz hz => ?_) ?_
      · go_simp
      try simp only [Act.put, List.setIfInBounds_toArray, List.set_cons_zero, List.set_cons_succ]
      refine takeG 8 18 (.string nm) rfl rfl (by kernel_rfl) (by kernel_rfl) (by kernel_rfl) (fun _ _ _ h => h) (by kernel_rfl) (fun wz hz => ?_) ?_
      · have y0 := hz.cell d0; go_simp
      try simp only [Act.put, List.setIfInBounds_toArray, List.set_cons_zero, List.set_cons_succ]
      refine takeG 9 19 (.slice (some ⟨g, o, none⟩) N cap) rfl rfl (by kernel_rfl) (by kernel_rfl) (by kernel_rfl) (fun _ _ _ h => h) (by kernel_rfl) (fun wz hz => ?_) ?_
      · rfl
      try simp only [Act.put, List.setIfInBounds_toArray, List.set_cons_zero, List.set_cons_succ]
      refine takeG 10 20 (.int .i64 (half : Int)) rfl rfl (by kernel_rfl) (by kernel_rfl) (by kernel_rfl) (fun _ _ _ h => h) (by kernel_rfl) (fun wz hz => ?_) ?_
      · rfl
      try simp only [Act.put, List.setIfInBounds_toArray, List.set_cons_zero, List.set_cons_succ]
      refine takeG 11 21 (.pointer (some ⟨g, o + half * 41, none⟩)) rfl rfl (by kernel_rfl) (by kernel_rfl) (by kernel_rfl) (fun _ _ _ h => h) (by kernel_rfl) (fun wz hz => ?_) ?_
      · go_simp
      try simp only [Act.put, List.setIfInBounds_toArray, List.set_cons_zero, List.set_cons_succ]
      refine takeG 14 24 (.slice (some ⟨g, o, none⟩) N cap) rfl rfl (by kernel_rfl) (by kernel_rfl) (by kernel_rfl) (fun _ _ _ h => h) (by kernel_rfl) (fun wz hz => ?_) ?_
      · rfl
      try simp only [Act.put, List.setIfInBounds_toArray, List.set_cons_zero, List.set_cons_succ]
      refine takeG 15 25 (.int .i64 (half : Int)) rfl rfl (by kernel_rfl) (by kernel_rfl) (by kernel_rfl) (fun _ _ _ h => h) (by kernel_rfl) (fun wz hz => ?_) ?_
      · rfl
      try simp only [Act.put, List.setIfInBounds_toArray, List.set_cons_zero, List.set_cons_succ]
      refine takeG 16 26 (.int .i64 (half1 : Int)) rfl rfl (by kernel_rfl) (by kernel_rfl) (by kernel_rfl) (fun _ _ _ h => h) (by kernel_rfl) (fun wz hz => ?_) ?_
      · go_simp
      try simp only [Act.put, List.setIfInBounds_toArray, List.set_cons_zero, List.set_cons_succ]
      refine takeG 17 27 (.slice AA N2 cap2) rfl rfl (by kernel_rfl) (by kernel_rfl) (by kernel_rfl) (fun _ _ _ h => h) (by kernel_rfl) (fun wz hz => ?_) ?_
      · (go_simp; obtain ⟨e1, e2, e3, e4⟩ := HAA.out; subst e4; exact ⟨e1, e2, e3⟩)
      try simp only [Act.put, List.setIfInBounds_toArray, List.set_cons_zero, List.set_cons_succ]
      refine readyG [3] (by kernel_rfl) (by simp) (fun w3 hg3 => ?_)
      refine AllG.call 3 13 58 #[.slice (some ⟨g, o, none⟩) half cap] rfl rfl (by kernel_rfl) (by go_simp) ((C1.out w3 (HD.out.trans hg3)).mono ?_) AllG.nil
      rintro e w4 ⟨k1, u1, rfl, hk, hf, hg4⟩
      refine ⟨u1, rfl, hg4, ?_⟩
      obtain ⟨a1, rfl⟩ := hk.form
      have HK1 : Hid (At w4 k1 (.pointer a1) ∧ k1.flat = f.take half ∧ G w w4) := ⟨hk, hf, (HD.out.trans hg3).trans hg4⟩
      clear hk hf hg4 hg3
      try simp only [Act.put, List.setIfInBounds_toArray, List.set_cons_zero, List.set_cons_succ]
      refine readyG [12] (by kernel_rfl) (by simp) (fun w5 hg5 => ?_)
      refine AllG.call 12 22 26 #[.pointer (some ⟨g, o + half * 41, none⟩)] rfl rfl (by kernel_rfl) (by go_simp) ((C2.out w5 (HK1.out.2.2.trans hg5)).mono ?_) AllG.nil
      rintro e w6 ⟨p, kk, rfl, hk, hf, hg6⟩
      refine ⟨.pointer (some ⟨p, 0, none⟩), rfl, hg6, ?_⟩
      have HK2 : Hid (AtT w6 p vv m kk ∧ kk.flat = ks ∧ G w w6 ∧ G w4 w6) := ⟨hk, hf, (HK1.out.2.2.trans hg5).trans hg6, hg5.trans hg6⟩
      clear hk hf hg6 hg5
      try simp only [Act.put, List.setIfInBounds_toArray, List.set_cons_zero, List.set_cons_succ]
      refine takeG 13 23 (.agg #[.string nm, .pointer (some ⟨p, 0, none⟩)]) rfl rfl (by kernel_rfl) (by kernel_rfl) (by kernel_rfl) (fun _ _ _ h => h) (by kernel_rfl) (fun wz hz => ?_) ?_
      · go_simp
      try simp only [Act.put, List.setIfInBounds_toArray, List.set_cons_zero, List.set_cons_succ]
      refine readyG [18] (by kernel_rfl) (by simp) (fun w7 hg7 => ?_)
      refine AllG.call 18 28 58 #[.slice AA N2 cap2] rfl rfl (by kernel_rfl) (by go_simp) ((C3.out w7 (HK2.out.2.2.1.trans hg7)).mono ?_) AllG.nil
      rintro e w8 ⟨k2, u2, rfl, hk, hf, hg8⟩
      refine ⟨u2, rfl, hg8, ?_⟩
      obtain ⟨a2, rfl⟩ := hk.form
      have HK3 : Hid (At w8 k2 (.pointer a2) ∧ k2.flat = f.drop (half + 1) ∧ G w w8 ∧ G w6 w8) := ⟨hk, hf, (HK2.out.2.2.1.trans hg7).trans hg8, hg7.trans hg8⟩
      clear hk hf hg8 hg7
      try simp only [Act.put, List.setIfInBounds_toArray, List.set_cons_zero, List.set_cons_succ]
      refine readyG [19] (by kernel_rfl) (by simp) (fun w9 hg9 => ?_)
      have CJ := join_any k1 k2 kk (.pointer a1) (.pointer a2) nm p vv m w9 (HK1.out.1.grow ((HK2.out.2.2.2.trans HK3.out.2.2.2).trans hg9)) (HK3.out.1.grow hg9) (HK2.out.1.grow (HK3.out.2.2.2.trans hg9)) (by rw [HK1.out.2.1, HK2.out.2.1, HK3.out.2.1]; exact HSZ.out)
      refine AllG.call 19 29 87 #[.pointer a1, .agg #[.string nm, .pointer (some ⟨p, 0, none⟩)], .pointer a2] rfl rfl (by kernel_rfl) (by go_simp) (CJ.mono ?_) AllG.nil
      rintro e w10 ⟨q, rfl, hq, hg10⟩
      refine ⟨.pointer (some ⟨q, 0, none⟩), rfl, hg10, ?_⟩
      have HQ : Hid (At w10 (K.node q p nm vv m kk k1 k2) (.pointer (some ⟨q, 0, none⟩)) ∧ G w w10) := ⟨hq, (HK3.out.2.2.1.trans hg9).trans hg10⟩
      clear hq hg10 hg9 CJ
      try simp only [Act.put, List.setIfInBounds_toArray, List.set_cons_zero, List.set_cons_succ]
      refine takeG 20 2 (.pointer (some ⟨q, 0, none⟩)) rfl rfl (by kernel_rfl) (by kernel_rfl) (by kernel_rfl) (fun _ _ _ h => h) (by kernel_rfl) (fun wz hz => ?_) ?_
      · rfl
      try simp only [Act.put, List.setIfInBounds_toArray, List.set_cons_zero, List.set_cons_succ]
      refine doneG (by kernel_rfl) (fun w11 hg11 => ?_)
      go_wp2_with fail
      go_ret
      refine ⟨_, _, rfl, HQ.out.1.grow hg11, ?_, HQ.out.2.trans hg11⟩
      rw [K.flat, HK1.out.2.1, HK2.out.2.1, HK3.out.2.1]
      exact HFF.out
end Go.Proofs.YtbjjbgaomoihaaaGreatDoor
