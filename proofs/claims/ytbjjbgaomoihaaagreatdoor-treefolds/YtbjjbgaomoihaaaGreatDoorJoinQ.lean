import Derived.Test.YtbjjbgaomoihaaaGreatDoorKids
set_option maxRecDepth 100000
set_option maxHeartbeats 1000000
namespace Go.Proofs.YtbjjbgaomoihaaaGreatDoor
open Go.RowKit
theorem joinQ_any (ka kb kk : K) (ua ub : Value) (nm : ByteArray) (p : Nat) (v : Vd) (m : Md) (w : World) (ha : At w ka ua) (hb : At w kb ub) (hk : AtT w p v m kk) (hs : ka.flat.size + kb.flat.size + kk.flat.size + 1 ≤ 9223372036854775807) :
    Calls Tryz.prog 87 #[ua, .agg #[.string nm, .pointer (some ⟨p, 0, none⟩)], ub] w fun e w' => ∃ q, e = .returned (.pointer (some ⟨q, 0, none⟩)) ∧ At w' (K.node q p nm v m kk ka kb) (.pointer (some ⟨q, 0, none⟩)) ∧ G w w' ∧ w.heap.size ≤ q := by
  obtain ⟨aa, rfl⟩ := ha.form
  obtain ⟨ab, rfl⟩ := hb.form
  have l1 := F.len_le_size ka.flat
  have l2 := F.len_le_size kb.flat
  have l3 := F.depth_le_size ka.flat
  have l4 := F.depth_le_size kb.flat
  have l5 := F.depth_le_size kk.flat
  have HF : Hid ((K.node 0 p nm v m kk ka kb).flat.len = ka.flat.len + 1 + kb.flat.len ∧ (K.node 0 p nm v m kk ka kb).flat.size = (1 + kk.flat.size) + (ka.flat.size + kb.flat.size) ∧ (K.node 0 p nm v m kk ka kb).flat.depth = max (max ka.flat.depth (kk.flat.depth + 1)) kb.flat.depth) := by
    refine ⟨?_, ?_, ?_⟩
    · rw [K.flat, F.app_len, F.len]; omega
    · rw [K.flat, F.app_size, F.size]; omega
    · rw [K.flat, F.app_depth, F.depth]; omega
  have HQ : Hid (∀ q, (K.node q p nm v m kk ka kb).flat = (K.node 0 p nm v m kk ka kb).flat) := fun q => rfl
  have C1 := hid (fun (W : World) (hW : G w W) => Calls.grown (many2_any ka (.pointer aa) W (ha.grow hW)))
  have C2 := hid (fun (W : World) (hW : G w W) => Calls.grown (many2_any kb (.pointer ab) W (hb.grow hW)))
  have C3 := hid (fun (W : World) (hW : G w W) => Calls.grown (things_any ka (.pointer aa) W (ha.grow hW)))
  have C4 := hid (fun (W : World) (hW : G w W) => Calls.grown (things_any kb (.pointer ab) W (hb.grow hW)))
  have C5 := hid (fun (W : World) (hW : G w W) => Calls.grown (levels_any ka (.pointer aa) W (ha.grow hW)))
  have C6 := hid (fun (W : World) (hW : G w W) => Calls.grown (levels_any kb (.pointer ab) W (hb.grow hW)))
  have C7 := hid (fun (W : World) (hW : G w W) => Calls.grown (count_any p v m kk W (hk.grow hW) (by omega)))
  have C8 := hid (fun (W : World) (hW : G w W) => Calls.grown (depth_any p v m kk W (hk.grow hW)))
  have C9 := hid (fun (W : World) => Calls.grown (addN_any ka.flat.size kb.flat.size W (by omega)))
  have C10 := hid (fun (W : World) => Calls.grown (addN_any (1 + kk.flat.size) (ka.flat.size + kb.flat.size) W (by omega)))
  have HA : Hid (At w ka (.pointer aa) ∧ At w kb (.pointer ab) ∧ AtT w p v m kk) := ⟨ha, hb, hk⟩
  clear ha hb hk
  generalize (K.node 0 p nm v m kk ka kb).flat = FF at *
  generalize hna : ka.flat.len = na at *
  generalize hnb : kb.flat.len = nb at *
  generalize hsa : ka.flat.size = sa at *
  generalize hsb : kb.flat.size = sb at *
  generalize hda : ka.flat.depth = da at *
  generalize hdb : kb.flat.depth = db at *
  generalize hsk : kk.flat.size = sk at *
  generalize hdk : kk.flat.depth = dk at *
  clear hna hnb hsa hsb hda hdb hsk hdk
  have e1 : IntKind.i64.wrap ((na : Int) + 1) = ((na + 1 : Nat) : Int) := by rw [IntKind.wrap_i64]; omega
  have e2 : IntKind.i64.wrap (((na + 1 : Nat) : Int) + (nb : Int)) = ((na + 1 + nb : Nat) : Int) := by rw [IntKind.wrap_i64]; omega
  have e3 : IntKind.i64.wrap ((dk : Int) + 1) = ((dk + 1 : Nat) : Int) := by rw [IntKind.wrap_i64]; omega
  generalize hN1 : na + 1 = N1 at *
  generalize hN2 : N1 + nb = N2 at *
  generalize hD1 : dk + 1 = D1 at *
  generalize hS0 : sa + sb = S0 at *
  generalize hS1 : 1 + sk = S1 at *
  generalize hS2 : S1 + S0 = S2 at *
  generalize hM : max (max da D1) db = M at *
  have HM : Hid (max (max da D1) db = M) := hM
  clear hM hS2 hS1 hS0 hD1 hN2 hN1 hs l1 l2 l3 l4 l5
  have hb0 := lies_new w #[.string nm, .pointer (some ⟨p, 0, none⟩)] 84
  have b0 := lies_cell hb0 0 (.string nm) rfl
  have b1 := lies_cell hb0 1 (.pointer (some ⟨p, 0, none⟩)) rfl
  have HG : Hid (G w (w.alloc (.cells #[.string nm, .pointer (some ⟨p, 0, none⟩)] 84))) := G.alloc w _
  go_enter Tryz.func87, Tryz.ntmps87
  go_upto_region 1 with fail
  clear hb0
  generalize hH : w.heap.size = H at *
  generalize (w.alloc (.cells #[.string nm, .pointer (some ⟨p, 0, none⟩)] 84)) = w1 at *
  have z0 := (G.drew w1).cell b0
  have z1 := (G.drew w1).cell b1
  have HD : Hid (G w w1.drew) := HG.out.trans (G.drew w1)
  refine wp_region_G ?_
  generalize w1.drew = w2 at *
  refine takeG 0 7 (.agg #[.string nm, .pointer (some ⟨p, 0, none⟩)]) rfl rfl (by kernel_rfl) (by kernel_rfl) (by kernel_rfl) (fun _ _ _ h => h) (by kernel_rfl) (fun wz hz => ?_) ?_
  · have y0 := hz.cell z0; have y1 := hz.cell z1; go_simp
  try simp only [Act.put, List.setIfInBounds_toArray, List.set_cons_zero, List.set_cons_succ]
  refine takeG 1 8 (.pointer aa) rfl rfl (by kernel_rfl) (by kernel_rfl) (by kernel_rfl) (fun _ _ _ h => h) (by kernel_rfl) (fun wz hz => ?_) ?_
  · rfl
  try simp only [Act.put, List.setIfInBounds_toArray, List.set_cons_zero, List.set_cons_succ]
  refine takeG 2 9 (.pointer ab) rfl rfl (by kernel_rfl) (by kernel_rfl) (by kernel_rfl) (fun _ _ _ h => h) (by kernel_rfl) (fun wz hz => ?_) ?_
  · rfl
  try simp only [Act.put, List.setIfInBounds_toArray, List.set_cons_zero, List.set_cons_succ]
  refine takeG 3 10 (.pointer aa) rfl rfl (by kernel_rfl) (by kernel_rfl) (by kernel_rfl) (fun _ _ _ h => h) (by kernel_rfl) (fun wz hz => ?_) ?_
  · rfl
  try simp only [Act.put, List.setIfInBounds_toArray, List.set_cons_zero, List.set_cons_succ]
  refine callG 4 11 (.int .i64 na) 67 #[.pointer aa] rfl rfl (by kernel_rfl) (by kernel_rfl) (by kernel_rfl) (fun _ _ _ h => h) (by kernel_rfl) (fun wz => by go_simp) (fun wz hz => ?_) ?_
  · exact C1.out wz (HD.out.trans hz)
  try simp only [Act.put, List.setIfInBounds_toArray, List.set_cons_zero, List.set_cons_succ]
  refine takeG 5 12 (.int .i64 (N1 : Int)) rfl rfl (by kernel_rfl) (by kernel_rfl) (by kernel_rfl) (fun _ _ _ h => h) (by kernel_rfl) (fun wz hz => ?_) ?_
  · go_simp
  try simp only [Act.put, List.setIfInBounds_toArray, List.set_cons_zero, List.set_cons_succ]
  refine takeG 6 13 (.pointer ab) rfl rfl (by kernel_rfl) (by kernel_rfl) (by kernel_rfl) (fun _ _ _ h => h) (by kernel_rfl) (fun wz hz => ?_) ?_
  · rfl
  try simp only [Act.put, List.setIfInBounds_toArray, List.set_cons_zero, List.set_cons_succ]
  refine callG 7 14 (.int .i64 nb) 67 #[.pointer ab] rfl rfl (by kernel_rfl) (by kernel_rfl) (by kernel_rfl) (fun _ _ _ h => h) (by kernel_rfl) (fun wz => by go_simp) (fun wz hz => ?_) ?_
  · exact C2.out wz (HD.out.trans hz)
  try simp only [Act.put, List.setIfInBounds_toArray, List.set_cons_zero, List.set_cons_succ]
  refine takeG 8 15 (.int .i64 (N2 : Int)) rfl rfl (by kernel_rfl) (by kernel_rfl) (by kernel_rfl) (fun _ _ _ h => h) (by kernel_rfl) (fun wz hz => ?_) ?_
  · go_simp
  try simp only [Act.put, List.setIfInBounds_toArray, List.set_cons_zero, List.set_cons_succ]
  refine takeG 9 16 (.pointer (some ⟨H, 1, none⟩)) rfl rfl (by kernel_rfl) (by kernel_rfl) (by kernel_rfl) (fun _ _ _ h => h) (by kernel_rfl) (fun wz hz => ?_) ?_
  · go_simp
  try simp only [Act.put, List.setIfInBounds_toArray, List.set_cons_zero, List.set_cons_succ]
  refine takeG 10 17 (.pointer (some ⟨p, 0, none⟩)) rfl rfl (by kernel_rfl) (by kernel_rfl) (by kernel_rfl) (fun _ _ _ h => h) (by kernel_rfl) (fun wz hz => ?_) ?_
  · have y0 := hz.cell z1; go_simp
  try simp only [Act.put, List.setIfInBounds_toArray, List.set_cons_zero, List.set_cons_succ]
  refine callG 11 18 (.int .i64 (S1 : Int)) 6 #[.pointer (some ⟨p, 0, none⟩)] rfl rfl (by kernel_rfl) (by kernel_rfl) (by kernel_rfl) (fun _ _ _ h => h) (by kernel_rfl) (fun wz => by go_simp) (fun wz hz => ?_) ?_
  · exact C7.out wz (HD.out.trans hz)
  try simp only [Act.put, List.setIfInBounds_toArray, List.set_cons_zero, List.set_cons_succ]
  refine takeG 12 19 (.pointer aa) rfl rfl (by kernel_rfl) (by kernel_rfl) (by kernel_rfl) (fun _ _ _ h => h) (by kernel_rfl) (fun wz hz => ?_) ?_
  · rfl
  try simp only [Act.put, List.setIfInBounds_toArray, List.set_cons_zero, List.set_cons_succ]
  refine callG 13 20 (.int .i64 sa) 20 #[.pointer aa] rfl rfl (by kernel_rfl) (by kernel_rfl) (by kernel_rfl) (fun _ _ _ h => h) (by kernel_rfl) (fun wz => by go_simp) (fun wz hz => ?_) ?_
  · exact C3.out wz (HD.out.trans hz)
  try simp only [Act.put, List.setIfInBounds_toArray, List.set_cons_zero, List.set_cons_succ]
  refine takeG 14 21 (.pointer ab) rfl rfl (by kernel_rfl) (by kernel_rfl) (by kernel_rfl) (fun _ _ _ h => h) (by kernel_rfl) (fun wz hz => ?_) ?_
  · rfl
  try simp only [Act.put, List.setIfInBounds_toArray, List.set_cons_zero, List.set_cons_succ]
  refine callG 15 22 (.int .i64 sb) 20 #[.pointer ab] rfl rfl (by kernel_rfl) (by kernel_rfl) (by kernel_rfl) (fun _ _ _ h => h) (by kernel_rfl) (fun wz => by go_simp) (fun wz hz => ?_) ?_
  · exact C4.out wz (HD.out.trans hz)
  try simp only [Act.put, List.setIfInBounds_toArray, List.set_cons_zero, List.set_cons_succ]
  refine callG 16 23 (.int .i64 (S0 : Int)) 19 #[.int .i64 sa, .int .i64 sb] rfl rfl (by kernel_rfl) (by kernel_rfl) (by kernel_rfl) (fun _ _ _ h => h) (by kernel_rfl) (fun wz => by go_simp) (fun wz hz => ?_) ?_
  · exact C9.out wz
  try simp only [Act.put, List.setIfInBounds_toArray, List.set_cons_zero, List.set_cons_succ]
  refine callG 17 24 (.int .i64 (S2 : Int)) 19 #[.int .i64 (S1 : Int), .int .i64 (S0 : Int)] rfl rfl (by kernel_rfl) (by kernel_rfl) (by kernel_rfl) (fun _ _ _ h => h) (by kernel_rfl) (fun wz => by go_simp) (fun wz hz => ?_) ?_
  · exact C10.out wz
  try simp only [Act.put, List.setIfInBounds_toArray, List.set_cons_zero, List.set_cons_succ]
  refine takeG 18 25 (.pointer aa) rfl rfl (by kernel_rfl) (by kernel_rfl) (by kernel_rfl) (fun _ _ _ h => h) (by kernel_rfl) (fun wz hz => ?_) ?_
  · rfl
  try simp only [Act.put, List.setIfInBounds_toArray, List.set_cons_zero, List.set_cons_succ]
  refine callG 19 26 (.int .i64 da) 27 #[.pointer aa] rfl rfl (by kernel_rfl) (by kernel_rfl) (by kernel_rfl) (fun _ _ _ h => h) (by kernel_rfl) (fun wz => by go_simp) (fun wz hz => ?_) ?_
  · exact C5.out wz (HD.out.trans hz)
  try simp only [Act.put, List.setIfInBounds_toArray, List.set_cons_zero, List.set_cons_succ]
  refine takeG 20 27 (.pointer (some ⟨H, 1, none⟩)) rfl rfl (by kernel_rfl) (by kernel_rfl) (by kernel_rfl) (fun _ _ _ h => h) (by kernel_rfl) (fun wz hz => ?_) ?_
  · go_simp
  try simp only [Act.put, List.setIfInBounds_toArray, List.set_cons_zero, List.set_cons_succ]
  refine takeG 21 28 (.pointer (some ⟨p, 0, none⟩)) rfl rfl (by kernel_rfl) (by kernel_rfl) (by kernel_rfl) (fun _ _ _ h => h) (by kernel_rfl) (fun wz hz => ?_) ?_
  · have y0 := hz.cell z1; go_simp
  try simp only [Act.put, List.setIfInBounds_toArray, List.set_cons_zero, List.set_cons_succ]
  refine callG 22 29 (.int .i64 dk) 13 #[.pointer (some ⟨p, 0, none⟩)] rfl rfl (by kernel_rfl) (by kernel_rfl) (by kernel_rfl) (fun _ _ _ h => h) (by kernel_rfl) (fun wz => by go_simp) (fun wz hz => ?_) ?_
  · exact C8.out wz (HD.out.trans hz)
  try simp only [Act.put, List.setIfInBounds_toArray, List.set_cons_zero, List.set_cons_succ]
  refine takeG 23 30 (.int .i64 (D1 : Int)) rfl rfl (by kernel_rfl) (by kernel_rfl) (by kernel_rfl) (fun _ _ _ h => h) (by kernel_rfl) (fun wz hz => ?_) ?_
  · go_simp
  try simp only [Act.put, List.setIfInBounds_toArray, List.set_cons_zero, List.set_cons_succ]
  refine takeG 24 31 (.pointer ab) rfl rfl (by kernel_rfl) (by kernel_rfl) (by kernel_rfl) (fun _ _ _ h => h) (by kernel_rfl) (fun wz hz => ?_) ?_
  · rfl
  try simp only [Act.put, List.setIfInBounds_toArray, List.set_cons_zero, List.set_cons_succ]
  refine callG 25 32 (.int .i64 db) 27 #[.pointer ab] rfl rfl (by kernel_rfl) (by kernel_rfl) (by kernel_rfl) (fun _ _ _ h => h) (by kernel_rfl) (fun wz => by go_simp) (fun wz hz => ?_) ?_
  · exact C6.out wz (HD.out.trans hz)
  try simp only [Act.put, List.setIfInBounds_toArray, List.set_cons_zero, List.set_cons_succ]
  refine takeG 26 33 (.int .i64 (M : Int)) rfl rfl (by kernel_rfl) (by kernel_rfl) (by kernel_rfl) (fun _ _ _ h => h) (by kernel_rfl) (fun wz hz => ?_) ?_
  · (go_simp; rw [← HM.out]; split <;> split <;> omega)
  try simp only [Act.put, List.setIfInBounds_toArray, List.set_cons_zero, List.set_cons_succ]
  refine takeG 27 34 (.agg (kc nm p (.pointer aa) (.pointer ab) N2 S2 M)) rfl rfl (by kernel_rfl) (by kernel_rfl) (by kernel_rfl) (fun _ _ _ h => h) (by kernel_rfl) (fun wz hz => ?_) ?_
  · (go_simp; rfl)
  try simp only [Act.put, List.setIfInBounds_toArray, List.set_cons_zero, List.set_cons_succ]
  refine readyG [28] (by kernel_rfl) (by simp) (fun w3 hg3 => ?_)
  refine AllG.value 28 35 (.pointer (some ⟨w3.heap.size, 0, none⟩)) (w3.alloc (.cells (kc nm p (.pointer aa) (.pointer ab) N2 S2 M) 86)) rfl rfl (by kernel_rfl) (by go_simp) (G.alloc _ _) ?_ AllG.nil
  try simp only [Act.put, List.setIfInBounds_toArray, List.set_cons_zero, List.set_cons_succ]
  have HW : Hid (G w (w3.alloc (.cells (kc nm p (.pointer aa) (.pointer ab) N2 S2 M) 86))) := (HD.out.trans hg3).trans (G.alloc _ _)
  have HL : Hid (Lies (w3.alloc (.cells (kc nm p (.pointer aa) (.pointer ab) N2 S2 M) 86)) w3.heap.size 0 (kc nm p (.pointer aa) (.pointer ab) N2 S2 M)) := lies_new _ _ _
  generalize w3.alloc (.cells (kc nm p (.pointer aa) (.pointer ab) N2 S2 M) 86) = w4 at *
  have HQ3 : Hid (H ≤ w3.heap.size) := by rw [← hH]; exact (HD.out.trans hg3).size
  generalize w3.heap.size = q at *
  refine takeG 29 6 (.pointer (some ⟨q, 0, none⟩)) rfl rfl (by kernel_rfl) (by kernel_rfl) (by kernel_rfl) (fun _ _ _ h => h) (by kernel_rfl) (fun wz hz => ?_) ?_
  · rfl
  try simp only [Act.put, List.setIfInBounds_toArray, List.set_cons_zero, List.set_cons_succ]
  refine doneG (by kernel_rfl) (fun w5 hg5 => ?_)
  clear z0 z1 b0 b1
  go_wp2_with fail
  go_ret
  have hg := HW.out.trans hg5
  obtain ⟨hpk, hk1, hk2⟩ := HA.out.2.2.grow hg
  refine ⟨q, rfl, ⟨rfl, hpk, .pointer aa, .pointer ab, ⟨?_, hk1⟩, hk2, HA.out.1.grow hg, HA.out.2.1.grow hg⟩, hg, by rw [hH]; exact HQ3.out⟩
  rw [HQ.out q, HF.out.1, HF.out.2.1, HF.out.2.2]
  exact hg5.lies HL.out
end Go.Proofs.YtbjjbgaomoihaaaGreatDoor
