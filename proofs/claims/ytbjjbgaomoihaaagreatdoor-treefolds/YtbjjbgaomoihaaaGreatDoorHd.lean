import Derived.Test.YtbjjbgaomoihaaaGreatDoorHc
set_option maxRecDepth 100000
set_option maxHeartbeats 8000000
namespace Go.Proofs.YtbjjbgaomoihaaaGreatDoor
open Go.RowKit
theorem owns_at {w : World} {lo : Nat} {v : Value} {L : List ByteArray} (h : OwnsT w lo v L) (hL : L ≠ []) : ∃ g c, v = .slice (some ⟨g, 0, none⟩) L.length c ∧ ∀ i s, L[i]? = some s → w.cell? ⟨g, i, none⟩ = some (.string s) := by
  obtain ⟨n, hn⟩ : ∃ n, L.length = n + 1 := ⟨L.length - 1, by have := List.length_pos_iff.2 hL; omega⟩
  have h2 : w.ownsRow lo 9 1 v (n + 1) (L.map Value.string) := by rw [← hn]; exact h
  obtain ⟨g, c, e⟩ := row_form h2
  refine ⟨g, c, by rw [hn]; exact e, fun i s hi => ?_⟩
  have := World.ownsRow.cells h2 (g := g) (by rw [e]; rfl) i (.string s) (by rw [List.getElem?_map, hi]; rfl)
  rw [Addr.add_mid, Nat.zero_add] at this
  exact this
theorem law_any (c : Array Value) (nm : ByteArray) (v : Vd) (m : Md) (ks : F) (w : World) (hN : HasN w c nm v m ks) (hnm : nm.size ≤ 9223372036854775807) (hok : ks.ok) (hlen : ks.len ≤ 9223372036854775807) (htb : Bk.Tb w.heap.size w) :
    Calls Tryz.prog 3 #[.agg c] w fun e w' => e = .returned (.bool true) ∧ G w w' := by
  have hcs : c.size = 41 := by obtain ⟨_, rfl, _⟩ := hN; exact nc_size ..
  obtain ⟨w1, hw1⟩ : ∃ w1, w.alloc (.cells c 30) = w1 := ⟨_, rfl⟩
  obtain ⟨B, hB⟩ : ∃ B, w.heap.size = B := ⟨_, rfl⟩
  have g1 : G w w1 := by rw [← hw1]; exact G.alloc w _
  have v1 : Var w1 B c := by rw [← hw1, ← hB]; exact Var.new w c
  have H1 := hid (⟨hN, hnm, hok, hlen, htb, g1, v1, hcs, hB⟩ : _ ∧ _ ∧ _ ∧ _ ∧ _ ∧ _ ∧ _ ∧ _ ∧ _)
  have C4 := hid (known_any w1)
  clear hN hnm hok hlen htb g1 v1 hcs
  go_enter Tryz.func3, Tryz.ntmps3
  go_upto_region 1 with fail
  clear hw1 hB
  go_upto_region 3 with (go_at_call 4; refine C4.out.mono ?_; rintro e w2 ⟨rfl, hg2⟩; have H2 := hid (⟨H1.out.2.2.2.2.2.1.trans hg2, H1.out.2.2.2.2.2.2.1.grow hg2⟩ : G w w2 ∧ Var w2 B c); clear hg2)
  have C5 := hid (grown_any c nm v m ks w2 (H1.out.1.below H2.out.1) H1.out.2.1 H1.out.2.2.1 H1.out.2.2.2.1)
  go_upto_region 4 with (first
    | ((with_reducible refine wpList_exec (.agg c) ?_ ?_ ?_); exact exec_load30 _ rfl B 0 rfl c H1.out.2.2.2.2.2.2.2.1 H2.out.2.lies; kernel_rfl)
    | (go_at_call 5; refine C5.out.mono ?_; rintro e w3 ⟨u, rfl, hgr, hg3⟩; have H3 := hid (⟨H2.out.1.trans hg3, H2.out.2.grow hg3, hgr⟩ : G w w3 ∧ Var w3 B c ∧ GrownRes w3 u v m ks); clear hg3 hgr))
  clear C4 C5 H2
  rcases H3.out.2.2 with rfl | ⟨p, rfl, ⟨k, hT, hkf, _⟩, hce, hwt⟩
  · go_wp2
    go_ret
    exact ⟨rfl, H3.out.1⟩
  subst hkf
  have hsz0 := F.size_le_weight k.flat
  have C6 := hid (count_any p v m k w3 hT (by omega))
  obtain ⟨hnf, hkd, hdp, hkv⟩ := check_deep hce
  have HT := hid (⟨hT, hnf, hkd, hdp, hkv, hwt⟩ : _ ∧ _ ∧ _ ∧ _ ∧ _ ∧ _)
  clear hT hnf hkd hdp hkv hwt hce
  by_cases hbig : 300 < 1 + k.flat.size
  · have i1 : (300 : Int) < ((1 + k.flat.size : Nat) : Int) := by omega
    generalize ((1 + k.flat.size : Nat) : Int) = Z at *
    go_wp2_with (go_at_call 6; refine C6.out.mono ?_; rintro e w4 ⟨rfl, rfl⟩)
    go_ret
    exact ⟨rfl, H3.out.1⟩
  have i1 : ¬ (300 : Int) < ((1 + k.flat.size : Nat) : Int) := by omega
  generalize ((1 + k.flat.size : Nat) : Int) = Z at *
  go_upto_region 6 with (go_at_call 6; refine C6.out.mono ?_; rintro e w4 ⟨rfl, rfl⟩)
  have hG0 : G w w4 := H3.out.1
  have hbk := Bk.book_new w4 w4.heap.size (Nat.le_refl _)
  have hK1 : (w4.alloc Bk.bookObj).heap.size = w4.heap.size + 1 := World.size_alloc _ _
  obtain ⟨K, hK⟩ : ∃ K, w4.heap.size = K := ⟨_, rfl⟩
  rw [hK] at hbk hK1
  obtain ⟨w5, hw5⟩ : ∃ w5, w4.alloc Bk.bookObj = w5 := ⟨_, rfl⟩
  have g5 : G w4 w5 := by rw [← hw5]; exact G.alloc w4 _
  rw [hw5] at hbk hK1
  go_upto_region 7 with (first
    | (with_reducible refine Bk.wpList_book rfl rfl rfl _ rfl rfl ?_))
  have hw6 : (w5.alloc (.cells #[.slice none 0 0, .pointer (some ⟨K, 0, none⟩), .bool true] 58)).heap[K + 1]? = some (.cells #[.slice none 0 0, .pointer (some ⟨K, 0, none⟩), .bool true] 58 (0, 0)) := by
    rw [← hK1]; exact World.alloc_heap_new w5 _
  obtain ⟨W6, hW6⟩ : ∃ W6, w5.alloc (.cells #[.slice none 0 0, .pointer (some ⟨K, 0, none⟩), .bool true] 58) = W6 := ⟨_, rfl⟩
  have g6 : G w5 W6 := by rw [← hW6]; exact G.alloc w5 _
  have s6 : W6.heap.size = K + 2 := by rw [← hW6, World.size_alloc, hK1]
  rw [hW6] at hw6 ⊢
  have hMt : Mt w4.heap.size (K + 1) K ([] : List ByteArray).length [] (fun b => b = K + 1 ∨ b = K) W6 (.slice none 0 0) (fun b => b = K) := by
    rw [hK]
    refine ⟨hw6, OwnsT.nil _ _, ?_, by omega, by omega, (by intro e; cases e), (by intro b e; cases e), fun b => ?_, ?_⟩
    · exact hbk.keep g6.size (fun b e => Below.block g6 b (hbk.lt b e)) g6.os g6.tape g6.output
    · constructor
      · rintro (e | e)
        · exact .inl e
        · exact .inr (.inr e)
      · rintro (e | e | e)
        · exact .inl e
        · cases e
        · exact .inr e
    · have hw := hG0.size
      exact Bk.Tb.on (lo := K) (fun n w' hn h' => H1.out.2.2.2.2.1 n w' hn (Below.trans hG0 (h'.mono (by omega)))) (by rw [← hK]; exact g5.trans g6)
  have g46 : G w4 W6 := g5.trans g6
  have C7 := fold_any w4 (K + 1) K p v m k [] _ _ _ W6 HT.out.1 g46 hMt HT.out.2.1 HT.out.2.2.2.2.1 HT.out.2.2.1 (by have := HT.out.2.2.2.1; omega) (by omega) (by rw [List.length_nil]; omega)
  unfold fvc at C7
  obtain ⟨L, hL⟩ : ∃ L : List ByteArray, behF k.flat ⟨#[]⟩ ++ [⟨#[]⟩] = L := ⟨_, rfl⟩
  rw [List.nil_append, hL] at C7
  have C7 : Hid (Calls Tryz.prog 7 #[.pointer (some ⟨p, 0, none⟩), .func (.func 8) #[.pointer (some ⟨K + 1, 0, none⟩)] #[]] W6 fun e W7 => ∃ c' M' pv' B', e = .returned (.agg c') ∧ Hid (c'.size = 41 ∧ c'.all (·.oneCell') = true) ∧
      Hid (HasN W7 c' ⟨#[]⟩ v m k.flat ∧ Mt w4.heap.size (K + 1) K L.length L M' W7 pv' B' ∧ Kw (fun b => b = K + 1 ∨ b = K) W6 W7)) := by
    refine C7.mono ?_
    rintro e W7 ⟨c', M', pv', B', rfl, ⟨kv, e2, hk⟩, h3, h4, h5⟩
    refine ⟨c', M', pv', B', rfl, ⟨by rw [e2]; exact nc_size .., ?_⟩, HasNP.has (P := fun b => W6.heap.size ≤ b ∧ ¬ M' b ∧ Cls W7 b) ⟨kv, e2, hk⟩, h3, h4⟩
    obtain ⟨a1, c1, rfl, _⟩ := hk
    rw [e2]
    exact nc_one _ _ _ _ rfl
  have HM := hid (⟨hMt, g46, s6⟩ : _ ∧ _ ∧ _)
  clear hMt g46 g6 g5 hw6 hW6 hbk hK1 hw5 C6
  go_upto_region 8 with (first
    | (go_at_call 7; go_loud (refine C7.out.mono ?_); rintro e W7 ⟨c', M', pv', B', rfl, HC, HF⟩)
    | ((with_reducible refine wpList_execW (.pointer (some ⟨W7.heap.size, 0, none⟩)) (W7.alloc (.cells z30 30)) ?_ ?_ ?_); exact exec_alloc30 rfl W7; kernel_rfl)
    | ((with_reducible refine wpList_skipW ((W7.alloc (.cells z30 30)).setRow W7.heap.size c') ?_ ?_ ?_); exact exec_store30 _ _ rfl W7.heap.size c' z30 rfl rfl _ (Var.new _ _) HC.out.1 z30_size HC.out.2; kernel_rfl))
  obtain ⟨gV, vV, sV⟩ := new_var W7 c'
  obtain ⟨W8, hW8⟩ : ∃ W8, (W7.alloc (.cells z30 30)).setRow W7.heap.size c' = W8 := ⟨_, rfl⟩
  rw [hW8] at gV vV sV ⊢
  clear hW8 sV C7
  have hge : ∀ b, (b = K + 1 ∨ b = K) → w4.heap.size ≤ b := fun b e => by omega
  have g48 : G w4 W8 := Below.trans HM.out.2.1 (Below.trans (HF.out.2.2.below (B := w4.heap.size) (by have := HM.out.2.2; omega) hge) (gV.mono (by have := HF.out.2.2.size; have := HM.out.2.2; omega)))
  have hL0 : L ≠ [] := by rw [← hL]; simp
  have hLn : L.length ≤ 1000 := by rw [← hL, List.length_append, behF_len]; simp only [List.length_singleton]; omega
  have C9 := behind_any (k.flat.size + 1) k.flat (Nat.lt_succ_self _) nm v m c W8 ⟨#[]⟩ (H1.out.1.below (hG0.trans g48)) HT.out.2.1 (by have := HT.out.2.2.2.1; show 0 + _ ≤ _; omega) (by omega)
  rw [hL] at C9
  have C9 := hid C9
  have H8 := hid (⟨g48, gV, vV, H3.out.2.1.grow g48⟩ : _ ∧ _ ∧ _ ∧ Var W8 B c)
  have HL := hid (⟨hL0, hLn⟩ : _ ∧ _)
  generalize W7.heap.size = Vb at *
  clear g48 gV vV hL0 hLn hL
  go_upto_region 9 with (first
    | ((with_reducible refine wpList_exec (.agg c) ?_ ?_ ?_); exact exec_load30 _ rfl B 0 rfl c H1.out.2.2.2.2.2.2.2.1 H8.out.2.2.2.lies; kernel_rfl)
    | (go_at_call 9; refine C9.out.mono ?_; rintro e W9 ⟨u6, rfl, ho6, hg9⟩; have H9 := hid (⟨ho6, hg9⟩ : _ ∧ _); clear ho6 hg9))
  obtain ⟨ga, ca, rfl, hca⟩ := owns_at HF.out.2.1.own HL.out.1
  obtain ⟨gu, cu, rfl, hcu⟩ := owns_at H9.out.1 HL.out.1
  have hgd : G W7 W9.drew := H8.out.2.1.trans (H9.out.2.trans (G.drew W9))
  have hgw : G w4 W9.drew := H8.out.1.trans (H9.out.2.trans (G.drew W9))
  have cW : W9.drew.cell? ⟨K + 1, 2, none⟩ = some (.bool true) := hgd.cell (cell_of_row _ _ 2 _ _ _ HF.out.2.1.met)
  have cP : W9.drew.cell? ⟨K + 1, 0, none⟩ = some (.slice (some ⟨ga, 0, none⟩) L.length ca) := hgd.cell (cell_of_row _ _ 0 _ _ _ HF.out.2.1.met)
  have lf : Lies W9.drew Vb 0 c' := (H8.out.2.2.1.grow (H9.out.2.trans (G.drew W9))).lies
  have hokL : k.flat.okL := by unfold F.okL; omega
  have NN : ∀ w, G W9.drew w → Calls Tryz.prog 11 #[.pointer (some ⟨p, 0, none⟩)] w fun e w' => ∃ c', e = .returned (.agg c') ∧ HasN w' c' ⟨#[]⟩ v m k.flat ∧ G w w' := fun w hw =>
    (treeNode_any (k.flat.size + 1) k (Nat.lt_succ_self _) p v m w (HT.out.1.grow (hgw.trans hw)) (by omega)).mono fun e w' ⟨c2, e1, h1, h2⟩ => ⟨c2, e1, HasNP.has h1, h2⟩
  have NE : ∀ w d, G W9.drew w → HasN w d ⟨#[]⟩ v m k.flat → Calls Tryz.prog 10 #[.agg c', .agg d] w fun e w' => e = .returned (.bool true) ∧ G w w' := fun w d hw hd =>
    (sameNode_any ⟨#[]⟩ ⟨#[]⟩ v v m m k.flat k.flat c' d w (HF.out.1.below (hgd.trans hw)) hd hokL hokL).mono fun e w' h => ⟨by rw [h.1]; simp, h.2⟩
  have HP := hid (⟨hgd, hgw, cP, fun i s h => hgd.cell (hca i s h), fun i s h => (G.drew W9).cell (hcu i s h), HC.out.1⟩ : G W7 W9.drew ∧ G w4 W9.drew ∧ W9.drew.cell? ⟨K + 1, 0, none⟩ = some (.slice (some ⟨ga, 0, none⟩) L.length ca) ∧ (∀ i s, L[i]? = some s → W9.drew.cell? ⟨ga, i, none⟩ = some (.string s)) ∧ (∀ i s, L[i]? = some s → W9.drew.cell? ⟨gu, i, none⟩ = some (.string s)) ∧ c'.size = 41)
  have HS := hid (⟨hG0, hgw⟩ : _ ∧ _)
  clear hca hcu hgd hgw C9 HM hokL H8
  refine regN (K + 1) p Vb L.length ca cu (some ⟨ga, 0, none⟩) (some ⟨gu, 0, none⟩) c' v m k.flat _ W9 rfl rfl rfl rfl rfl HC.out.1 cW cP lf NN NE ?_
  intro r W10 hg10
  rw [foldN]
  simp only [List.setIfInBounds_toArray, List.set_cons_zero, List.set_cons_succ]
  clear NN NE cW cP lf
  have H10 := hid (⟨hG0.trans (HP.out.2.1.trans hg10), hg10.cell HP.out.2.2.1, fun i s h => hg10.cell (HP.out.2.2.2.1 i s h), fun i s h => hg10.cell (HP.out.2.2.2.2.1 i s h)⟩ : G w W10 ∧ W10.cell? ⟨K + 1, 0, none⟩ = some (.slice (some ⟨ga, 0, none⟩) L.length ca) ∧ (∀ i s, L[i]? = some s → W10.cell? ⟨ga, i, none⟩ = some (.string s)) ∧ (∀ i s, L[i]? = some s → W10.cell? ⟨gu, i, none⟩ = some (.string s)))
  clear HP HS HF H9 hg10 HC HT H3 H1 hsz0 hbig hG0 s6 hge C7 hK
  obtain ⟨N, hN⟩ : ∃ N, L.length = N := ⟨_, rfl⟩
  have hN2 : N ≤ 1000 := by rw [← hN]; exact HL.out.2
  rw [hN] at H10 ⊢
  go_wp2
  go_loopg [7] N (fun gh i wr => ∃ k : Nat, k ≤ N ∧ gh = N - k ∧ i = .int .i64 (k : Int) ∧ Hid (G W10 wr))
  case atStart => exact ⟨0, Nat.zero_le _, rfl, rfl, G.refl _⟩
  case round =>
    obtain ⟨k, hk, rfl, rfl, HI⟩ := hrel
    by_cases hlt : k < N
    · have i1 : (k : Int) < (N : Int) := by omega
      obtain ⟨s, hs⟩ : ∃ s, L[k]? = some s := ⟨L[k]'(by omega), List.getElem?_eq_getElem _⟩
      have hgd : G W10 wr.drew := HI.out.trans (G.drew wr)
      have z1 := hgd.cell H10.out.2.1
      have z2 := hgd.cell (H10.out.2.2.1 k s hs)
      have z3 := hgd.cell (H10.out.2.2.2 k s hs)
      go_upto_region 14 with fail
      refine wp_region_G ?_
      generalize wr.drew = w2 at *
      refine takeG 0 57 (.pointer (some ⟨K + 1, 0, none⟩)) rfl rfl (by kernel_rfl) (by kernel_rfl) (by kernel_rfl) (fun _ _ _ h => h) (by kernel_rfl) (fun wz hz => ?_) ?_
      · rfl
      try simp only [Act.put, List.setIfInBounds_toArray, List.set_cons_zero, List.set_cons_succ]
      refine takeG 1 58 (.pointer (some ⟨K + 1, 0, none⟩)) rfl rfl (by kernel_rfl) (by kernel_rfl) (by kernel_rfl) (fun _ _ _ h => h) (by kernel_rfl) (fun wz hz => ?_) ?_
      · go_simp
      try simp only [Act.put, List.setIfInBounds_toArray, List.set_cons_zero, List.set_cons_succ]
      refine takeG 2 59 (.pointer (some ⟨K + 1, 0, none⟩)) rfl rfl (by kernel_rfl) (by kernel_rfl) (by kernel_rfl) (fun _ _ _ h => h) (by kernel_rfl) (fun wz hz => ?_) ?_
      · go_simp
      try simp only [Act.put, List.setIfInBounds_toArray, List.set_cons_zero, List.set_cons_succ]
      refine takeG 3 60 (.slice (some ⟨ga, 0, none⟩) N ca) rfl rfl (by kernel_rfl) (by kernel_rfl) (by kernel_rfl) (fun _ _ _ h => h) (by kernel_rfl) (fun wz hz => ?_) ?_
      · have y0 := hz.cell z1; go_simp
      try simp only [Act.put, List.setIfInBounds_toArray, List.set_cons_zero, List.set_cons_succ]
      refine takeG 4 61 (.int .i64 (k : Int)) rfl rfl (by kernel_rfl) (by kernel_rfl) (by kernel_rfl) (fun _ _ _ h => h) (by kernel_rfl) (fun wz hz => ?_) ?_
      · rfl
      try simp only [Act.put, List.setIfInBounds_toArray, List.set_cons_zero, List.set_cons_succ]
      refine takeG 5 62 (.pointer (some ⟨ga, k, none⟩)) rfl rfl (by kernel_rfl) (by kernel_rfl) (by kernel_rfl) (fun _ _ _ h => h) (by kernel_rfl) (fun wz hz => ?_) ?_
      · go_simp
      try simp only [Act.put, List.setIfInBounds_toArray, List.set_cons_zero, List.set_cons_succ]
      refine takeG 6 63 (.string s) rfl rfl (by kernel_rfl) (by kernel_rfl) (by kernel_rfl) (fun _ _ _ h => h) (by kernel_rfl) (fun wz hz => ?_) ?_
      · have y0 := hz.cell z2; go_simp
      try simp only [Act.put, List.setIfInBounds_toArray, List.set_cons_zero, List.set_cons_succ]
      refine takeG 7 64 (.slice (some ⟨gu, 0, none⟩) N cu) rfl rfl (by kernel_rfl) (by kernel_rfl) (by kernel_rfl) (fun _ _ _ h => h) (by kernel_rfl) (fun wz hz => ?_) ?_
      · rfl
      try simp only [Act.put, List.setIfInBounds_toArray, List.set_cons_zero, List.set_cons_succ]
      refine takeG 8 65 (.int .i64 (k : Int)) rfl rfl (by kernel_rfl) (by kernel_rfl) (by kernel_rfl) (fun _ _ _ h => h) (by kernel_rfl) (fun wz hz => ?_) ?_
      · rfl
      try simp only [Act.put, List.setIfInBounds_toArray, List.set_cons_zero, List.set_cons_succ]
      refine takeG 9 66 (.pointer (some ⟨gu, k, none⟩)) rfl rfl (by kernel_rfl) (by kernel_rfl) (by kernel_rfl) (fun _ _ _ h => h) (by kernel_rfl) (fun wz hz => ?_) ?_
      · go_simp
      try simp only [Act.put, List.setIfInBounds_toArray, List.set_cons_zero, List.set_cons_succ]
      refine takeG 10 67 (.string s) rfl rfl (by kernel_rfl) (by kernel_rfl) (by kernel_rfl) (fun _ _ _ h => h) (by kernel_rfl) (fun wz hz => ?_) ?_
      · have y0 := hz.cell z3; go_simp
      try simp only [Act.put, List.setIfInBounds_toArray, List.set_cons_zero, List.set_cons_succ]
      refine takeG 11 68 (.bool false) rfl rfl (by kernel_rfl) (by kernel_rfl) (by kernel_rfl) (fun _ _ _ h => h) (by kernel_rfl) (fun wz hz => ?_) ?_
      · go_simp
      try simp only [Act.put, List.setIfInBounds_toArray, List.set_cons_zero, List.set_cons_succ]
      refine doneG (by kernel_rfl) (fun w5 hg5 => ?_)
      have HR : Hid (G W10 w5) := hgd.trans hg5
      clear z1 z2 z3 hgd hg5 HI
      go_wp2
      go_roundg (N - (k + 1))
      case measure => omega
      case rel => exact ⟨k + 1, by omega, rfl, by go_num, HR⟩
    · obtain rfl : k = N := by omega
      have i1 : ¬ ((k : Int) < (k : Int)) := by omega
      go_wp2
      go_ret
      exact ⟨rfl, H10.out.1.trans HI.out⟩
end Go.Proofs.YtbjjbgaomoihaaaGreatDoor
