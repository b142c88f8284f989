/-
  tree.Fold by contract.
-/
import Derived.Test.YtglnpmdigghibaaGath
import Derived.Laws.EntriesVeiled
namespace Go.Proofs.Ytglnpmdigghibaa
open Go.RowKit Go.Shelf
attribute [local go_sem] Oper.semAt_some

section
variable {F : Fence} {n : Nat} {md : Region.Mode} {ops : Array Oper} {Q : Exit → Act → World → Prop}
theorem wp_region_A {id : Nat} {a : Act} {w : World} (h : wpAnyIn F n Try.prog .any ops Q ops.size (Array.replicate ops.size false) a w.drew) : (Code.region id ops true).wpIn F n Try.prog Q a w := wpIn_region_any (by kernel_rfl) h
theorem callA (hL : Lets F n) (i d : Nat) {oi : Oper} {k : Nat} {listed : Array Bool} {a : Act} {w : World} (f : FuncId) (args : Array Value) (hi : ops[i]? = some oi) (hd : oi.dst = some d) (hw : Region.wanted oi (yielded ops a.tmps) = true) (hn : ∀ c, oi.op ≠ .defer c)
    (hx : (execOp a.eval oi).run Try.prog w = .ok (.enter f args) w) (hc : CallsIn F (n - 1) Try.prog f args w fun e w' => ∃ v, e = .returned v ∧ wpAnyIn F n Try.prog md ops Q k (listed.setIfInBounds i true) (a.put (some d) v) w') : AllReadyIn F n Try.prog md ops Q k listed a w [i] := by
  refine AllReadyIn.cons hi (fun K hK => ?_) AllReadyIn.nil
  rw [if_pos hw]
  refine ⟨fun f _ => hL.fn f, ?_⟩
  rw [Oper.semAt_plain _ _ _ hn, hx, Oper.uponIn_enter]
  refine ⟨hL.dp, hc.mono ?_⟩
  rintro e w' ⟨v, rfl, h⟩
  rw [hd]
  exact hK _ _ h
theorem skipA (hL : Lets F n) (i : Nat) (w' : World) {oi : Oper} {k : Nat} {listed : Array Bool} {a : Act} {w : World} (hi : ops[i]? = some oi) (hd : oi.dst = none) (hw : Region.wanted oi (yielded ops a.tmps) = true) (hn : ∀ c, oi.op ≠ .defer c)
    (hx : (execOp a.eval oi).run Try.prog w = .ok .skip w') (h : wpAnyIn F n Try.prog md ops Q k (listed.setIfInBounds i true) a w') : AllReadyIn F n Try.prog md ops Q k listed a w [i] := by
  refine AllReadyIn.cons hi (fun K hK => ?_) AllReadyIn.nil
  rw [if_pos hw]
  refine ⟨fun f _ => hL.fn f, ?_⟩
  rw [Oper.semAt_plain _ _ _ hn, hx, Oper.uponIn_skip, hd]
  exact hK _ _ h
end
theorem mp_nameL (f : Vd → Vd) (g : Md → Md) : ∀ k : F, (k.mp f g).nameL = k.nameL
  | .nil => rfl
  | .cons n v m ks r => by rw [F.mp, F.nameL, F.nameL, mp_nameL f g r]
set_option maxRecDepth 100000 in
set_option maxHeartbeats 8000000 in
theorem thing_step (ver : Int) (k : K) (hGa : GatherOk ver k) : ThingOk ver k := by
  intro p v m q Bv w hT hver hnm hqs hsz
  obtain ⟨pk, hT1, hT2⟩ := id hT
  obtain ⟨X, hX⟩ : ∃ X, X = (vx v).toArray := ⟨_, rfl⟩
  obtain ⟨M, hM⟩ : ∃ M, M = (mx m).toArray := ⟨_, rfl⟩
  have HX : Hid (X.size = 35 ∧ M.size = 4 ∧ X = (vx v).toArray ∧ M = (mx m).toArray) := ⟨by rw [hX]; simp [vx_len], by rw [hM]; simp [mx_len], hX, hM⟩
  have HLX : Hid (Lies w p 0 X ∧ Lies w p 35 M) := by
    have h1 := hT1.part 0 35
    have h2 := hT1.part 35 39
    rw [tc_val, ← hX] at h1
    rw [tc_marks, ← hM] at h2
    rw [Nat.zero_add] at h2
    exact ⟨h1, h2⟩
  clear hX hM
  have HT := hid (⟨hT, hver, hsz, hT1⟩ : _ ∧ _ ∧ _ ∧ _)
  obtain ⟨B, hB⟩ : ∃ B, w.heap.size = B := ⟨_, rfl⟩
  have hG1 : G w ((w.alloc (.cells #[fc Bv] 79)).alloc (.cells z30 30)) := (G.alloc _ _).trans (G.alloc _ _)
  have C42 : Hid (Calls Try.prog 42 #[.string q, .pointer (some ⟨p, 0, none⟩), yc Bv] ((w.alloc (.cells #[fc Bv] 79)).alloc (.cells z30 30)) _) := hGa p v m q Bv _ (hT.grow hG1) (hG1.cell hver) hnm hqs hsz
  have H1 : Hid (G w ((w.alloc (.cells #[fc Bv] 79)).alloc (.cells z30 30)) ∧ ((w.alloc (.cells #[fc Bv] 79)).alloc (.cells z30 30)).heap[B]? = some (.cells #[fc Bv] 79 (0, 0)) ∧ Var ((w.alloc (.cells #[fc Bv] 79)).alloc (.cells z30 30)) (B + 1) z30 ∧ ((w.alloc (.cells #[fc Bv] 79)).alloc (.cells z30 30)).heap.size = B + 2) := by
    refine ⟨hG1, ?_, ?_, by rw [World.size_alloc, World.size_alloc, hB]⟩
    · rw [Below.heap_alloc _ _ _ (by rw [World.size_alloc]; omega), ← hB]; exact World.alloc_heap_new w _
    · have h := Var.new (w.alloc (.cells #[fc Bv] 79)) z30
      rw [World.size_alloc, hB] at h
      exact h
  have hs1 : (w.alloc (.cells #[fc Bv] 79)).heap.size = B + 1 := by rw [World.size_alloc, hB]
  have hcB := Boxed.cell (t := 79) H1.out.2.1
  unfold yc at C42
  unfold fc at *
  clear hT hver hnm hqs hsz hT1 hT2 hG1 hGa
  refine (callsIn_wide (n := 3)).1 ?_
  refine callsIn_of_wp_marks Try.func33 rfl trivial (Go.wpIn_mono (Q := RetM Try.f33 _) ?_ RetM.post) rfl
  simp only [Try.ntmps33, List.size_toArray, List.length_cons, List.length_nil, Nat.reduceAdd, Nat.reduceSub, Array.replicate_succ, Array.replicate_zero, List.push_toArray, List.append_toArray, List.nil_append, List.cons_append]
  gi_wp2_with (first
    | ((with_reducible refine wpListIn_execW (.pointer (some ⟨B + 1, 0, none⟩)) ((w.alloc (.cells #[.func (.func 21) #[] #[.pointer (some ⟨Bv, 0, none⟩)]] 79)).alloc (.cells z30 30)) ?_ ?_ ?_ ?_ ?_); rfl; exact exec_alloc30e rfl _ _ hs1; (intro c h; cases h); exact fun _ _ => trivial)
    | (refine ⟨trivial, ?_⟩; gi_at_call 42; refine (callsIn_wide.2 C42.out).mono ?_; rintro e W2 ⟨un, ut, xs, T, rfl, hg2, hon, hot, hrc, htt, huu⟩))
  obtain ⟨bo, vc, rfl⟩ := owns_form hot
  obtain ⟨nf, hnf⟩ : ∃ nf, k.flat.len = nf := ⟨_, rfl⟩
  obtain ⟨W1, hW1⟩ : ∃ W1, W1 = (w.alloc (.cells #[.func (.func 21) #[] #[.pointer (some ⟨Bv, 0, none⟩)]] 79)).alloc (.cells z30 30) := ⟨_, rfl⟩
  rw [← hW1] at hg2 hon hot htt huu H1
  rw [hnf] at hot htt huu ⊢
  have hlo : W1.heap.size + 2 = B + 4 := by rw [H1.out.2.2.2]
  rw [hlo] at hon hot
  have HR := hid (⟨hg2, hon, hot, hrc, htt, huu⟩ : _ ∧ _ ∧ _ ∧ _ ∧ _ ∧ _)
  have HGw : Hid (G w W2.drew ∧ G W1 W2.drew ∧ G W2 W2.drew) := ⟨(H1.out.1.trans hg2).trans (G.drew W2), hg2.trans (G.drew W2), G.drew W2⟩
  clear hg2 hon hot hrc htt huu hcB hs1 hW1 C42 hlo
  refine wp_region_A ?_
  generalize W2.drew = Wd at *
  have HCB : Hid (∀ W', G Wd W' → W'.cell? ⟨B, 0, none⟩ = some (.func (.func 21) #[] #[.pointer (some ⟨Bv, 0, none⟩)])) := fun W' h => Boxed.cell (t := 79) (Below.block (HGw.out.2.1.trans h) B (Array.getElem?_eq_some_iff.1 H1.out.2.1).1 |>.trans H1.out.2.1)
  refine takeI 0 17 (.pointer (some ⟨B, 0, none⟩)) rfl rfl (by kernel_rfl) (by kernel_rfl) (by kernel_rfl) (fun _ _ _ h => h) (by kernel_rfl) (fun _ => rfl) (fun wz => ?_) ?_
  · go_simp
  try simp only [Act.put, List.setIfInBounds_toArray, List.set_cons_zero, List.set_cons_succ]
  refine takeI 2 19 (.string q) rfl rfl (by kernel_rfl) (by kernel_rfl) (by kernel_rfl) (fun _ _ _ h => h) (by kernel_rfl) (fun _ => rfl) (fun wz => ?_) ?_
  · rfl
  try simp only [Act.put, List.setIfInBounds_toArray, List.set_cons_zero, List.set_cons_succ]
  refine takeI 3 20 (.pointer (some ⟨p, 0, none⟩)) rfl rfl (by kernel_rfl) (by kernel_rfl) (by kernel_rfl) (fun _ _ _ h => h) (by kernel_rfl) (fun _ => rfl) (fun wz => ?_) ?_
  · rfl
  try simp only [Act.put, List.setIfInBounds_toArray, List.set_cons_zero, List.set_cons_succ]
  refine takeI 4 21 (.pointer (some ⟨p, 0, none⟩)) rfl rfl (by kernel_rfl) (by kernel_rfl) (by kernel_rfl) (fun _ _ _ h => h) (by kernel_rfl) (fun _ => rfl) (fun wz => ?_) ?_
  · go_simp
  try simp only [Act.put, List.setIfInBounds_toArray, List.set_cons_zero, List.set_cons_succ]
  refine takeI 5 22 (.pointer (some ⟨p, 0, none⟩)) rfl rfl (by kernel_rfl) (by kernel_rfl) (by kernel_rfl) (fun _ _ _ h => h) (by kernel_rfl) (fun _ => rfl) (fun wz => ?_) ?_
  · go_simp
  try simp only [Act.put, List.setIfInBounds_toArray, List.set_cons_zero, List.set_cons_succ]
  refine takeI 7 24 (.pointer (some ⟨p, 0, none⟩)) rfl rfl (by kernel_rfl) (by kernel_rfl) (by kernel_rfl) (fun _ _ _ h => h) (by kernel_rfl) (fun _ => rfl) (fun wz => ?_) ?_
  · rfl
  try simp only [Act.put, List.setIfInBounds_toArray, List.set_cons_zero, List.set_cons_succ]
  refine takeI 8 25 (.pointer (some ⟨p, 0, none⟩)) rfl rfl (by kernel_rfl) (by kernel_rfl) (by kernel_rfl) (fun _ _ _ h => h) (by kernel_rfl) (fun _ => rfl) (fun wz => ?_) ?_
  · go_simp
  try simp only [Act.put, List.setIfInBounds_toArray, List.set_cons_zero, List.set_cons_succ]
  refine takeI 9 26 (.pointer (some ⟨p, 35, none⟩)) rfl rfl (by kernel_rfl) (by kernel_rfl) (by kernel_rfl) (fun _ _ _ h => h) (by kernel_rfl) (fun _ => rfl) (fun wz => ?_) ?_
  · go_simp
  try simp only [Act.put, List.setIfInBounds_toArray, List.set_cons_zero, List.set_cons_succ]
  refine takeI 11 28 (un) rfl rfl (by kernel_rfl) (by kernel_rfl) (by kernel_rfl) (fun _ _ _ h => h) (by kernel_rfl) (fun _ => rfl) (fun wz => ?_) ?_
  · rfl
  try simp only [Act.put, List.setIfInBounds_toArray, List.set_cons_zero, List.set_cons_succ]
  refine takeI 12 29 (.slice bo nf vc) rfl rfl (by kernel_rfl) (by kernel_rfl) (by kernel_rfl) (fun _ _ _ h => h) (by kernel_rfl) (fun _ => rfl) (fun wz => ?_) ?_
  · rfl
  try simp only [Act.put, List.setIfInBounds_toArray, List.set_cons_zero, List.set_cons_succ]
  refine wpX.any (s := 13) _ _ _ _ ?_
  refine takeX lets_wide 1 18 (.func (.func 21) #[] #[.pointer (some ⟨Bv, 0, none⟩)]) rfl rfl (by kernel_rfl) (by kernel_rfl) (by kernel_rfl) (by kernel_rfl) (by kernel_rfl) (fun _ _ _ h => h) (by kernel_rfl) (fun wz hz => ?_) ?_
  · have y := HCB.out wz hz; go_simp
  try simp only [Act.put, List.setIfInBounds_toArray, List.set_cons_zero, List.set_cons_succ]
  refine takeX lets_wide 6 23 (.agg X) rfl rfl (by kernel_rfl) (by kernel_rfl) (by kernel_rfl) (by kernel_rfl) (by kernel_rfl) (fun _ _ _ h => h) (by kernel_rfl) (fun wz hz => ?_) ?_
  · exact exec_load24 _ rfl p 0 rfl X HX.out.1 ((HGw.out.1.trans hz).lies HLX.out.1)
  try simp only [Act.put, List.setIfInBounds_toArray, List.set_cons_zero, List.set_cons_succ]
  refine takeX lets_wide 10 27 (.agg M) rfl rfl (by kernel_rfl) (by kernel_rfl) (by kernel_rfl) (by kernel_rfl) (by kernel_rfl) (fun _ _ _ h => h) (by kernel_rfl) (fun wz hz => ?_) ?_
  · exact exec_load27 _ rfl p 35 rfl M HX.out.2.1 ((HGw.out.1.trans hz).lies HLX.out.2)
  try simp only [Act.put, List.setIfInBounds_toArray, List.set_cons_zero, List.set_cons_succ]
  refine lastX (by kernel_rfl) fun w9 hg9 => ?_
  refine wpAnyIn_ready (rs := [13]) (by kernel_rfl) (by simp) ?_
  refine callA lets_wide 13 30 21 #[.string q, .agg X, .agg M, un, .slice bo nf vc, .pointer (some ⟨Bv, 0, none⟩)] rfl rfl (by kernel_rfl) (by intro c h; cases h) (by go_simp) ?_
  obtain ⟨hg2, hon, hot, hrc, htt, huu⟩ := HR.out
  have hgq : G W2 w9 := HGw.out.2.2.trans hg9
  have hgw9 : G w w9 := HGw.out.1.trans hg9
  have hon9 : OwnsT w9 (B + 4) un k.flat.nameL := owns_growR hon hgq
  have hot9 := owns_growR hot hgq
  have hfl : ((k.flat.mp (pv ver) noM).blank).len = nf := by rw [blank_len, hnf]
  have hnm : k.flat.nameL.length = nf := by rw [F.nameL_len, hnf]
  have htl : ∀ b, T b → b < w9.heap.size ∧ some b ≠ (Value.slice bo nf vc).ownBlock := fun b hb => by
    obtain ⟨⟨_, o, ho, _⟩, h2⟩ := htt b hb
    have := (Array.getElem?_eq_some_iff.1 ho).1
    have := hgq.size
    exact ⟨by omega, h2⟩
  have CC := clos_any ver q v m un bo nf vc k.flat.nameL ((k.flat.mp (pv ver) noM).blank) xs T (B + 4) Bv w9 (hgw9.cell HT.out.2.1) hnm hfl (by have := HT.out.2.2.1; have := k.flat.len_le_size; omega)
    (fun W hW => OwnsT.has (lo := B + 4) (owns_same hon9 fun g hg => hW.block g (own_obj hon9 hg).2.1 fun e => (huu g e.symm).2 hg)) hot9
    (hrc.keep fun b hb => ⟨Below.block hgq b (by obtain ⟨⟨_, o, ho, _⟩, _⟩ := htt b hb; exact (Array.getElem?_eq_some_iff.1 ho).1), hb⟩) htl
  rw [← HX.out.2.2.1, ← HX.out.2.2.2] at CC
  refine (callsIn_wide.2 CC).mono ?_
  rintro e W3 ⟨xs', rfl, hgr, hot3, hrc3⟩
  refine ⟨_, rfl, ?_⟩
  try simp only [Act.put, List.setIfInBounds_toArray, List.set_cons_zero, List.set_cons_succ]
  have hB1 : B + 1 < w9.heap.size := by
    have h1 := (HGw.out.2.1.trans hg9).size
    have h2 := H1.out.2.2.2
    omega
  have hV9 : Var w9 (B + 1) z30 := H1.out.2.2.1.grow (HGw.out.2.1.trans hg9)
  have hown : ∀ g, (Value.slice bo nf vc).ownBlock = some g → B + 4 ≤ g := fun g hg => (own_obj hot9 hg).1
  have hV3 : Var W3 (B + 1) z30 := (hgr.block (B + 1) hB1 fun e => by have := hown _ e.symm; omega).trans hV9
  obtain ⟨CN, hCN⟩ : ∃ CN, nc ⟨#[]⟩ (pv ver v) Md.zero (.slice bo nf vc) = CN := ⟨_, rfl⟩
  have hco : CN.all (·.oneCell') = true := by rw [← hCN]; exact nc_one _ _ _ _ rfl
  have hcz : CN.size = 41 := by rw [← hCN]; exact nc_size ..
  rw [hCN]
  refine wpAnyIn_ready (rs := [14]) (by kernel_rfl) (by simp) ?_
  refine skipA lets_wide 14 (W3.setRow (B + 1) CN) rfl rfl (by kernel_rfl) (by intro c h; cases h) (exec_store30 _ _ rfl (B + 1) CN z30 rfl rfl _ hV3 hcz z30_size hco) ?_
  try simp only [List.setIfInBounds_toArray, List.set_cons_zero, List.set_cons_succ]
  refine wpAnyIn_done (by kernel_rfl) ?_ _
  have HF := hid (⟨hgr, hot3, hrc3, hV3, hgw9, hcz, hCN, hown, htt⟩ : _ ∧ _ ∧ _ ∧ _ ∧ _ ∧ _ ∧ _ ∧ _ ∧ _)
  clear hgr hot3 hrc3 hV3 hgw9 hcz hCN hown htt CC hV9 hB1 hco htl
  gi_wp2_with fail
  obtain ⟨hgr, hot3, hrc3, hV3, hgw9, hcz, hCN, hown, htt⟩ := HF.out
  have hBw : w.heap.size = B := hB
  have hoth : ∀ b, b ≠ B + 1 → (W3.setRow (B + 1) CN).heap[b]? = W3.heap[b]? := fun b hb => setRow_other _ (B + 1) b _ hb
  have hR : Var (W3.setRow (B + 1) CN) (B + 1) CN := hV3.set
  have hgs := hgr.size
  have hgz := hgw9.size
  have hrf : (k.flat.mp (pv ver) noM).blank.nm k.flat.nameL nf = k.flat.mp (pv ver) noM := by
    rw [← mp_nameL (pv ver) noM k.flat, ← hnf, ← F.mp_len (pv ver) noM k.flat]
    exact F.nm_blank _
  rw [hrf] at hrc3
  have hG3 : G w (W3.setRow (B + 1) CN) := Below.trans (B := w.heap.size) hgw9 ⟨hgr.os, hgr.tape, hgr.output, by simp; omega, fun b hb => by
    rw [hoth b (by omega)]
    exact hgr.block b (by omega) fun e => by have := hown b e.symm; omega⟩
  refine ⟨_, results_cell_row (P := Try.prog) (p := 6) (ty := 30) rfl _ _ (B + 1) 30 CN (0, 0) _ rfl hR under30 rfl (by rw [size30, hcz]), CN, rfl, ⟨_, hCN.symm, ?_⟩, hG3⟩
  have hsp : HasSP W3 (fun b => B + 2 ≤ b ∧ ∃ o : Obj, W3.heap[b]? = some o ∧ o.isCells = true) (.slice bo nf vc) (k.flat.mp (pv ver) noM) := by
    refine RCells.slice (lo := B + 4) (hrc3.keep fun b hb => ⟨rfl, ?_⟩) (by rw [F.mp_len, hnf]; exact hot3) fun g hg => ?_
    · obtain ⟨⟨h1, o, ho, hoc⟩, h2⟩ := htt b hb
      have hs := H1.out.2.2.2
      have hl := (Array.getElem?_eq_some_iff.1 ho).1
      have e1 := Below.block hgq b hl
      have hl9 := hgq.size
      exact ⟨by omega, o, (hgr.block b (by omega) h2).trans (e1.trans ho), hoc⟩
    · obtain ⟨h1, _, cur, h3⟩ := own_obj hot3 hg
      exact ⟨by omega, _, h3, rfl⟩
  refine hsp.keep fun b hb => ?_
  obtain ⟨h8, o, ho, hoc⟩ := hb
  have e := hoth b (by omega)
  exact ⟨e, by omega, o, e.trans ho, hoc⟩
/-- both by one recursion -/
theorem thing_any (ver : Int) : ∀ (Z : Nat) (k : K), k.flat.size < Z → ThingOk ver k
  | 0, _, h => absurd h (Nat.not_lt_zero _)
  | Z + 1, k, h => thing_step ver k (gather_step ver k fun k' hk => thing_any ver Z k' (by omega))
end Go.Proofs.Ytglnpmdigghibaa
namespace Go.Proofs.Ytglnpmdigghibaa
open Go.RowKit Go.Shelf
attribute [local go_sem] Oper.semAt_some

set_option maxRecDepth 100000 in
set_option maxHeartbeats 8000000 in
theorem fold_any (ver : Int) (k : K) (p : Nat) (v : Vd) (m : Md) (Bv : Nat) (w : World) (hT : AtT w p v m k) (hver : w.cell? ⟨Bv, 0, none⟩ = some (.int .i64 ver)) (hnm : namesF k.flat) (hd : 256 * k.flat.depth ≤ 1000000) (hsz : k.flat.size ≤ 100000) :
    Calls Try.prog 20 #[.pointer (some ⟨p, 0, none⟩), fc Bv] w fun e w' => ∃ c', e = .returned (.agg c') ∧ HasNP w' (NewC w w') c' ⟨#[]⟩ (pv ver v) Md.zero (k.flat.mp (pv ver) noM) ∧ G w w' := by
  obtain ⟨B, hB⟩ : ∃ B, w.heap.size = B := ⟨_, rfl⟩
  have C33 : Hid (∀ W, G w W → Calls Try.prog 33 #[.agg #[fc Bv], .string ⟨#[]⟩, .pointer (some ⟨p, 0, none⟩)] W fun e w' => ∃ c', e = .returned (.agg c') ∧ HasNP w' (NewC W w') c' ⟨#[]⟩ (pv ver v) Md.zero (k.flat.mp (pv ver) noM) ∧ G W w') := fun W hg => thing_any ver (k.flat.size + 1) k (Nat.lt_succ_self _) p v m ⟨#[]⟩ Bv W (hT.grow hg) (hg.cell hver) hnm (by show 0 + _ ≤ _; omega) hsz
  clear hT hver hnm hd hsz
  unfold fc at *
  obtain ⟨W1, hW1⟩ : ∃ W1, W1 = (w.alloc (.cells z30 30)).alloc (.cells #[.func (.func 21) #[] #[.pointer (some ⟨Bv, 0, none⟩)]] 79) := ⟨_, rfl⟩
  have H1 : Hid (G w W1 ∧ Var W1 B z30 ∧ W1.heap.size = B + 2) := by
    rw [hW1]
    refine ⟨(G.alloc w (.cells z30 30)).trans (G.alloc _ _), ?_, by rw [World.size_alloc, World.size_alloc, hB]⟩
    have h := Var.new w z30
    rw [hB] at h
    exact h.grow (G.alloc _ _)
  refine (callsIn_wide (n := 3)).1 ?_
  refine callsIn_of_wp_marks Try.func20 rfl trivial (Go.wpIn_mono (Q := RetM Try.f20 _) ?_ RetM.post) rfl
  simp only [Try.ntmps20, List.size_toArray, List.length_cons, List.length_nil, Nat.reduceAdd, Nat.reduceSub, Array.replicate_succ, Array.replicate_zero, List.push_toArray, List.append_toArray, List.nil_append, List.cons_append]
  gi_wp2_with (first
    | ((with_reducible refine wpListIn_execW (.pointer (some ⟨B, 0, none⟩)) (w.alloc (.cells z30 30)) ?_ ?_ ?_ ?_ ?_); rfl; exact exec_alloc30e rfl _ _ hB; (intro c h; cases h); exact fun _ _ => trivial)
    | (refine ⟨trivial, ?_⟩; gi_at_call 33; rw [← hW1]; refine (callsIn_wide.2 (C33.out W1 H1.out.1)).mono ?_; rintro e W3 ⟨c', rfl, hn, hg⟩; have HV : Hid (Var W3 B z30 ∧ c'.size = 41 ∧ c'.all (·.oneCell') = true) := ⟨H1.out.2.1.grow hg, by { obtain ⟨kv, rfl, a2, cap2, rfl, _⟩ := hn; exact ⟨nc_size .., nc_one _ _ _ _ rfl⟩ }⟩; have HN := hid (And.intro hn hg); clear hn hg)
    | ((with_reducible refine wpListIn_skipW (W3.setRow B c') ?_ ?_ ?_ ?_ ?_); rfl; exact exec_store30 _ _ rfl B c' z30 rfl rfl _ HV.out.1 HV.out.2.1 z30_size HV.out.2.2; (intro c h; cases h); exact fun _ _ => trivial))
  obtain ⟨hn, hg⟩ := HN.out
  have hBw : w.heap.size = B := hB
  have hs := hg.size
  have hs1 := H1.out.2.2
  have hoth : ∀ b, b ≠ B → (W3.setRow B c').heap[b]? = W3.heap[b]? := fun b hb => setRow_other _ B b _ hb
  refine ⟨_, results_cell_row (P := Try.prog) (p := 4) (ty := 30) rfl _ _ B 30 c' (0, 0) _ rfl HV.out.1.set under30 rfl (by rw [size30, HV.out.2.1]), c', rfl, ?_, Below.trans (B := w.heap.size) (H1.out.1.trans hg) ⟨rfl, rfl, rfl, by simp, fun b hb => hoth b (by omega)⟩⟩
  obtain ⟨kv, hkv, hk⟩ := hn
  refine ⟨kv, hkv, hk.keep fun b hb => ?_⟩
  obtain ⟨h8, o, ho, hoc⟩ := hb
  have e := hoth b (by omega)
  exact ⟨e, by omega, o, e.trans ho, hoc⟩
end Go.Proofs.Ytglnpmdigghibaa
