/-
  twineref6.Project and twineref7.Project by contract.
-/
import Derived.Test.YtglnpmdigghibaaCopyO
import Derived.Test.YtglnpmdigghibaaMapP
import Derived.Test.YtglnpmdigghibaaLast
import Derived.Test.YtglnpmdigghibaaPlainN
namespace Go.Proofs.Ytglnpmdigghibaa
open Go.RowKit

theorem owns_keep {w w' : World} {lo e size n : Nat} {v : Value} {xs : List Value} (h : w.ownsRow lo e size v n xs) (hb : ∀ b, lo ≤ b → w'.heap[b]? = w.heap[b]?) : w'.ownsRow lo e size v n xs := by
  obtain ⟨r1, r2 | ⟨g, cp, cur, rv, rb, rh, rr⟩⟩ := h
  · exact ⟨r1, .inl r2⟩
  · exact ⟨r1, .inr ⟨g, cp, cur, rv, rb, (hb g rb).trans rh, rr⟩⟩
/-- the loop's beginning -/
theorem MI.start {fv : Vd → Vd} {fm : Md → Md} {w w2 w3 : World} {B : Nat} {cm : Array Value} {ks : F} {u : Value} {xs : List Value} {T : Nat → Prop} (h2 : Var w2 (B + 1) z30 ∧ G w w2 ∧ B + 2 ≤ w2.heap.size) (ho : w2.ownsRow (B + 2) 30 41 u ks.len xs) (hcs : RCells w2 T ks xs) (hT : ∀ b, T b → B + 2 ≤ b ∧ b < w2.heap.size ∧ some b ≠ u.ownBlock)
    (hwB : w.heap.size = B) (hb : ∀ b, b ≠ B → w3.heap[b]? = w2.heap[b]?) (hs : w3.heap.size = w2.heap.size) (hos : w3.os = w2.os ∧ w3.tape = w2.tape ∧ w3.output = w2.output) (hv : Var w3 B cm) : MI fv fm w B cm ks u w3 0 := by
  refine ⟨Below.trans (B := w.heap.size) h2.2.1 ⟨hos.1, hos.2.1, hos.2.2, by omega, fun b hb' => hb b (by omega)⟩, hv, (hb _ (by omega)).trans h2.1, by omega, [], xs, T, ?_, ?_, ?_, by simp, fun b hb' => by rw [hs]; exact hT b hb'⟩
  · exact owns_keep ho fun b hb' => hb b (by omega)
  · rw [F.take_zero]; rfl
  · rw [F.drop_zero]; exact hcs.keep fun b hb' => ⟨hb b (by have := (hT b hb').1; omega), hb'⟩
/-- a value with no known mode -/
def unkV (v : Vd) : Vd := if v.kind = 3 then v else { v with mode := 8 }
theorem nc_mset (nm : ByteArray) (v : Vd) (m : Md) (kv : Value) (x : Int) : (nc nm v m kv).setIfInBounds 2 (.int .i64 x) = nc nm { v with mode := x } m kv := by
  simp [nc, vx]
theorem nc_kind (nm : ByteArray) (v : Vd) (m : Md) (kv : Value) : (nc nm v m kv)[1]? = some (.int .i64 v.kind) := by simp [nc, vx]
theorem nc_mode (nm : ByteArray) (v : Vd) (m : Md) (kv : Value) : (nc nm v m kv)[2]? = some (.int .i64 v.mode) := by simp [nc, vx]
/-- marks that are none -/
def noM (_ : Md) : Md := Md.zero
theorem nc_marks_set (w : World) {B : Nat} {nm : ByteArray} {v : Vd} {m : Md} {kv : Value} (h : Var w B (nc nm v m kv)) : Var (w.setCells B 36 (mx Md.zero)) B (nc nm v Md.zero kv) := by
  obtain ⟨n0, s0, n1, s1⟩ := m
  have h1 := (((h.setCell 36 (.int .i64 0)).setCell 37 (.int .i64 0)).setCell 38 (.int .i64 0)).setCell 39 (.int .i64 0)
  have e : ((((nc nm v ⟨n0, s0, n1, s1⟩ kv).setIfInBounds 36 (.int .i64 0)).setIfInBounds 37 (.int .i64 0)).setIfInBounds 38 (.int .i64 0)).setIfInBounds 39 (.int .i64 0) = nc nm v Md.zero kv := by
    have hl : (vx v).length = 35 := vx_len v
    simp only [nc, List.setIfInBounds_toArray, List.set_cons_succ]
    rw [List.set_append_right _ _ (by omega), hl, List.set_append_right _ _ (by omega), hl, List.set_append_right _ _ (by omega), hl, List.set_append_right _ _ (by omega), hl]
    simp [mx, Md.zero]
  rw [e] at h1
  exact h1
theorem build27z (w : World) : (Instr.build 27 #[]).run Try.prog w = .ok (.agg (mx Md.zero).toArray) w := by
  refine run_build w 27 _ _ ?_
  kernel_rfl
theorem exec_store27m {o : Oper} {a : Act} (x y : Operand) (ho : o.op = .store 27 x y) (g f : Nat) (c : Array Value) (hx : a.eval x = .pointer (some ⟨g, f, none⟩)) (hy : a.eval y = .agg c) (w : World) (ht : w.there g f 4)
    (hs : c.size = 4) (h1 : c.all (·.oneCell') = true) : (execOp a.eval o).run Try.prog w = .ok .skip (w.setCells g f c.toList) := by
  unfold execOp
  simp only [ho, hx, hy, Sem.run_bind, Sem.run_pure, Result.andThen_ok, run_storeAt_mid (P := Try.prog) w g f 27 c (by rw [hs]; exact ht) (by rw [size27, hs]) h1]
/-- all but block B is as it was -/
def OB (B : Nat) (w w' : World) : Prop := w'.heap.size = w.heap.size ∧ (∀ b, b ≠ B → w'.heap[b]? = w.heap[b]?) ∧ w'.os = w.os ∧ w'.tape = w.tape ∧ w'.output = w.output
theorem OB.trans {B : Nat} {a b c : World} (h : OB B a b) (k : OB B b c) : OB B a c := ⟨k.1.trans h.1, fun i hi => (k.2.1 i hi).trans (h.2.1 i hi), k.2.2.1.trans h.2.2.1, k.2.2.2.1.trans h.2.2.2.1, k.2.2.2.2.trans h.2.2.2.2⟩
theorem OB.setRow (w : World) (B : Nat) (c : Array Value) : OB B w (w.setRow B c) := ⟨by simp, fun b hb => setRow_other _ B b _ hb, rfl, rfl, rfl⟩
theorem OB.setCell (w : World) (B i : Nat) (v : Value) : OB B w (w.setCell ⟨B, i, none⟩ v) := ⟨by simp, fun b hb => Below.heap_setCell _ _ _ _ hb, rfl, rfl, rfl⟩
theorem OB.setCells (B : Nat) : ∀ (vs : List Value) (o : Nat) (w : World), OB B w (w.setCells B o vs)
  | [], _, _ => ⟨rfl, fun _ _ => rfl, rfl, rfl, rfl⟩
  | v :: r, o, w => (OB.setCell w B o v).trans (OB.setCells B r (o + 1) _)
theorem MI.of {fv : Vd → Vd} {fm : Md → Md} {w w2 w3 : World} {B : Nat} {cm : Array Value} {ks : F} {u : Value} {xs : List Value} {T : Nat → Prop} (h2 : Var w2 (B + 1) z30 ∧ G w w2 ∧ B + 2 ≤ w2.heap.size) (ho : w2.ownsRow (B + 2) 30 41 u ks.len xs) (hcs : RCells w2 T ks xs) (hT : ∀ b, T b → B + 2 ≤ b ∧ b < w2.heap.size ∧ some b ≠ u.ownBlock)
    (hwB : w.heap.size = B) (hob : OB B w2 w3) (hv : Var w3 B cm) : MI fv fm w B cm ks u w3 0 := MI.start h2 ho hcs hT hwB hob.2.1 hob.1 hob.2.2 hv
/-- what a version tells of a value, and of marks -/
def pv (ver : Int) (v : Vd) : Vd := if ver = 1 then unkV v else v
def pm (ver : Int) (m : Md) : Md := if ver = 1 ∨ ver = 2 then Md.zero else m

def ProjOk (ver : Int) (ks : F) : Prop := ∀ (nm : ByteArray) (v : Vd) (m : Md) (c : Array Value) (w : World), HasN w c nm v m ks → ks.weight ≤ 100000 →
    Calls Try.prog 24 #[.agg c, .int .i64 ver] w fun e w' => ∃ c', e = .returned (.agg c') ∧ HasNP w' (New w w') c' nm (pv ver v) (pm ver m) (ks.mp (pv ver) (pm ver)) ∧ G w w'
set_option maxRecDepth 100000 in
set_option maxHeartbeats 4000000 in
theorem proj_any (ver : Int) : ∀ (Z : Nat) (ks : F), ks.size < Z → ProjOk ver ks := by
  intro Z
  induction Z with
  | zero => intro f h; omega
  | succ Z ih =>
    intro ks hZ nm v m c w hNN hw
    obtain ⟨N, hN⟩ : ∃ N, ks.len = N := ⟨_, rfl⟩
    have hN2 : N ≤ 100000 := by have := ks.len_le_size; have := F.size_le_weight ks; omega
    have hsz : c.size = 41 := by obtain ⟨_, rfl, _⟩ := hNN; exact nc_size ..
    have hV0 := Var.new w c
    have hV1 := hV0.grow (G.alloc (w.alloc (.cells c 30)) (.cells z30 30))
    have hV2 := Var.new (w.alloc (.cells c 30)) z30
    rw [World.size_alloc] at hV2
    have hG1 : G w ((w.alloc (.cells c 30)).alloc (.cells z30 30)) := (G.alloc _ _).trans (G.alloc _ _)
    have hS1 : ((w.alloc (.cells c 30)).alloc (.cells z30 30)).heap.size = w.heap.size + 2 := by simp
    have H1 := hid (⟨hV1, hV2, hG1, hNN.below hG1, hS1⟩ : Var _ w.heap.size c ∧ Var _ (w.heap.size + 1) z30 ∧ G w ((w.alloc (.cells c 30)).alloc (.cells z30 30)) ∧ HasN ((w.alloc (.cells c 30)).alloc (.cells z30 30)) c nm v m ks ∧ ((w.alloc (.cells c 30)).alloc (.cells z30 30)).heap.size = w.heap.size + 2)
    have HS : Hid (ks.len = N ∧ ks.size < Z + 1 ∧ ks.weight ≤ 100000) := ⟨hN, hZ, hw⟩
    obtain ⟨fv, hfv⟩ : ∃ f, pv ver = f := ⟨_, rfl⟩
    obtain ⟨fm, hfm⟩ : ∃ f, pm ver = f := ⟨_, rfl⟩
    have HIH : Hid (∀ ks : F, ks.size < Z → ∀ (nm : ByteArray) (v : Vd) (m : Md) (c : Array Value) (w : World), HasN w c nm v m ks → ks.weight ≤ 100000 →
        Calls Try.prog 24 #[.agg c, .int .i64 ver] w fun e w' => ∃ c', e = .returned (.agg c') ∧ HasNP w' (New w w') c' nm (fv v) (fm m) (ks.mp fv fm) ∧ G w w') := by
      rw [← hfv, ← hfm]; exact ih
    rw [hfv, hfm]
    have HFV := hid (⟨hfv, hfm⟩ : pv ver = fv ∧ pm ver = fm)
    clear hNN hN hZ hw ih hV0 hV1 hV2 hG1 hS1 hfv hfm
    go_enter Try.func24, Try.ntmps24
    go_upto_region 1 with (with_reducible refine wpList_execW (.pointer (some ⟨(w.alloc (.cells c 30)).heap.size, 0, none⟩)) ((w.alloc (.cells c 30)).alloc (.cells z30 30)) ?_ ?_ ?_; exact exec_alloc30 rfl _; kernel_rfl)
    try simp only [Act.put, List.setIfInBounds_toArray, List.set_cons_zero, List.set_cons_succ, World.size_alloc]
    generalize (w.alloc (.cells c 30)).alloc (.cells z30 30) = w1 at *
    obtain ⟨B, hB⟩ : ∃ B, w.heap.size = B := ⟨_, rfl⟩
    rw [hB] at H1 ⊢
    have HB : Hid (w.heap.size = B) := hB
    clear hB
    have CO := copyO_any ks nm v m c w1 H1.out.2.2.2.1 HS.out.2.2
    go_wp2_with ((with_reducible refine wpList_exec (.agg c) ?_ ?_ ?_); exact exec_load30 _ rfl B 0 rfl c hsz H1.out.1.lies; kernel_rfl)
    refine CO.mono ?_
    rintro e w2 ⟨c2, rfl, ⟨u, xs, T, hc2, ho, hcs, hT⟩, hg2⟩
    obtain ⟨a, cap, rfl⟩ : ∃ a cap, u = .slice a N cap := by
      rw [HS.out.1] at ho
      obtain ⟨_, ⟨e, e2⟩ | ⟨g, cp, cur, hv, _⟩⟩ := ho
      · exact ⟨none, 0, by rw [e, e2]⟩
      · exact ⟨_, _, hv⟩
    have hs2 : c2.size = 41 ∧ c2.all (·.oneCell') = true := by rw [hc2]; exact ⟨nc_size .., nc_one _ _ _ _ rfl⟩
    have H2 := hid (⟨H1.out.1.grow hg2, H1.out.2.1.grow hg2, H1.out.2.2.1.trans hg2, by have := hg2.size; have := H1.out.2.2.2.2; omega⟩ : Var w2 B c ∧ Var w2 (B + 1) z30 ∧ G w w2 ∧ B + 2 ≤ w2.heap.size)
    have HO := hid (⟨hc2, by rw [← H1.out.2.2.2.2]; exact ho, hcs, fun b hb => by have h := hT b hb; have := H1.out.2.2.2.2; exact ⟨by omega, h.2⟩⟩ : c2 = nc nm v m (.slice a N cap) ∧ w2.ownsRow (B + 2) 30 41 (.slice a N cap) ks.len xs ∧ RCells w2 T ks xs ∧ ∀ b, T b → B + 2 ≤ b ∧ b < w2.heap.size ∧ some b ≠ (Value.slice a N cap).ownBlock)
    clear CO hc2 ho hcs hT hg2 H1
    go_upto_region 2 with ((with_reducible refine wpList_skipW (w2.setRow B c2) ?_ ?_ ?_); exact exec_store30 _ _ rfl B _ c rfl rfl _ H2.out.1 hs2.1 hsz hs2.2; kernel_rfl)
    have hVS : Var (w2.setRow B c2) B (nc nm v m (.slice a N cap)) := by have h := H2.out.1.set (c := c2); rw [HO.out.1] at h ⊢; exact h
    have HOB := hid (OB.setRow w2 B c2)
    have HVS := hid hVS
    generalize w2.setRow B c2 = wS at *
    obtain ⟨kd, hkd⟩ : ∃ kd, v.kind = kd := ⟨_, rfl⟩
    have HK := hid hkd
    have hk1 := lies_cell hVS.lies 1 (.int .i64 kd) (by rw [← hkd]; exact nc_kind ..)
    have hk2 := lies_cell hVS.lies 2 (.int .i64 v.mode) (nc_mode ..)
    have hfz : wS.frozen? ⟨B, 2, none⟩ = false := var_frozen hVS 2
    clear hkd hVS
    by_cases h1 : ver = 1
    · by_cases h3 : kd = 3
      · have HH1 := hid h1
        have HH3 := hid h3
        have b1 : (ver == 1) = true := by simp [h1]
        have b3 : (kd != 3) = false := by simp [h3]
        clear h1 h3
        obtain ⟨v1, hv1⟩ : ∃ v1 : Vd, v = v1 := ⟨_, rfl⟩
        have HVA : Hid (Var wS B (nc nm v1 m (.slice a N cap))) := by rw [← hv1]; exact HVS.out
        have HOA := hid HOB.out
        have HV1 : Hid (fv v = v1) := by
          show _ = _
          rw [← HFV.out.1, ← hv1]
          unfold pv
          rw [if_pos HH1.out]
          unfold unkV
          rw [if_pos (by rw [HK.out]; exact HH3.out)]
        clear hv1
        go_upto_region 4 with fail
        clear hk1 hk2 hfz
        have hth : wS.there B 36 4 := fun j hj => ⟨by
          have hl := HVA.out.lies (36 + j) ((nc nm v1 m (.slice a N cap))[36 + j]'(by rw [nc_size]; omega)) (by simp)
          rw [show 0 + (36 + j) = 36 + j by omega] at hl
          rw [hl]; rfl, var_frozen HVA.out _⟩
        have hVB := nc_marks_set wS HVA.out
        have hOB := HOA.out.trans (OB.setCells B (mx Md.zero) 36 wS)
        obtain ⟨ZL, hZL⟩ : ∃ ZL, mx Md.zero = ZL := ⟨_, rfl⟩
        rw [hZL] at hVB hOB
        have HZ := hid hZL
        have HVB := hid hVB
        have HOB2 := hid hOB
        clear hZL hVB hOB
        go_upto_region 6 with ((with_reducible refine wpList_skipW (wS.setCells B 36 ZL) ?_ ?_ ?_); exact (by rw [← HZ.out]; exact exec_store27m _ _ rfl B 36 (mx Md.zero).toArray rfl rfl _ hth rfl (by kernel_rfl)); kernel_rfl)
        generalize wS.setCells B 36 ZL = w3 at *
        clear hth
        have hM : MI fv fm w B (nc nm (fv v) (fm m) (.slice a N cap)) ks (.slice a N cap) w3 0 := by
          refine MI.of H2.out.2 HO.out.2.1 HO.out.2.2.1 HO.out.2.2.2 HB.out HOB2.out ?_
          rw [show fv v = v1 from HV1.out, show fm m = Md.zero from by rw [← HFV.out.2]; unfold pm; rw [if_pos (.inl HH1.out)]]
          exact HVB.out
        have c40 := lies_cell hM.2.1.lies 40 (.slice a N cap) (nc_kids ..)
        obtain ⟨cm, hcmE⟩ : ∃ cm, nc nm (fv v) (fm m) (.slice a N cap) = cm := ⟨_, rfl⟩
        rw [hcmE] at hM
        have HC := hid hcmE.symm
        have HMI := hid hM
        clear hM hcmE HO H2 HVA HVB HOA HOB HOB2 HVS
        go_wp2_with fail
        go_loopw [5] (fun i wr => ∃ k : Nat, i = .int .i64 k ∧ k ≤ N ∧ wr.cell? ⟨B, 40, none⟩ = some (.slice a N cap) ∧ Hid (MI fv fm w B cm ks (.slice a N cap) wr k)) (fun i _ => N - iOf i)
        case atStart => exact ⟨0, rfl, Nat.zero_le _, c40, HMI.out⟩
        case round =>
          clear c40 HMI
          obtain ⟨k, rfl, hk, q40, HI⟩ := hrel
          by_cases hlt : k < N
          · have hltI : (k : Int) < (N : Int) := by omega
            obtain ⟨nm1, v1, m1, ks1, hd1⟩ := F.drop_more ks k (by rw [HS.out.1]; exact hlt)
            obtain ⟨g, rfl⟩ : ∃ g, a = some ⟨g, 0, none⟩ := by
              obtain ⟨_, _, _, _, ys, zs, T, ho, _⟩ := HI.out
              rw [HS.out.1, show N = (N - 1) + 1 by omega] at ho
              obtain ⟨g, cp, e⟩ := row_form ho
              injection e with e1
              exact ⟨g, e1⟩
            obtain ⟨c1, hl1, hs1, hn1⟩ := HI.out.at hd1
            have hksz := F.kids_size hd1
            have hwt : ks1.weight ≤ 100000 := by
              have h1 := HS.out.2.2
              have h2 := congrArg F.weight (F.app_take_drop ks k)
              rw [F.app_weight, hd1, F.weight] at h2
              omega
            have CC := hid (fun W (hW : G wr W) => HIH.out ks1 (by have := HS.out.2.1; omega) nm1 v1 m1 c1 W (hn1.below hW) hwt)
            have HL := hid (⟨hl1, hs1⟩ : Lies wr g (k * 41) c1 ∧ c1.size = 41)
            have HD : Hid (ks.drop k = .cons nm1 v1 m1 ks1 (ks.drop (k + 1))) := hd1
            clear hd1 hl1 hs1 hn1 hksz hwt
            go_upto_region 9 with fail
            refine wp_region_S 11 ?_
            replace q40 := (G.drew wr).cell q40
            have HW := hid (G.drew wr)
            replace HL := hid (⟨HL.out.1.below (G.drew wr), HL.out.2⟩ : Lies wr.drew g (k * 41) c1 ∧ c1.size = 41)
            generalize wr.drew = wd at *
            refine takeS 0 33 (.pointer (some ⟨B, 40, none⟩)) rfl rfl (by kernel_rfl) (by kernel_rfl) (by kernel_rfl) (by kernel_rfl) (fun _ _ _ h => h) (by kernel_rfl) (fun wz hz => ?_) ?_
            · go_simp
            try simp only [Act.put, List.setIfInBounds_toArray, List.set_cons_zero, List.set_cons_succ]
            refine takeS 1 34 (.slice (some ⟨g, 0, none⟩) N cap) rfl rfl (by kernel_rfl) (by kernel_rfl) (by kernel_rfl) (by kernel_rfl) (fun _ _ _ h => h) (by kernel_rfl) (fun wz hz => ?_) ?_
            · have y0 := hz.cell q40; go_simp
            try simp only [Act.put, List.setIfInBounds_toArray, List.set_cons_zero, List.set_cons_succ]
            refine takeS 2 35 (.int .i64 k) rfl rfl (by kernel_rfl) (by kernel_rfl) (by kernel_rfl) (by kernel_rfl) (fun _ _ _ h => h) (by kernel_rfl) (fun wz hz => ?_) ?_
            · rfl
            try simp only [Act.put, List.setIfInBounds_toArray, List.set_cons_zero, List.set_cons_succ]
            refine takeS 3 36 (.pointer (some ⟨B, 40, none⟩)) rfl rfl (by kernel_rfl) (by kernel_rfl) (by kernel_rfl) (by kernel_rfl) (fun _ _ _ h => h) (by kernel_rfl) (fun wz hz => ?_) ?_
            · go_simp
            try simp only [Act.put, List.setIfInBounds_toArray, List.set_cons_zero, List.set_cons_succ]
            refine takeS 4 37 (.slice (some ⟨g, 0, none⟩) N cap) rfl rfl (by kernel_rfl) (by kernel_rfl) (by kernel_rfl) (by kernel_rfl) (fun _ _ _ h => h) (by kernel_rfl) (fun wz hz => ?_) ?_
            · have y0 := hz.cell q40; go_simp
            try simp only [Act.put, List.setIfInBounds_toArray, List.set_cons_zero, List.set_cons_succ]
            refine takeS 5 38 (.int .i64 k) rfl rfl (by kernel_rfl) (by kernel_rfl) (by kernel_rfl) (by kernel_rfl) (fun _ _ _ h => h) (by kernel_rfl) (fun wz hz => ?_) ?_
            · rfl
            try simp only [Act.put, List.setIfInBounds_toArray, List.set_cons_zero, List.set_cons_succ]
            refine takeS 6 39 (.pointer (some ⟨g, k * 41, none⟩)) rfl rfl (by kernel_rfl) (by kernel_rfl) (by kernel_rfl) (by kernel_rfl) (fun _ _ _ h => h) (by kernel_rfl) (fun wz hz => ?_) ?_
            · go_simp
            try simp only [Act.put, List.setIfInBounds_toArray, List.set_cons_zero, List.set_cons_succ]
            refine takeS 7 40 (.agg c1) rfl rfl (by kernel_rfl) (by kernel_rfl) (by kernel_rfl) (by kernel_rfl) (fun _ _ _ h => h) (by kernel_rfl) (fun wz hz => ?_) ?_
            · exact exec_load30 _ rfl g (k * 41) rfl c1 HL.out.2 (HL.out.1.below hz)
            try simp only [Act.put, List.setIfInBounds_toArray, List.set_cons_zero, List.set_cons_succ]
            refine takeS 8 41 (.int .i64 ver) rfl rfl (by kernel_rfl) (by kernel_rfl) (by kernel_rfl) (by kernel_rfl) (fun _ _ _ h => h) (by kernel_rfl) (fun wz hz => ?_) ?_
            · rfl
            try simp only [Act.put, List.setIfInBounds_toArray, List.set_cons_zero, List.set_cons_succ]
            refine nextS 9 42 24 #[.agg c1, .int .i64 ver] rfl rfl (by decide) (by kernel_rfl) (by kernel_rfl) (fun wz => by go_simp) (fun w5 hg5 => ?_)
            refine (CC.out w5 (HW.out.trans hg5)).mono ?_
            rintro e w6 ⟨c6, rfl, hn6, hg6⟩
            refine ⟨_, rfl, hg6, ?_⟩
            try simp only [Act.put, List.setIfInBounds_toArray, List.set_cons_zero, List.set_cons_succ]
            have hs6 : c6.size = 41 ∧ c6.all (·.oneCell') = true := by
              obtain ⟨kv2, rfl, hk2⟩ := hn6
              obtain ⟨a2, cap2, rfl, _⟩ := hk2
              exact ⟨nc_size .., nc_one _ _ _ _ rfl⟩
            refine takeS 10 43 (.pointer (some ⟨g, k * 41, none⟩)) rfl rfl (by kernel_rfl) (by kernel_rfl) (by kernel_rfl) (by kernel_rfl) (fun _ _ _ h => h) (by kernel_rfl) (fun wz hz => ?_) ?_
            · go_simp
            try simp only [Act.put, List.setIfInBounds_toArray, List.set_cons_zero, List.set_cons_succ]
            refine lastS rfl rfl (by kernel_rfl) (by kernel_rfl) (by kernel_rfl) (fun w7 hg7 => ?_)
            have hst := MI.step HI.out HD.out (HW.out.trans hg5) hn6 hg6 hg7 HB.out HS.out.1
            refine ⟨w7.setCells g (k * 41) c6.toList, exec_store30m _ _ rfl g (k * 41) c6 rfl rfl _ hst.1 hs6.1 hs6.2, ?_⟩
            have HM := hid hst.2
            have z40 := lies_cell hst.2.2.1.lies 40 (.slice (some ⟨g, 0, none⟩) N cap) (by rw [HC.out]; exact nc_kids ..)
            clear hst hn6 hg5 hg6 hg7 CC
            generalize w7.setCells g (k * 41) c6.toList = w8 at *
            go_wp2_with fail
            go_roundw
            case rel => exact ⟨k + 1, by go_num, by omega, z40, HM.out⟩
            case measure => simp; omega
          · have hltI : ¬ (k : Int) < (N : Int) := by omega
            obtain rfl : k = N := by omega
            have HF := hid (⟨(by have := HI.out; rw [← HS.out.1] at this; rw [HS.out.1] at this; exact this), HI.out⟩ : MI fv fm w B cm ks (.slice a k cap) wr k ∧ MI fv fm w B cm ks (.slice a k cap) wr k)
            have hcs : cm.size = 41 := by rw [HC.out]; exact nc_size ..
            have hco : cm.all (·.oneCell') = true := by rw [HC.out]; exact nc_one _ _ _ _ rfl
            clear HI
            go_wp2_with (first
              | ((with_reducible refine wpList_exec (.agg cm) ?_ ?_ ?_); exact exec_load30 _ rfl B 0 rfl _ hcs HF.out.1.2.1.lies; kernel_rfl)
              | ((with_reducible refine wpList_skipW (wr.setRow (B + 1) cm) ?_ ?_ ?_); exact exec_store30 _ _ rfl (B + 1) _ z30 rfl rfl _ HF.out.1.2.2.1 hcs z30_size hco; kernel_rfl))
            refine bodyPost_ret (results_cell_row (P := Try.prog) (p := 4) (ty := 30) rfl _ _ (B + 1) 30 cm (0, 0) _ rfl HF.out.1.2.2.1.set under30 rfl (by rw [size30, hcs])) rfl ?_
            have hsp := MI.fin (fv := fv) (fm := fm) (w := w) (B := B) (c := cm) (ks := ks) (u := .slice a k cap) (wr := wr) (by rw [HS.out.1]; exact HF.out.1)
            have hoth : ∀ b, b ≠ B + 1 → (wr.setRow (B + 1) cm).heap[b]? = wr.heap[b]? := fun b hb => setRow_other _ (B + 1) b _ hb
            have hHB := HB.out
            refine ⟨_, rfl, ⟨_, HC.out, hsp.keep fun b hb => ⟨hoth b (by omega), by omega, by simp; exact hb.2⟩⟩, ?_⟩
            exact Below.trans (B := w.heap.size) HF.out.1.1 ⟨rfl, rfl, rfl, by simp, fun b hb => hoth b (by omega)⟩
      · have HH1 := hid h1
        have HH3 := hid h3
        have b1 : (ver == 1) = true := by simp [h1]
        have b3 : (kd != 3) = true := by simp [h3]
        clear h1 h3
        obtain ⟨v1, hv1⟩ : ∃ v1 : Vd, { v with mode := 8 } = v1 := ⟨_, rfl⟩
        have HVA : Hid (Var (wS.setCell ⟨B, 2, none⟩ (.int .i64 8)) B (nc nm v1 m (.slice a N cap))) := by
          have h := HVS.out.setCell 2 (.int .i64 8)
          rw [nc_mset, hv1] at h
          exact h
        have HOA := hid (HOB.out.trans (OB.setCell wS B 2 (.int .i64 8)))
        have HV1 : Hid (fv v = v1) := by
          show _ = _
          rw [← HFV.out.1, ← hv1]
          unfold pv unkV
          rw [if_pos HH1.out, if_neg (by rw [HK.out]; exact HH3.out)]
        clear hv1
        go_upto_region 4 with fail
        generalize wS.setCell ⟨B, 2, none⟩ (.int .i64 8) = wA at *
        clear hk1 hk2 hfz b3
        have hth : wA.there B 36 4 := fun j hj => ⟨by
          have hl := HVA.out.lies (36 + j) ((nc nm v1 m (.slice a N cap))[36 + j]'(by rw [nc_size]; omega)) (by simp)
          rw [show 0 + (36 + j) = 36 + j by omega] at hl
          rw [hl]; rfl, var_frozen HVA.out _⟩
        have hVB := nc_marks_set wA HVA.out
        have hOB := HOA.out.trans (OB.setCells B (mx Md.zero) 36 wA)
        obtain ⟨ZL, hZL⟩ : ∃ ZL, mx Md.zero = ZL := ⟨_, rfl⟩
        rw [hZL] at hVB hOB
        have HZ := hid hZL
        have HVB := hid hVB
        have HOB2 := hid hOB
        clear hZL hVB hOB
        go_upto_region 6 with ((with_reducible refine wpList_skipW (wA.setCells B 36 ZL) ?_ ?_ ?_); exact (by rw [← HZ.out]; exact exec_store27m _ _ rfl B 36 (mx Md.zero).toArray rfl rfl _ hth rfl (by kernel_rfl)); kernel_rfl)
        generalize wA.setCells B 36 ZL = w3 at *
        clear hth
        have hM : MI fv fm w B (nc nm (fv v) (fm m) (.slice a N cap)) ks (.slice a N cap) w3 0 := by
          refine MI.of H2.out.2 HO.out.2.1 HO.out.2.2.1 HO.out.2.2.2 HB.out HOB2.out ?_
          rw [show fv v = v1 from HV1.out, show fm m = Md.zero from by rw [← HFV.out.2]; unfold pm; rw [if_pos (.inl HH1.out)]]
          exact HVB.out
        have c40 := lies_cell hM.2.1.lies 40 (.slice a N cap) (nc_kids ..)
        obtain ⟨cm, hcmE⟩ : ∃ cm, nc nm (fv v) (fm m) (.slice a N cap) = cm := ⟨_, rfl⟩
        rw [hcmE] at hM
        have HC := hid hcmE.symm
        have HMI := hid hM
        clear hM hcmE HO H2 HVA HVB HOA HOB HOB2 HVS
        go_wp2_with fail
        go_loopw [5] (fun i wr => ∃ k : Nat, i = .int .i64 k ∧ k ≤ N ∧ wr.cell? ⟨B, 40, none⟩ = some (.slice a N cap) ∧ Hid (MI fv fm w B cm ks (.slice a N cap) wr k)) (fun i _ => N - iOf i)
        case atStart => exact ⟨0, rfl, Nat.zero_le _, c40, HMI.out⟩
        case round =>
          clear c40 HMI
          obtain ⟨k, rfl, hk, q40, HI⟩ := hrel
          by_cases hlt : k < N
          · have hltI : (k : Int) < (N : Int) := by omega
            obtain ⟨nm1, v1, m1, ks1, hd1⟩ := F.drop_more ks k (by rw [HS.out.1]; exact hlt)
            obtain ⟨g, rfl⟩ : ∃ g, a = some ⟨g, 0, none⟩ := by
              obtain ⟨_, _, _, _, ys, zs, T, ho, _⟩ := HI.out
              rw [HS.out.1, show N = (N - 1) + 1 by omega] at ho
              obtain ⟨g, cp, e⟩ := row_form ho
              injection e with e1
              exact ⟨g, e1⟩
            obtain ⟨c1, hl1, hs1, hn1⟩ := HI.out.at hd1
            have hksz := F.kids_size hd1
            have hwt : ks1.weight ≤ 100000 := by
              have h1 := HS.out.2.2
              have h2 := congrArg F.weight (F.app_take_drop ks k)
              rw [F.app_weight, hd1, F.weight] at h2
              omega
            have CC := hid (fun W (hW : G wr W) => HIH.out ks1 (by have := HS.out.2.1; omega) nm1 v1 m1 c1 W (hn1.below hW) hwt)
            have HL := hid (⟨hl1, hs1⟩ : Lies wr g (k * 41) c1 ∧ c1.size = 41)
            have HD : Hid (ks.drop k = .cons nm1 v1 m1 ks1 (ks.drop (k + 1))) := hd1
            clear hd1 hl1 hs1 hn1 hksz hwt
            go_upto_region 9 with fail
            refine wp_region_S 11 ?_
            replace q40 := (G.drew wr).cell q40
            have HW := hid (G.drew wr)
            replace HL := hid (⟨HL.out.1.below (G.drew wr), HL.out.2⟩ : Lies wr.drew g (k * 41) c1 ∧ c1.size = 41)
            generalize wr.drew = wd at *
            refine takeS 0 33 (.pointer (some ⟨B, 40, none⟩)) rfl rfl (by kernel_rfl) (by kernel_rfl) (by kernel_rfl) (by kernel_rfl) (fun _ _ _ h => h) (by kernel_rfl) (fun wz hz => ?_) ?_
            · go_simp
            try simp only [Act.put, List.setIfInBounds_toArray, List.set_cons_zero, List.set_cons_succ]
            refine takeS 1 34 (.slice (some ⟨g, 0, none⟩) N cap) rfl rfl (by kernel_rfl) (by kernel_rfl) (by kernel_rfl) (by kernel_rfl) (fun _ _ _ h => h) (by kernel_rfl) (fun wz hz => ?_) ?_
            · have y0 := hz.cell q40; go_simp
            try simp only [Act.put, List.setIfInBounds_toArray, List.set_cons_zero, List.set_cons_succ]
            refine takeS 2 35 (.int .i64 k) rfl rfl (by kernel_rfl) (by kernel_rfl) (by kernel_rfl) (by kernel_rfl) (fun _ _ _ h => h) (by kernel_rfl) (fun wz hz => ?_) ?_
            · rfl
            try simp only [Act.put, List.setIfInBounds_toArray, List.set_cons_zero, List.set_cons_succ]
            refine takeS 3 36 (.pointer (some ⟨B, 40, none⟩)) rfl rfl (by kernel_rfl) (by kernel_rfl) (by kernel_rfl) (by kernel_rfl) (fun _ _ _ h => h) (by kernel_rfl) (fun wz hz => ?_) ?_
            · go_simp
            try simp only [Act.put, List.setIfInBounds_toArray, List.set_cons_zero, List.set_cons_succ]
            refine takeS 4 37 (.slice (some ⟨g, 0, none⟩) N cap) rfl rfl (by kernel_rfl) (by kernel_rfl) (by kernel_rfl) (by kernel_rfl) (fun _ _ _ h => h) (by kernel_rfl) (fun wz hz => ?_) ?_
            · have y0 := hz.cell q40; go_simp
            try simp only [Act.put, List.setIfInBounds_toArray, List.set_cons_zero, List.set_cons_succ]
            refine takeS 5 38 (.int .i64 k) rfl rfl (by kernel_rfl) (by kernel_rfl) (by kernel_rfl) (by kernel_rfl) (fun _ _ _ h => h) (by kernel_rfl) (fun wz hz => ?_) ?_
            · rfl
            try simp only [Act.put, List.setIfInBounds_toArray, List.set_cons_zero, List.set_cons_succ]
            refine takeS 6 39 (.pointer (some ⟨g, k * 41, none⟩)) rfl rfl (by kernel_rfl) (by kernel_rfl) (by kernel_rfl) (by kernel_rfl) (fun _ _ _ h => h) (by kernel_rfl) (fun wz hz => ?_) ?_
            · go_simp
            try simp only [Act.put, List.setIfInBounds_toArray, List.set_cons_zero, List.set_cons_succ]
            refine takeS 7 40 (.agg c1) rfl rfl (by kernel_rfl) (by kernel_rfl) (by kernel_rfl) (by kernel_rfl) (fun _ _ _ h => h) (by kernel_rfl) (fun wz hz => ?_) ?_
            · exact exec_load30 _ rfl g (k * 41) rfl c1 HL.out.2 (HL.out.1.below hz)
            try simp only [Act.put, List.setIfInBounds_toArray, List.set_cons_zero, List.set_cons_succ]
            refine takeS 8 41 (.int .i64 ver) rfl rfl (by kernel_rfl) (by kernel_rfl) (by kernel_rfl) (by kernel_rfl) (fun _ _ _ h => h) (by kernel_rfl) (fun wz hz => ?_) ?_
            · rfl
            try simp only [Act.put, List.setIfInBounds_toArray, List.set_cons_zero, List.set_cons_succ]
            refine nextS 9 42 24 #[.agg c1, .int .i64 ver] rfl rfl (by decide) (by kernel_rfl) (by kernel_rfl) (fun wz => by go_simp) (fun w5 hg5 => ?_)
            refine (CC.out w5 (HW.out.trans hg5)).mono ?_
            rintro e w6 ⟨c6, rfl, hn6, hg6⟩
            refine ⟨_, rfl, hg6, ?_⟩
            try simp only [Act.put, List.setIfInBounds_toArray, List.set_cons_zero, List.set_cons_succ]
            have hs6 : c6.size = 41 ∧ c6.all (·.oneCell') = true := by
              obtain ⟨kv2, rfl, hk2⟩ := hn6
              obtain ⟨a2, cap2, rfl, _⟩ := hk2
              exact ⟨nc_size .., nc_one _ _ _ _ rfl⟩
            refine takeS 10 43 (.pointer (some ⟨g, k * 41, none⟩)) rfl rfl (by kernel_rfl) (by kernel_rfl) (by kernel_rfl) (by kernel_rfl) (fun _ _ _ h => h) (by kernel_rfl) (fun wz hz => ?_) ?_
            · go_simp
            try simp only [Act.put, List.setIfInBounds_toArray, List.set_cons_zero, List.set_cons_succ]
            refine lastS rfl rfl (by kernel_rfl) (by kernel_rfl) (by kernel_rfl) (fun w7 hg7 => ?_)
            have hst := MI.step HI.out HD.out (HW.out.trans hg5) hn6 hg6 hg7 HB.out HS.out.1
            refine ⟨w7.setCells g (k * 41) c6.toList, exec_store30m _ _ rfl g (k * 41) c6 rfl rfl _ hst.1 hs6.1 hs6.2, ?_⟩
            have HM := hid hst.2
            have z40 := lies_cell hst.2.2.1.lies 40 (.slice (some ⟨g, 0, none⟩) N cap) (by rw [HC.out]; exact nc_kids ..)
            clear hst hn6 hg5 hg6 hg7 CC
            generalize w7.setCells g (k * 41) c6.toList = w8 at *
            go_wp2_with fail
            go_roundw
            case rel => exact ⟨k + 1, by go_num, by omega, z40, HM.out⟩
            case measure => simp; omega
          · have hltI : ¬ (k : Int) < (N : Int) := by omega
            obtain rfl : k = N := by omega
            have HF := hid (⟨(by have := HI.out; rw [← HS.out.1] at this; rw [HS.out.1] at this; exact this), HI.out⟩ : MI fv fm w B cm ks (.slice a k cap) wr k ∧ MI fv fm w B cm ks (.slice a k cap) wr k)
            have hcs : cm.size = 41 := by rw [HC.out]; exact nc_size ..
            have hco : cm.all (·.oneCell') = true := by rw [HC.out]; exact nc_one _ _ _ _ rfl
            clear HI
            go_wp2_with (first
              | ((with_reducible refine wpList_exec (.agg cm) ?_ ?_ ?_); exact exec_load30 _ rfl B 0 rfl _ hcs HF.out.1.2.1.lies; kernel_rfl)
              | ((with_reducible refine wpList_skipW (wr.setRow (B + 1) cm) ?_ ?_ ?_); exact exec_store30 _ _ rfl (B + 1) _ z30 rfl rfl _ HF.out.1.2.2.1 hcs z30_size hco; kernel_rfl))
            refine bodyPost_ret (results_cell_row (P := Try.prog) (p := 4) (ty := 30) rfl _ _ (B + 1) 30 cm (0, 0) _ rfl HF.out.1.2.2.1.set under30 rfl (by rw [size30, hcs])) rfl ?_
            have hsp := MI.fin (fv := fv) (fm := fm) (w := w) (B := B) (c := cm) (ks := ks) (u := .slice a k cap) (wr := wr) (by rw [HS.out.1]; exact HF.out.1)
            have hoth : ∀ b, b ≠ B + 1 → (wr.setRow (B + 1) cm).heap[b]? = wr.heap[b]? := fun b hb => setRow_other _ (B + 1) b _ hb
            have hHB := HB.out
            refine ⟨_, rfl, ⟨_, HC.out, hsp.keep fun b hb => ⟨hoth b (by omega), by omega, by simp; exact hb.2⟩⟩, ?_⟩
            exact Below.trans (B := w.heap.size) HF.out.1.1 ⟨rfl, rfl, rfl, by simp, fun b hb => hoth b (by omega)⟩
    · by_cases h2 : ver = 2
      · have HH1 := hid h1
        have HH2 := hid h2
        have b1 : (ver == 1) = false := by simp [h1]
        have b2 : (ver == 2) = true := by simp [h2]
        clear h1 h2
        obtain ⟨v1, hv1⟩ : ∃ v1 : Vd, v = v1 := ⟨_, rfl⟩
        have HVA : Hid (Var wS B (nc nm v1 m (.slice a N cap))) := by rw [← hv1]; exact HVS.out
        have HOA := hid HOB.out
        have HV1 : Hid (fv v = v1) := by
          show _ = _
          rw [← HFV.out.1, ← hv1]
          unfold pv
          rw [if_neg HH1.out]
        clear hv1
        go_upto_region 4 with fail
        clear hk1 hk2 hfz
        have hth : wS.there B 36 4 := fun j hj => ⟨by
          have hl := HVA.out.lies (36 + j) ((nc nm v1 m (.slice a N cap))[36 + j]'(by rw [nc_size]; omega)) (by simp)
          rw [show 0 + (36 + j) = 36 + j by omega] at hl
          rw [hl]; rfl, var_frozen HVA.out _⟩
        have hVB := nc_marks_set wS HVA.out
        have hOB := HOA.out.trans (OB.setCells B (mx Md.zero) 36 wS)
        obtain ⟨ZL, hZL⟩ : ∃ ZL, mx Md.zero = ZL := ⟨_, rfl⟩
        rw [hZL] at hVB hOB
        have HZ := hid hZL
        have HVB := hid hVB
        have HOB2 := hid hOB
        clear hZL hVB hOB
        go_upto_region 6 with ((with_reducible refine wpList_skipW (wS.setCells B 36 ZL) ?_ ?_ ?_); exact (by rw [← HZ.out]; exact exec_store27m _ _ rfl B 36 (mx Md.zero).toArray rfl rfl _ hth rfl (by kernel_rfl)); kernel_rfl)
        generalize wS.setCells B 36 ZL = w3 at *
        clear hth
        have hM : MI fv fm w B (nc nm (fv v) (fm m) (.slice a N cap)) ks (.slice a N cap) w3 0 := by
          refine MI.of H2.out.2 HO.out.2.1 HO.out.2.2.1 HO.out.2.2.2 HB.out HOB2.out ?_
          rw [show fv v = v1 from HV1.out, show fm m = Md.zero from by rw [← HFV.out.2]; unfold pm; rw [if_pos (.inr HH2.out)]]
          exact HVB.out
        have c40 := lies_cell hM.2.1.lies 40 (.slice a N cap) (nc_kids ..)
        obtain ⟨cm, hcmE⟩ : ∃ cm, nc nm (fv v) (fm m) (.slice a N cap) = cm := ⟨_, rfl⟩
        rw [hcmE] at hM
        have HC := hid hcmE.symm
        have HMI := hid hM
        clear hM hcmE HO H2 HVA HVB HOA HOB HOB2 HVS
        go_wp2_with fail
        go_loopw [5] (fun i wr => ∃ k : Nat, i = .int .i64 k ∧ k ≤ N ∧ wr.cell? ⟨B, 40, none⟩ = some (.slice a N cap) ∧ Hid (MI fv fm w B cm ks (.slice a N cap) wr k)) (fun i _ => N - iOf i)
        case atStart => exact ⟨0, rfl, Nat.zero_le _, c40, HMI.out⟩
        case round =>
          clear c40 HMI
          obtain ⟨k, rfl, hk, q40, HI⟩ := hrel
          by_cases hlt : k < N
          · have hltI : (k : Int) < (N : Int) := by omega
            obtain ⟨nm1, v1, m1, ks1, hd1⟩ := F.drop_more ks k (by rw [HS.out.1]; exact hlt)
            obtain ⟨g, rfl⟩ : ∃ g, a = some ⟨g, 0, none⟩ := by
              obtain ⟨_, _, _, _, ys, zs, T, ho, _⟩ := HI.out
              rw [HS.out.1, show N = (N - 1) + 1 by omega] at ho
              obtain ⟨g, cp, e⟩ := row_form ho
              injection e with e1
              exact ⟨g, e1⟩
            obtain ⟨c1, hl1, hs1, hn1⟩ := HI.out.at hd1
            have hksz := F.kids_size hd1
            have hwt : ks1.weight ≤ 100000 := by
              have h1 := HS.out.2.2
              have h2 := congrArg F.weight (F.app_take_drop ks k)
              rw [F.app_weight, hd1, F.weight] at h2
              omega
            have CC := hid (fun W (hW : G wr W) => HIH.out ks1 (by have := HS.out.2.1; omega) nm1 v1 m1 c1 W (hn1.below hW) hwt)
            have HL := hid (⟨hl1, hs1⟩ : Lies wr g (k * 41) c1 ∧ c1.size = 41)
            have HD : Hid (ks.drop k = .cons nm1 v1 m1 ks1 (ks.drop (k + 1))) := hd1
            clear hd1 hl1 hs1 hn1 hksz hwt
            go_upto_region 9 with fail
            refine wp_region_S 11 ?_
            replace q40 := (G.drew wr).cell q40
            have HW := hid (G.drew wr)
            replace HL := hid (⟨HL.out.1.below (G.drew wr), HL.out.2⟩ : Lies wr.drew g (k * 41) c1 ∧ c1.size = 41)
            generalize wr.drew = wd at *
            refine takeS 0 33 (.pointer (some ⟨B, 40, none⟩)) rfl rfl (by kernel_rfl) (by kernel_rfl) (by kernel_rfl) (by kernel_rfl) (fun _ _ _ h => h) (by kernel_rfl) (fun wz hz => ?_) ?_
            · go_simp
            try simp only [Act.put, List.setIfInBounds_toArray, List.set_cons_zero, List.set_cons_succ]
            refine takeS 1 34 (.slice (some ⟨g, 0, none⟩) N cap) rfl rfl (by kernel_rfl) (by kernel_rfl) (by kernel_rfl) (by kernel_rfl) (fun _ _ _ h => h) (by kernel_rfl) (fun wz hz => ?_) ?_
            · have y0 := hz.cell q40; go_simp
            try simp only [Act.put, List.setIfInBounds_toArray, List.set_cons_zero, List.set_cons_succ]
            refine takeS 2 35 (.int .i64 k) rfl rfl (by kernel_rfl) (by kernel_rfl) (by kernel_rfl) (by kernel_rfl) (fun _ _ _ h => h) (by kernel_rfl) (fun wz hz => ?_) ?_
            · rfl
            try simp only [Act.put, List.setIfInBounds_toArray, List.set_cons_zero, List.set_cons_succ]
            refine takeS 3 36 (.pointer (some ⟨B, 40, none⟩)) rfl rfl (by kernel_rfl) (by kernel_rfl) (by kernel_rfl) (by kernel_rfl) (fun _ _ _ h => h) (by kernel_rfl) (fun wz hz => ?_) ?_
            · go_simp
            try simp only [Act.put, List.setIfInBounds_toArray, List.set_cons_zero, List.set_cons_succ]
            refine takeS 4 37 (.slice (some ⟨g, 0, none⟩) N cap) rfl rfl (by kernel_rfl) (by kernel_rfl) (by kernel_rfl) (by kernel_rfl) (fun _ _ _ h => h) (by kernel_rfl) (fun wz hz => ?_) ?_
            · have y0 := hz.cell q40; go_simp
            try simp only [Act.put, List.setIfInBounds_toArray, List.set_cons_zero, List.set_cons_succ]
            refine takeS 5 38 (.int .i64 k) rfl rfl (by kernel_rfl) (by kernel_rfl) (by kernel_rfl) (by kernel_rfl) (fun _ _ _ h => h) (by kernel_rfl) (fun wz hz => ?_) ?_
            · rfl
            try simp only [Act.put, List.setIfInBounds_toArray, List.set_cons_zero, List.set_cons_succ]
            refine takeS 6 39 (.pointer (some ⟨g, k * 41, none⟩)) rfl rfl (by kernel_rfl) (by kernel_rfl) (by kernel_rfl) (by kernel_rfl) (fun _ _ _ h => h) (by kernel_rfl) (fun wz hz => ?_) ?_
            · go_simp
            try simp only [Act.put, List.setIfInBounds_toArray, List.set_cons_zero, List.set_cons_succ]
            refine takeS 7 40 (.agg c1) rfl rfl (by kernel_rfl) (by kernel_rfl) (by kernel_rfl) (by kernel_rfl) (fun _ _ _ h => h) (by kernel_rfl) (fun wz hz => ?_) ?_
            · exact exec_load30 _ rfl g (k * 41) rfl c1 HL.out.2 (HL.out.1.below hz)
            try simp only [Act.put, List.setIfInBounds_toArray, List.set_cons_zero, List.set_cons_succ]
            refine takeS 8 41 (.int .i64 ver) rfl rfl (by kernel_rfl) (by kernel_rfl) (by kernel_rfl) (by kernel_rfl) (fun _ _ _ h => h) (by kernel_rfl) (fun wz hz => ?_) ?_
            · rfl
            try simp only [Act.put, List.setIfInBounds_toArray, List.set_cons_zero, List.set_cons_succ]
            refine nextS 9 42 24 #[.agg c1, .int .i64 ver] rfl rfl (by decide) (by kernel_rfl) (by kernel_rfl) (fun wz => by go_simp) (fun w5 hg5 => ?_)
            refine (CC.out w5 (HW.out.trans hg5)).mono ?_
            rintro e w6 ⟨c6, rfl, hn6, hg6⟩
            refine ⟨_, rfl, hg6, ?_⟩
            try simp only [Act.put, List.setIfInBounds_toArray, List.set_cons_zero, List.set_cons_succ]
            have hs6 : c6.size = 41 ∧ c6.all (·.oneCell') = true := by
              obtain ⟨kv2, rfl, hk2⟩ := hn6
              obtain ⟨a2, cap2, rfl, _⟩ := hk2
              exact ⟨nc_size .., nc_one _ _ _ _ rfl⟩
            refine takeS 10 43 (.pointer (some ⟨g, k * 41, none⟩)) rfl rfl (by kernel_rfl) (by kernel_rfl) (by kernel_rfl) (by kernel_rfl) (fun _ _ _ h => h) (by kernel_rfl) (fun wz hz => ?_) ?_
            · go_simp
            try simp only [Act.put, List.setIfInBounds_toArray, List.set_cons_zero, List.set_cons_succ]
            refine lastS rfl rfl (by kernel_rfl) (by kernel_rfl) (by kernel_rfl) (fun w7 hg7 => ?_)
            have hst := MI.step HI.out HD.out (HW.out.trans hg5) hn6 hg6 hg7 HB.out HS.out.1
            refine ⟨w7.setCells g (k * 41) c6.toList, exec_store30m _ _ rfl g (k * 41) c6 rfl rfl _ hst.1 hs6.1 hs6.2, ?_⟩
            have HM := hid hst.2
            have z40 := lies_cell hst.2.2.1.lies 40 (.slice (some ⟨g, 0, none⟩) N cap) (by rw [HC.out]; exact nc_kids ..)
            clear hst hn6 hg5 hg6 hg7 CC
            generalize w7.setCells g (k * 41) c6.toList = w8 at *
            go_wp2_with fail
            go_roundw
            case rel => exact ⟨k + 1, by go_num, by omega, z40, HM.out⟩
            case measure => simp; omega
          · have hltI : ¬ (k : Int) < (N : Int) := by omega
            obtain rfl : k = N := by omega
            have HF := hid (⟨(by have := HI.out; rw [← HS.out.1] at this; rw [HS.out.1] at this; exact this), HI.out⟩ : MI fv fm w B cm ks (.slice a k cap) wr k ∧ MI fv fm w B cm ks (.slice a k cap) wr k)
            have hcs : cm.size = 41 := by rw [HC.out]; exact nc_size ..
            have hco : cm.all (·.oneCell') = true := by rw [HC.out]; exact nc_one _ _ _ _ rfl
            clear HI
            go_wp2_with (first
              | ((with_reducible refine wpList_exec (.agg cm) ?_ ?_ ?_); exact exec_load30 _ rfl B 0 rfl _ hcs HF.out.1.2.1.lies; kernel_rfl)
              | ((with_reducible refine wpList_skipW (wr.setRow (B + 1) cm) ?_ ?_ ?_); exact exec_store30 _ _ rfl (B + 1) _ z30 rfl rfl _ HF.out.1.2.2.1 hcs z30_size hco; kernel_rfl))
            refine bodyPost_ret (results_cell_row (P := Try.prog) (p := 4) (ty := 30) rfl _ _ (B + 1) 30 cm (0, 0) _ rfl HF.out.1.2.2.1.set under30 rfl (by rw [size30, hcs])) rfl ?_
            have hsp := MI.fin (fv := fv) (fm := fm) (w := w) (B := B) (c := cm) (ks := ks) (u := .slice a k cap) (wr := wr) (by rw [HS.out.1]; exact HF.out.1)
            have hoth : ∀ b, b ≠ B + 1 → (wr.setRow (B + 1) cm).heap[b]? = wr.heap[b]? := fun b hb => setRow_other _ (B + 1) b _ hb
            have hHB := HB.out
            refine ⟨_, rfl, ⟨_, HC.out, hsp.keep fun b hb => ⟨hoth b (by omega), by omega, by simp; exact hb.2⟩⟩, ?_⟩
            exact Below.trans (B := w.heap.size) HF.out.1.1 ⟨rfl, rfl, rfl, by simp, fun b hb => hoth b (by omega)⟩
      · have HH1 := hid h1
        have HH2 := hid h2
        have b1 : (ver == 1) = false := by simp [h1]
        have b2 : (ver == 2) = false := by simp [h2]
        clear h1 h2
        obtain ⟨v1, hv1⟩ : ∃ v1 : Vd, v = v1 := ⟨_, rfl⟩
        have HVA : Hid (Var wS B (nc nm v1 m (.slice a N cap))) := by rw [← hv1]; exact HVS.out
        have HOA := hid HOB.out
        have HV1 : Hid (fv v = v1) := by
          show _ = _
          rw [← HFV.out.1, ← hv1]
          unfold pv
          rw [if_neg HH1.out]
        clear hv1
        go_upto_region 4 with fail
        clear hk1 hk2 hfz
        have HVB := hid HVA.out
        have HOB2 := hid HOA.out
        go_upto_region 6 with fail
        have hM : MI fv fm w B (nc nm (fv v) (fm m) (.slice a N cap)) ks (.slice a N cap) wS 0 := by
          refine MI.of H2.out.2 HO.out.2.1 HO.out.2.2.1 HO.out.2.2.2 HB.out HOB2.out ?_
          rw [show fv v = v1 from HV1.out, show fm m = m from by rw [← HFV.out.2]; unfold pm; rw [if_neg (fun h => h.elim HH1.out HH2.out)]]
          exact HVB.out
        have c40 := lies_cell hM.2.1.lies 40 (.slice a N cap) (nc_kids ..)
        obtain ⟨cm, hcmE⟩ : ∃ cm, nc nm (fv v) (fm m) (.slice a N cap) = cm := ⟨_, rfl⟩
        rw [hcmE] at hM
        have HC := hid hcmE.symm
        have HMI := hid hM
        clear hM hcmE HO H2 HVA HVB HOA HOB HOB2 HVS
        go_wp2_with fail
        go_loopw [5] (fun i wr => ∃ k : Nat, i = .int .i64 k ∧ k ≤ N ∧ wr.cell? ⟨B, 40, none⟩ = some (.slice a N cap) ∧ Hid (MI fv fm w B cm ks (.slice a N cap) wr k)) (fun i _ => N - iOf i)
        case atStart => exact ⟨0, rfl, Nat.zero_le _, c40, HMI.out⟩
        case round =>
          clear c40 HMI
          obtain ⟨k, rfl, hk, q40, HI⟩ := hrel
          by_cases hlt : k < N
          · have hltI : (k : Int) < (N : Int) := by omega
            obtain ⟨nm1, v1, m1, ks1, hd1⟩ := F.drop_more ks k (by rw [HS.out.1]; exact hlt)
            obtain ⟨g, rfl⟩ : ∃ g, a = some ⟨g, 0, none⟩ := by
              obtain ⟨_, _, _, _, ys, zs, T, ho, _⟩ := HI.out
              rw [HS.out.1, show N = (N - 1) + 1 by omega] at ho
              obtain ⟨g, cp, e⟩ := row_form ho
              injection e with e1
              exact ⟨g, e1⟩
            obtain ⟨c1, hl1, hs1, hn1⟩ := HI.out.at hd1
            have hksz := F.kids_size hd1
            have hwt : ks1.weight ≤ 100000 := by
              have h1 := HS.out.2.2
              have h2 := congrArg F.weight (F.app_take_drop ks k)
              rw [F.app_weight, hd1, F.weight] at h2
              omega
            have CC := hid (fun W (hW : G wr W) => HIH.out ks1 (by have := HS.out.2.1; omega) nm1 v1 m1 c1 W (hn1.below hW) hwt)
            have HL := hid (⟨hl1, hs1⟩ : Lies wr g (k * 41) c1 ∧ c1.size = 41)
            have HD : Hid (ks.drop k = .cons nm1 v1 m1 ks1 (ks.drop (k + 1))) := hd1
            clear hd1 hl1 hs1 hn1 hksz hwt
            go_upto_region 9 with fail
            refine wp_region_S 11 ?_
            replace q40 := (G.drew wr).cell q40
            have HW := hid (G.drew wr)
            replace HL := hid (⟨HL.out.1.below (G.drew wr), HL.out.2⟩ : Lies wr.drew g (k * 41) c1 ∧ c1.size = 41)
            generalize wr.drew = wd at *
            refine takeS 0 33 (.pointer (some ⟨B, 40, none⟩)) rfl rfl (by kernel_rfl) (by kernel_rfl) (by kernel_rfl) (by kernel_rfl) (fun _ _ _ h => h) (by kernel_rfl) (fun wz hz => ?_) ?_
            · go_simp
            try simp only [Act.put, List.setIfInBounds_toArray, List.set_cons_zero, List.set_cons_succ]
            refine takeS 1 34 (.slice (some ⟨g, 0, none⟩) N cap) rfl rfl (by kernel_rfl) (by kernel_rfl) (by kernel_rfl) (by kernel_rfl) (fun _ _ _ h => h) (by kernel_rfl) (fun wz hz => ?_) ?_
            · have y0 := hz.cell q40; go_simp
            try simp only [Act.put, List.setIfInBounds_toArray, List.set_cons_zero, List.set_cons_succ]
            refine takeS 2 35 (.int .i64 k) rfl rfl (by kernel_rfl) (by kernel_rfl) (by kernel_rfl) (by kernel_rfl) (fun _ _ _ h => h) (by kernel_rfl) (fun wz hz => ?_) ?_
            · rfl
            try simp only [Act.put, List.setIfInBounds_toArray, List.set_cons_zero, List.set_cons_succ]
            refine takeS 3 36 (.pointer (some ⟨B, 40, none⟩)) rfl rfl (by kernel_rfl) (by kernel_rfl) (by kernel_rfl) (by kernel_rfl) (fun _ _ _ h => h) (by kernel_rfl) (fun wz hz => ?_) ?_
            · go_simp
            try simp only [Act.put, List.setIfInBounds_toArray, List.set_cons_zero, List.set_cons_succ]
            refine takeS 4 37 (.slice (some ⟨g, 0, none⟩) N cap) rfl rfl (by kernel_rfl) (by kernel_rfl) (by kernel_rfl) (by kernel_rfl) (fun _ _ _ h => h) (by kernel_rfl) (fun wz hz => ?_) ?_
            · have y0 := hz.cell q40; go_simp
            try simp only [Act.put, List.setIfInBounds_toArray, List.set_cons_zero, List.set_cons_succ]
            refine takeS 5 38 (.int .i64 k) rfl rfl (by kernel_rfl) (by kernel_rfl) (by kernel_rfl) (by kernel_rfl) (fun _ _ _ h => h) (by kernel_rfl) (fun wz hz => ?_) ?_
            · rfl
            try simp only [Act.put, List.setIfInBounds_toArray, List.set_cons_zero, List.set_cons_succ]
            refine takeS 6 39 (.pointer (some ⟨g, k * 41, none⟩)) rfl rfl (by kernel_rfl) (by kernel_rfl) (by kernel_rfl) (by kernel_rfl) (fun _ _ _ h => h) (by kernel_rfl) (fun wz hz => ?_) ?_
            · go_simp
            try simp only [Act.put, List.setIfInBounds_toArray, List.set_cons_zero, List.set_cons_succ]
            refine takeS 7 40 (.agg c1) rfl rfl (by kernel_rfl) (by kernel_rfl) (by kernel_rfl) (by kernel_rfl) (fun _ _ _ h => h) (by kernel_rfl) (fun wz hz => ?_) ?_
            · exact exec_load30 _ rfl g (k * 41) rfl c1 HL.out.2 (HL.out.1.below hz)
            try simp only [Act.put, List.setIfInBounds_toArray, List.set_cons_zero, List.set_cons_succ]
            refine takeS 8 41 (.int .i64 ver) rfl rfl (by kernel_rfl) (by kernel_rfl) (by kernel_rfl) (by kernel_rfl) (fun _ _ _ h => h) (by kernel_rfl) (fun wz hz => ?_) ?_
            · rfl
            try simp only [Act.put, List.setIfInBounds_toArray, List.set_cons_zero, List.set_cons_succ]
            refine nextS 9 42 24 #[.agg c1, .int .i64 ver] rfl rfl (by decide) (by kernel_rfl) (by kernel_rfl) (fun wz => by go_simp) (fun w5 hg5 => ?_)
            refine (CC.out w5 (HW.out.trans hg5)).mono ?_
            rintro e w6 ⟨c6, rfl, hn6, hg6⟩
            refine ⟨_, rfl, hg6, ?_⟩
            try simp only [Act.put, List.setIfInBounds_toArray, List.set_cons_zero, List.set_cons_succ]
            have hs6 : c6.size = 41 ∧ c6.all (·.oneCell') = true := by
              obtain ⟨kv2, rfl, hk2⟩ := hn6
              obtain ⟨a2, cap2, rfl, _⟩ := hk2
              exact ⟨nc_size .., nc_one _ _ _ _ rfl⟩
            refine takeS 10 43 (.pointer (some ⟨g, k * 41, none⟩)) rfl rfl (by kernel_rfl) (by kernel_rfl) (by kernel_rfl) (by kernel_rfl) (fun _ _ _ h => h) (by kernel_rfl) (fun wz hz => ?_) ?_
            · go_simp
            try simp only [Act.put, List.setIfInBounds_toArray, List.set_cons_zero, List.set_cons_succ]
            refine lastS rfl rfl (by kernel_rfl) (by kernel_rfl) (by kernel_rfl) (fun w7 hg7 => ?_)
            have hst := MI.step HI.out HD.out (HW.out.trans hg5) hn6 hg6 hg7 HB.out HS.out.1
            refine ⟨w7.setCells g (k * 41) c6.toList, exec_store30m _ _ rfl g (k * 41) c6 rfl rfl _ hst.1 hs6.1 hs6.2, ?_⟩
            have HM := hid hst.2
            have z40 := lies_cell hst.2.2.1.lies 40 (.slice (some ⟨g, 0, none⟩) N cap) (by rw [HC.out]; exact nc_kids ..)
            clear hst hn6 hg5 hg6 hg7 CC
            generalize w7.setCells g (k * 41) c6.toList = w8 at *
            go_wp2_with fail
            go_roundw
            case rel => exact ⟨k + 1, by go_num, by omega, z40, HM.out⟩
            case measure => simp; omega
          · have hltI : ¬ (k : Int) < (N : Int) := by omega
            obtain rfl : k = N := by omega
            have HF := hid (⟨(by have := HI.out; rw [← HS.out.1] at this; rw [HS.out.1] at this; exact this), HI.out⟩ : MI fv fm w B cm ks (.slice a k cap) wr k ∧ MI fv fm w B cm ks (.slice a k cap) wr k)
            have hcs : cm.size = 41 := by rw [HC.out]; exact nc_size ..
            have hco : cm.all (·.oneCell') = true := by rw [HC.out]; exact nc_one _ _ _ _ rfl
            clear HI
            go_wp2_with (first
              | ((with_reducible refine wpList_exec (.agg cm) ?_ ?_ ?_); exact exec_load30 _ rfl B 0 rfl _ hcs HF.out.1.2.1.lies; kernel_rfl)
              | ((with_reducible refine wpList_skipW (wr.setRow (B + 1) cm) ?_ ?_ ?_); exact exec_store30 _ _ rfl (B + 1) _ z30 rfl rfl _ HF.out.1.2.2.1 hcs z30_size hco; kernel_rfl))
            refine bodyPost_ret (results_cell_row (P := Try.prog) (p := 4) (ty := 30) rfl _ _ (B + 1) 30 cm (0, 0) _ rfl HF.out.1.2.2.1.set under30 rfl (by rw [size30, hcs])) rfl ?_
            have hsp := MI.fin (fv := fv) (fm := fm) (w := w) (B := B) (c := cm) (ks := ks) (u := .slice a k cap) (wr := wr) (by rw [HS.out.1]; exact HF.out.1)
            have hoth : ∀ b, b ≠ B + 1 → (wr.setRow (B + 1) cm).heap[b]? = wr.heap[b]? := fun b hb => setRow_other _ (B + 1) b _ hb
            have hHB := HB.out
            refine ⟨_, rfl, ⟨_, HC.out, hsp.keep fun b hb => ⟨hoth b (by omega), by omega, by simp; exact hb.2⟩⟩, ?_⟩
            exact Below.trans (B := w.heap.size) HF.out.1.1 ⟨rfl, rfl, rfl, by simp, fun b hb => hoth b (by omega)⟩
set_option maxRecDepth 100000 in
set_option maxHeartbeats 1000000 in
theorem proj7_any (ver : Int) (ks : F) (nm : ByteArray) (v : Vd) (m : Md) (c : Array Value) (w : World) (hN : HasN w c nm v m ks) (hw : ks.weight ≤ 100000) :
    Calls Try.prog 11 #[.agg c, .int .i64 ver] w fun e w' => ∃ c', e = .returned (.agg c') ∧ HasN w' c' nm (pv ver v) (pm ver m) (ks.mp (pv ver) (pm ver)) ∧ G w w' := by
  have hsz : c.size = 41 := by obtain ⟨_, rfl, _⟩ := hN; exact nc_size ..
  have hV1 := (Var.new w c).grow (G.alloc (w.alloc (.cells c 30)) (.cells z30 30))
  have hV2 := Var.new (w.alloc (.cells c 30)) z30
  rw [World.size_alloc] at hV2
  have hG1 : G w ((w.alloc (.cells c 30)).alloc (.cells z30 30)) := (G.alloc _ _).trans (G.alloc _ _)
  have C1 := proj_any ver _ ks (Nat.lt_succ_self _) nm v m c _ (hN.below hG1) hw
  have H1 := hid (⟨hV1, hV2, hG1⟩ : Var _ w.heap.size c ∧ Var _ (w.heap.size + 1) z30 ∧ G w ((w.alloc (.cells c 30)).alloc (.cells z30 30)))
  clear hN hV1 hV2 hG1
  go_enter Try.func11, Try.ntmps11
  go_upto_region 1 with (with_reducible refine wpList_execW (.pointer (some ⟨(w.alloc (.cells c 30)).heap.size, 0, none⟩)) ((w.alloc (.cells c 30)).alloc (.cells z30 30)) ?_ ?_ ?_; exact exec_alloc30 rfl _; kernel_rfl)
  try simp only [Act.put, List.setIfInBounds_toArray, List.set_cons_zero, List.set_cons_succ, World.size_alloc]
  generalize (w.alloc (.cells c 30)).alloc (.cells z30 30) = w1 at *
  obtain ⟨B, hB⟩ : ∃ B, w.heap.size = B := ⟨_, rfl⟩
  rw [hB] at H1 ⊢
  have HB : Hid (w.heap.size = B) := hB
  clear hB
  go_wp2_with ((with_reducible refine wpList_exec (.agg c) ?_ ?_ ?_); exact exec_load30 _ rfl B 0 rfl c hsz H1.out.1.lies; kernel_rfl)
  refine C1.mono ?_
  rintro e w2 ⟨c2, rfl, hn2, hg2⟩
  have hs2 := hn2.facts
  have H2 := hid (⟨H1.out.2.2.trans hg2, H1.out.2.1.grow hg2, hn2, H1.out.2.1.lt⟩ : G w w2 ∧ Var w2 (B + 1) z30 ∧ HasNP w2 (New w1 w2) c2 nm (pv ver v) (pm ver m) (ks.mp (pv ver) (pm ver)) ∧ B + 1 < w1.heap.size)
  clear C1 hn2 hg2 H1
  go_wp2_with ((with_reducible refine wpList_skipW (w2.setRow (B + 1) c2) ?_ ?_ ?_); exact exec_store30 _ _ rfl (B + 1) _ z30 rfl rfl _ H2.out.2.1 hs2.1 z30_size hs2.2; kernel_rfl)
  refine bodyPost_ret (results_cell_row (P := Try.prog) (p := 4) (ty := 30) rfl _ _ (B + 1) 30 c2 (0, 0) _ rfl H2.out.2.1.set under30 rfl (by rw [size30, hs2.1])) rfl ?_
  have hoth : ∀ b, b ≠ B + 1 → (w2.setRow (B + 1) c2).heap[b]? = w2.heap[b]? := fun b hb => setRow_other _ (B + 1) b _ hb
  have hHB := HB.out
  obtain ⟨h1, h2, ⟨kv, hc, hk⟩, h4⟩ := H2.out
  refine ⟨_, rfl, ⟨_, hc, (hk.keep (P' := New w1 w2) fun b hb => ⟨hoth b (by have := hb.1; omega), hb⟩).has⟩, ?_⟩
  exact Below.trans (B := w.heap.size) h1 ⟨rfl, rfl, rfl, by simp, fun b hb => hoth b (by omega)⟩
end Go.Proofs.Ytglnpmdigghibaa
