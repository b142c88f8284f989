/-
  THE ROOM: words, and the kinds of which no list was kept.
-/
import Derived.Test.YtjkbhfkeagfhbaaCopyO
import Derived.Test.YtjkbhfkeagfhbaaMapP
import Derived.Test.YtjkbhfkeagfhbaaCells
import Derived.Test.YtjkbhfkeagfhbaaEq
namespace Go.Proofs.Ytjkbhfkeagfhbaa
open Go.RowKit

theorem owns_keep {w w' : World} {lo e size n : Nat} {v : Value} {xs : List Value} (h : w.ownsRow lo e size v n xs) (hb : ∀ b, lo ≤ b → w'.heap[b]? = w.heap[b]?) : w'.ownsRow lo e size v n xs := by
  obtain ⟨r1, r2 | ⟨g, cp, cur, rv, rb, rh, rr⟩⟩ := h
  · exact ⟨r1, .inl r2⟩
  · exact ⟨r1, .inr ⟨g, cp, cur, rv, rb, (hb g rb).trans rh, rr⟩⟩
/-- the loop's beginning -/
theorem MI.start {fv : Vd → Vd} {fm : Md → Md} {w w2 w3 : World} {B : Nat} {cm : Array Value} {ks : F} {u : Value} {xs : List Value} {T : Nat → Prop} (h2 : Var w2 (B + 1) z30 ∧ G w w2 ∧ B + 2 ≤ w2.heap.size) (ho : w2.ownsRow (B + 2) 30 41 u ks.len xs) (hcs : RCells w2 T ks xs) (hT : ∀ b, T b → B + 2 ≤ b ∧ b < w2.heap.size ∧ some b ≠ u.ownBlock)
    (hwB : w.heap.size = B) (hb : ∀ b, b ≠ B → w3.heap[b]? = w2.heap[b]?) (hs : w3.heap.size = w2.heap.size) (hos : w3.os = w2.os ∧ w3.tape = w2.tape ∧ w3.output = w2.output) (hv : Var w3 B cm) : MI fv fm w B cm ks u w3 0 := by
  refine ⟨Below.trans (B := w.heap.size) h2.2.1 ⟨hos.1, hos.2.1, hos.2.2, by omega, fun b hb' => hb b (by omega)⟩, hv, (hb _ (by omega)).trans h2.1, by omega, [], xs, T, ?_, ?_, ?_, by simp, fun b hb' => by rw [hs]; exact hT b hb'⟩
  · exact owns_keep ho fun b hb' => hb b (by omega)
  · rw [F.take_zero]; rfl
  · rw [F.drop_zero]; exact hcs.keep fun b hb' => ⟨hb b (by have := (hT b hb').1; omega), hb'⟩
/-- a value with no known mode -/
def unkV (v : Vd) : Vd := if v.kind = 3 then v else { v with mode := 8 }
theorem nc_mset (nm : ByteArray) (v : Vd) (m : Md) (kv : Value) (x : Int) : (nc nm v m kv).setIfInBounds 2 (.int .i64 x) = nc nm { v with mode := x } m kv := by
  simp [nc, vx]
theorem nc_kind (nm : ByteArray) (v : Vd) (m : Md) (kv : Value) : (nc nm v m kv)[1]? = some (.int .i64 v.kind) := by simp [nc, vx]
theorem nc_mode (nm : ByteArray) (v : Vd) (m : Md) (kv : Value) : (nc nm v m kv)[2]? = some (.int .i64 v.mode) := by simp [nc, vx]

def UnkOk (ks : F) : Prop := ∀ (nm : ByteArray) (v : Vd) (m : Md) (c : Array Value) (w : World), HasN w c nm v m ks → ks.weight ≤ 100000 →
    Calls Try.prog 29 #[.agg c] w fun e w' => ∃ c', e = .returned (.agg c') ∧ HasNP w' (New w w') c' nm (unkV v) (id m) (ks.mp unkV id) ∧ G w w'
set_option maxRecDepth 100000 in
set_option maxHeartbeats 2000000 in
theorem UnkOk_any : ∀ (Z : Nat) (ks : F), ks.size < Z → UnkOk ks := by
  intro Z
  induction Z with
  | zero => intro f h; omega
  | succ Z ih =>
    intro ks hZ nm v m c w hNN hw
    obtain ⟨N, hN⟩ : ∃ N, ks.len = N := ⟨_, rfl⟩
    have hN2 : N ≤ 100000 := by have := ks.len_le_size; have := F.size_le_weight ks; omega
    have hsz : c.size = 41 := by obtain ⟨_, rfl, _⟩ := hNN; exact nc_size ..
    have hV0 := Var.new w c
    have hV1 := hV0.grow (G.alloc (w.alloc (.cells c 30)) (.cells z30 30))
    have hV2 := Var.new (w.alloc (.cells c 30)) z30
    rw [World.size_alloc] at hV2
    have hG1 : G w ((w.alloc (.cells c 30)).alloc (.cells z30 30)) := (G.alloc _ _).trans (G.alloc _ _)
    have hS1 : ((w.alloc (.cells c 30)).alloc (.cells z30 30)).heap.size = w.heap.size + 2 := by simp
    have H1 := hid (⟨hV1, hV2, hG1, hNN.below hG1, hS1⟩ : Var _ w.heap.size c ∧ Var _ (w.heap.size + 1) z30 ∧ G w ((w.alloc (.cells c 30)).alloc (.cells z30 30)) ∧ HasN ((w.alloc (.cells c 30)).alloc (.cells z30 30)) c nm v m ks ∧ ((w.alloc (.cells c 30)).alloc (.cells z30 30)).heap.size = w.heap.size + 2)
    have HS : Hid (ks.len = N ∧ ks.size < Z + 1 ∧ ks.weight ≤ 100000) := ⟨hN, hZ, hw⟩
    have HIH : Hid (∀ ks : F, ks.size < Z → UnkOk ks) := ih
    clear hNN hN hZ hw ih hV0 hV1 hV2 hG1 hS1
    go_enter Try.func29, Try.ntmps29
    go_upto_region 1 with (with_reducible refine wpList_execW (.pointer (some ⟨(w.alloc (.cells c 30)).heap.size, 0, none⟩)) ((w.alloc (.cells c 30)).alloc (.cells z30 30)) ?_ ?_ ?_; exact exec_alloc30 rfl _; kernel_rfl)
    try simp only [Act.put, List.setIfInBounds_toArray, List.set_cons_zero, List.set_cons_succ, World.size_alloc]
    generalize (w.alloc (.cells c 30)).alloc (.cells z30 30) = w1 at *
    obtain ⟨B, hB⟩ : ∃ B, w.heap.size = B := ⟨_, rfl⟩
    rw [hB] at H1 ⊢
    have HB : Hid (w.heap.size = B) := hB
    clear hB
    have CO := copyO_any ks nm v m c w1 H1.out.2.2.2.1 HS.out.2.2
    go_wp2_with ((with_reducible refine wpList_exec (.agg c) ?_ ?_ ?_); exact exec_load30 _ rfl B 0 rfl c hsz H1.out.1.lies; kernel_rfl)
    refine CO.mono ?_
    rintro e w2 ⟨c2, rfl, ⟨u, xs, T, hc2, ho, hcs, hT⟩, hg2⟩
    obtain ⟨a, cap, rfl⟩ : ∃ a cap, u = .slice a N cap := by
      rw [HS.out.1] at ho
      obtain ⟨_, ⟨e, e2⟩ | ⟨g, cp, cur, hv, _⟩⟩ := ho
      · exact ⟨none, 0, by rw [e, e2]⟩
      · exact ⟨_, _, hv⟩
    have hs2 : c2.size = 41 ∧ c2.all (·.oneCell') = true := by rw [hc2]; exact ⟨nc_size .., nc_one _ _ _ _ rfl⟩
    have H2 := hid (⟨H1.out.1.grow hg2, H1.out.2.1.grow hg2, H1.out.2.2.1.trans hg2, by have := hg2.size; have := H1.out.2.2.2.2; omega⟩ : Var w2 B c ∧ Var w2 (B + 1) z30 ∧ G w w2 ∧ B + 2 ≤ w2.heap.size)
    have HO := hid (⟨hc2, by rw [← H1.out.2.2.2.2]; exact ho, hcs, fun b hb => by have h := hT b hb; have := H1.out.2.2.2.2; exact ⟨by omega, h.2⟩⟩ : c2 = nc nm v m (.slice a N cap) ∧ w2.ownsRow (B + 2) 30 41 (.slice a N cap) ks.len xs ∧ RCells w2 T ks xs ∧ ∀ b, T b → B + 2 ≤ b ∧ b < w2.heap.size ∧ some b ≠ (Value.slice a N cap).ownBlock)
    clear CO hc2 ho hcs hT hg2 H1
    have hV3 : Var (w2.setRow B c2) B c2 := H2.out.1.set
    have hk1 := lies_cell hV3.lies 1 (.int .i64 v.kind) (by rw [HO.out.1]; exact nc_kind ..)
    obtain ⟨kd, hkd⟩ : ∃ kd, v.kind = kd := ⟨_, rfl⟩
    rw [hkd] at hk1
    have HK := hid hkd
    clear hkd
    have hfz : (w2.setRow B c2).frozen? ⟨B, 2, none⟩ = false := var_frozen hV3 2
    have hcm := lies_cell hV3.lies 2 (.int .i64 v.mode) (by rw [HO.out.1]; exact nc_mode ..)
    have HV3 := hid hV3
    clear hV3
    have HE : Hid ((w2.setRow B c2).heap.size = w2.heap.size ∧ ∀ b, b ≠ B → (w2.setRow B c2).heap[b]? = w2.heap[b]?) := ⟨by simp, fun b hb => setRow_other _ B b _ hb⟩
    obtain ⟨w3, hw3, c40, hM⟩ : ∃ w3, (w3 = if kd = 3 then w2.setRow B c2 else (w2.setRow B c2).setCell ⟨B, 2, none⟩ (.int .i64 8)) ∧ w3.cell? ⟨B, 40, none⟩ = some (.slice a N cap) ∧ MI unkV id w B (nc nm (unkV v) m (.slice a N cap)) ks (.slice a N cap) w3 0 := by
      refine ⟨_, rfl, ?_⟩
      have hv : Var (if kd = 3 then w2.setRow B c2 else (w2.setRow B c2).setCell ⟨B, 2, none⟩ (.int .i64 8)) B (nc nm (unkV v) m (.slice a N cap)) := by
        unfold unkV
        rw [← HK.out]
        by_cases h3 : v.kind = 3
        · rw [if_pos h3, if_pos h3, ← HO.out.1]; exact HV3.out
        · rw [if_neg h3, if_neg h3]
          have := HV3.out.setCell 2 (.int .i64 8)
          rw [HO.out.1, nc_mset] at this
          rw [HO.out.1]
          exact this
      refine ⟨lies_cell hv.lies 40 _ (nc_kids ..), MI.start H2.out.2 HO.out.2.1 HO.out.2.2.1 HO.out.2.2.2 HB.out ?_ ?_ ?_ hv⟩
      · intro b hb
        split
        · exact HE.out.2 b hb
        · exact (Below.heap_setCell _ _ _ _ hb).trans (HE.out.2 b hb)
      · split <;> simp
      · split <;> exact ⟨rfl, rfl, rfl⟩
    obtain ⟨cm, hcmE⟩ : ∃ cm, nc nm (unkV v) m (.slice a N cap) = cm := ⟨_, rfl⟩
    rw [hcmE] at hM
    have HC := hid hcmE.symm
    have HMI := hid hM
    clear hM hcmE HO
    go_upto_region 2 with ((with_reducible refine wpList_skipW (w2.setRow B c2) ?_ ?_ ?_); exact exec_store30 _ _ rfl B _ c rfl rfl _ H2.out.1 hs2.1 hsz hs2.2; kernel_rfl)
    generalize w2.setRow B c2 = wS at *
    clear H2 HE HV3
    by_cases h3 : kd = 3
    · rw [if_pos h3] at hw3
      have h3b : (kd != 3) = false := by simp [h3]
      clear h3 hfz hcm
      subst hw3
      go_upto_region 4 with fail
      go_wp2_with fail
      go_loopw [3] (fun i wr => ∃ k : Nat, i = .int .i64 k ∧ k ≤ N ∧ wr.cell? ⟨B, 40, none⟩ = some (.slice a N cap) ∧ Hid (MI unkV id w B cm ks (.slice a N cap) wr k)) (fun i _ => N - iOf i)
      case atStart => exact ⟨0, rfl, Nat.zero_le _, c40, HMI.out⟩
      case round =>
        clear c40 HMI
        obtain ⟨k, rfl, hk, q40, HI⟩ := hrel
        by_cases hlt : k < N
        · have hltI : (k : Int) < (N : Int) := by omega
          obtain ⟨nm1, v1, m1, ks1, hd1⟩ := F.drop_more ks k (by rw [HS.out.1]; exact hlt)
          obtain ⟨g, rfl⟩ : ∃ g, a = some ⟨g, 0, none⟩ := by
            obtain ⟨_, _, _, _, ys, zs, T, ho, _⟩ := HI.out
            rw [HS.out.1, show N = (N - 1) + 1 by omega] at ho
            obtain ⟨g, cp, e⟩ := row_form ho
            injection e with e1
            exact ⟨g, e1⟩
          obtain ⟨c1, hl1, hs1, hn1⟩ := HI.out.at hd1
          have hksz := F.kids_size hd1
          have hwt : ks1.weight ≤ 100000 := by
            have h1 := HS.out.2.2
            have h2 := congrArg F.weight (F.app_take_drop ks k)
            rw [F.app_weight, hd1, F.weight] at h2
            omega
          have CC := hid (fun W (hW : G wr W) => HIH.out ks1 (by have := HS.out.2.1; omega) nm1 v1 m1 c1 W (hn1.below hW) hwt)
          have HL := hid (⟨hl1, hs1⟩ : Lies wr g (k * 41) c1 ∧ c1.size = 41)
          have HD : Hid (ks.drop k = .cons nm1 v1 m1 ks1 (ks.drop (k + 1))) := hd1
          clear hd1 hl1 hs1 hn1 hksz hwt
          go_upto_region 7 with fail
          refine wp_region_S 10 ?_
          replace q40 := (G.drew wr).cell q40
          have HW := hid (G.drew wr)
          replace HL := hid (⟨HL.out.1.below (G.drew wr), HL.out.2⟩ : Lies wr.drew g (k * 41) c1 ∧ c1.size = 41)
          generalize wr.drew = wd at *
          refine takeS 0 19 (.pointer (some ⟨B, 40, none⟩)) rfl rfl (by kernel_rfl) (by kernel_rfl) (by kernel_rfl) (by kernel_rfl) (fun _ _ _ h => h) (by kernel_rfl) (fun wz hz => ?_) ?_
          · go_simp
          try simp only [Act.put, List.setIfInBounds_toArray, List.set_cons_zero, List.set_cons_succ]
          refine takeS 1 20 (.slice (some ⟨g, 0, none⟩) N cap) rfl rfl (by kernel_rfl) (by kernel_rfl) (by kernel_rfl) (by kernel_rfl) (fun _ _ _ h => h) (by kernel_rfl) (fun wz hz => ?_) ?_
          · have y0 := hz.cell q40; go_simp
          try simp only [Act.put, List.setIfInBounds_toArray, List.set_cons_zero, List.set_cons_succ]
          refine takeS 2 21 (.int .i64 k) rfl rfl (by kernel_rfl) (by kernel_rfl) (by kernel_rfl) (by kernel_rfl) (fun _ _ _ h => h) (by kernel_rfl) (fun wz hz => ?_) ?_
          · rfl
          try simp only [Act.put, List.setIfInBounds_toArray, List.set_cons_zero, List.set_cons_succ]
          refine takeS 3 22 (.pointer (some ⟨B, 40, none⟩)) rfl rfl (by kernel_rfl) (by kernel_rfl) (by kernel_rfl) (by kernel_rfl) (fun _ _ _ h => h) (by kernel_rfl) (fun wz hz => ?_) ?_
          · go_simp
          try simp only [Act.put, List.setIfInBounds_toArray, List.set_cons_zero, List.set_cons_succ]
          refine takeS 4 23 (.slice (some ⟨g, 0, none⟩) N cap) rfl rfl (by kernel_rfl) (by kernel_rfl) (by kernel_rfl) (by kernel_rfl) (fun _ _ _ h => h) (by kernel_rfl) (fun wz hz => ?_) ?_
          · have y0 := hz.cell q40; go_simp
          try simp only [Act.put, List.setIfInBounds_toArray, List.set_cons_zero, List.set_cons_succ]
          refine takeS 5 24 (.int .i64 k) rfl rfl (by kernel_rfl) (by kernel_rfl) (by kernel_rfl) (by kernel_rfl) (fun _ _ _ h => h) (by kernel_rfl) (fun wz hz => ?_) ?_
          · rfl
          try simp only [Act.put, List.setIfInBounds_toArray, List.set_cons_zero, List.set_cons_succ]
          refine takeS 6 25 (.pointer (some ⟨g, k * 41, none⟩)) rfl rfl (by kernel_rfl) (by kernel_rfl) (by kernel_rfl) (by kernel_rfl) (fun _ _ _ h => h) (by kernel_rfl) (fun wz hz => ?_) ?_
          · go_simp
          try simp only [Act.put, List.setIfInBounds_toArray, List.set_cons_zero, List.set_cons_succ]
          refine takeS 7 26 (.agg c1) rfl rfl (by kernel_rfl) (by kernel_rfl) (by kernel_rfl) (by kernel_rfl) (fun _ _ _ h => h) (by kernel_rfl) (fun wz hz => ?_) ?_
          · exact exec_load30 _ rfl g (k * 41) rfl c1 HL.out.2 (HL.out.1.below hz)
          try simp only [Act.put, List.setIfInBounds_toArray, List.set_cons_zero, List.set_cons_succ]
          refine nextS 8 27 29 #[.agg c1] rfl rfl (by decide) (by kernel_rfl) (by kernel_rfl) (fun wz => by go_simp) (fun w5 hg5 => ?_)
          refine (CC.out w5 (HW.out.trans hg5)).mono ?_
          rintro e w6 ⟨c6, rfl, hn6, hg6⟩
          refine ⟨_, rfl, hg6, ?_⟩
          try simp only [Act.put, List.setIfInBounds_toArray, List.set_cons_zero, List.set_cons_succ]
          have hs6 : c6.size = 41 ∧ c6.all (·.oneCell') = true := by
            obtain ⟨kv2, rfl, hk2⟩ := hn6
            obtain ⟨a2, cap2, rfl, _⟩ := hk2
            exact ⟨nc_size .., nc_one _ _ _ _ rfl⟩
          refine takeS 9 28 (.pointer (some ⟨g, k * 41, none⟩)) rfl rfl (by kernel_rfl) (by kernel_rfl) (by kernel_rfl) (by kernel_rfl) (fun _ _ _ h => h) (by kernel_rfl) (fun wz hz => ?_) ?_
          · go_simp
          try simp only [Act.put, List.setIfInBounds_toArray, List.set_cons_zero, List.set_cons_succ]
          refine lastS rfl rfl (by kernel_rfl) (by kernel_rfl) (by kernel_rfl) (fun w7 hg7 => ?_)
          have hst := MI.step HI.out HD.out (HW.out.trans hg5) hn6 hg6 hg7 HB.out HS.out.1
          refine ⟨w7.setCells g (k * 41) c6.toList, exec_store30m _ _ rfl g (k * 41) c6 rfl rfl _ hst.1 hs6.1 hs6.2, ?_⟩
          have HM := hid hst.2
          have z40 := lies_cell hst.2.2.1.lies 40 (.slice (some ⟨g, 0, none⟩) N cap) (by rw [HC.out]; exact nc_kids ..)
          clear hst hn6 hg5 hg6 hg7 CC
          generalize w7.setCells g (k * 41) c6.toList = w8 at *
          go_wp2_with fail
          go_roundw
          case rel => exact ⟨k + 1, by go_num, by omega, z40, HM.out⟩
          case measure => simp; omega
        · have hltI : ¬ (k : Int) < (N : Int) := by omega
          obtain rfl : k = N := by omega
          have HF := hid (⟨(by have := HI.out; rw [← HS.out.1] at this; rw [HS.out.1] at this; exact this), HI.out⟩ : MI unkV id w B cm ks (.slice a k cap) wr k ∧ MI unkV id w B cm ks (.slice a k cap) wr k)
          have hcs : cm.size = 41 := by rw [HC.out]; exact nc_size ..
          have hco : cm.all (·.oneCell') = true := by rw [HC.out]; exact nc_one _ _ _ _ rfl
          clear HI
          go_wp2_with (first
            | ((with_reducible refine wpList_exec (.agg cm) ?_ ?_ ?_); exact exec_load30 _ rfl B 0 rfl _ hcs HF.out.1.2.1.lies; kernel_rfl)
            | ((with_reducible refine wpList_skipW (wr.setRow (B + 1) cm) ?_ ?_ ?_); exact exec_store30 _ _ rfl (B + 1) _ z30 rfl rfl _ HF.out.1.2.2.1 hcs z30_size hco; kernel_rfl))
          refine bodyPost_ret (results_cell_row (P := Try.prog) (p := 2) (ty := 30) rfl _ _ (B + 1) 30 cm (0, 0) _ rfl HF.out.1.2.2.1.set under30 rfl (by rw [size30, hcs])) rfl ?_
          have hsp := MI.fin (fv := unkV) (fm := id) (w := w) (B := B) (c := cm) (ks := ks) (u := .slice a k cap) (wr := wr) (by rw [HS.out.1]; exact HF.out.1)
          have hoth : ∀ b, b ≠ B + 1 → (wr.setRow (B + 1) cm).heap[b]? = wr.heap[b]? := fun b hb => setRow_other _ (B + 1) b _ hb
          have hHB := HB.out
          refine ⟨_, rfl, ⟨_, HC.out, hsp.keep fun b hb => ⟨hoth b (by omega), by omega, by simp; exact hb.2⟩⟩, ?_⟩
          exact Below.trans (B := w.heap.size) HF.out.1.1 ⟨rfl, rfl, rfl, by simp, fun b hb => hoth b (by omega)⟩
    · rw [if_neg h3] at hw3
      have h3b : (kd != 3) = true := by simp [h3]
      clear h3
      go_upto_region 4 with fail
      rw [← hw3]
      clear hw3 hk1 hfz hcm
      go_wp2_with fail
      go_loopw [3] (fun i wr => ∃ k : Nat, i = .int .i64 k ∧ k ≤ N ∧ wr.cell? ⟨B, 40, none⟩ = some (.slice a N cap) ∧ Hid (MI unkV id w B cm ks (.slice a N cap) wr k)) (fun i _ => N - iOf i)
      case atStart => exact ⟨0, rfl, Nat.zero_le _, c40, HMI.out⟩
      case round =>
        clear c40 HMI
        obtain ⟨k, rfl, hk, q40, HI⟩ := hrel
        by_cases hlt : k < N
        · have hltI : (k : Int) < (N : Int) := by omega
          obtain ⟨nm1, v1, m1, ks1, hd1⟩ := F.drop_more ks k (by rw [HS.out.1]; exact hlt)
          obtain ⟨g, rfl⟩ : ∃ g, a = some ⟨g, 0, none⟩ := by
            obtain ⟨_, _, _, _, ys, zs, T, ho, _⟩ := HI.out
            rw [HS.out.1, show N = (N - 1) + 1 by omega] at ho
            obtain ⟨g, cp, e⟩ := row_form ho
            injection e with e1
            exact ⟨g, e1⟩
          obtain ⟨c1, hl1, hs1, hn1⟩ := HI.out.at hd1
          have hksz := F.kids_size hd1
          have hwt : ks1.weight ≤ 100000 := by
            have h1 := HS.out.2.2
            have h2 := congrArg F.weight (F.app_take_drop ks k)
            rw [F.app_weight, hd1, F.weight] at h2
            omega
          have CC := hid (fun W (hW : G wr W) => HIH.out ks1 (by have := HS.out.2.1; omega) nm1 v1 m1 c1 W (hn1.below hW) hwt)
          have HL := hid (⟨hl1, hs1⟩ : Lies wr g (k * 41) c1 ∧ c1.size = 41)
          have HD : Hid (ks.drop k = .cons nm1 v1 m1 ks1 (ks.drop (k + 1))) := hd1
          clear hd1 hl1 hs1 hn1 hksz hwt
          go_upto_region 7 with fail
          refine wp_region_S 10 ?_
          replace q40 := (G.drew wr).cell q40
          have HW := hid (G.drew wr)
          replace HL := hid (⟨HL.out.1.below (G.drew wr), HL.out.2⟩ : Lies wr.drew g (k * 41) c1 ∧ c1.size = 41)
          generalize wr.drew = wd at *
          refine takeS 0 19 (.pointer (some ⟨B, 40, none⟩)) rfl rfl (by kernel_rfl) (by kernel_rfl) (by kernel_rfl) (by kernel_rfl) (fun _ _ _ h => h) (by kernel_rfl) (fun wz hz => ?_) ?_
          · go_simp
          try simp only [Act.put, List.setIfInBounds_toArray, List.set_cons_zero, List.set_cons_succ]
          refine takeS 1 20 (.slice (some ⟨g, 0, none⟩) N cap) rfl rfl (by kernel_rfl) (by kernel_rfl) (by kernel_rfl) (by kernel_rfl) (fun _ _ _ h => h) (by kernel_rfl) (fun wz hz => ?_) ?_
          · have y0 := hz.cell q40; go_simp
          try simp only [Act.put, List.setIfInBounds_toArray, List.set_cons_zero, List.set_cons_succ]
          refine takeS 2 21 (.int .i64 k) rfl rfl (by kernel_rfl) (by kernel_rfl) (by kernel_rfl) (by kernel_rfl) (fun _ _ _ h => h) (by kernel_rfl) (fun wz hz => ?_) ?_
          · rfl
          try simp only [Act.put, List.setIfInBounds_toArray, List.set_cons_zero, List.set_cons_succ]
          refine takeS 3 22 (.pointer (some ⟨B, 40, none⟩)) rfl rfl (by kernel_rfl) (by kernel_rfl) (by kernel_rfl) (by kernel_rfl) (fun _ _ _ h => h) (by kernel_rfl) (fun wz hz => ?_) ?_
          · go_simp
          try simp only [Act.put, List.setIfInBounds_toArray, List.set_cons_zero, List.set_cons_succ]
          refine takeS 4 23 (.slice (some ⟨g, 0, none⟩) N cap) rfl rfl (by kernel_rfl) (by kernel_rfl) (by kernel_rfl) (by kernel_rfl) (fun _ _ _ h => h) (by kernel_rfl) (fun wz hz => ?_) ?_
          · have y0 := hz.cell q40; go_simp
          try simp only [Act.put, List.setIfInBounds_toArray, List.set_cons_zero, List.set_cons_succ]
          refine takeS 5 24 (.int .i64 k) rfl rfl (by kernel_rfl) (by kernel_rfl) (by kernel_rfl) (by kernel_rfl) (fun _ _ _ h => h) (by kernel_rfl) (fun wz hz => ?_) ?_
          · rfl
          try simp only [Act.put, List.setIfInBounds_toArray, List.set_cons_zero, List.set_cons_succ]
          refine takeS 6 25 (.pointer (some ⟨g, k * 41, none⟩)) rfl rfl (by kernel_rfl) (by kernel_rfl) (by kernel_rfl) (by kernel_rfl) (fun _ _ _ h => h) (by kernel_rfl) (fun wz hz => ?_) ?_
          · go_simp
          try simp only [Act.put, List.setIfInBounds_toArray, List.set_cons_zero, List.set_cons_succ]
          refine takeS 7 26 (.agg c1) rfl rfl (by kernel_rfl) (by kernel_rfl) (by kernel_rfl) (by kernel_rfl) (fun _ _ _ h => h) (by kernel_rfl) (fun wz hz => ?_) ?_
          · exact exec_load30 _ rfl g (k * 41) rfl c1 HL.out.2 (HL.out.1.below hz)
          try simp only [Act.put, List.setIfInBounds_toArray, List.set_cons_zero, List.set_cons_succ]
          refine nextS 8 27 29 #[.agg c1] rfl rfl (by decide) (by kernel_rfl) (by kernel_rfl) (fun wz => by go_simp) (fun w5 hg5 => ?_)
          refine (CC.out w5 (HW.out.trans hg5)).mono ?_
          rintro e w6 ⟨c6, rfl, hn6, hg6⟩
          refine ⟨_, rfl, hg6, ?_⟩
          try simp only [Act.put, List.setIfInBounds_toArray, List.set_cons_zero, List.set_cons_succ]
          have hs6 : c6.size = 41 ∧ c6.all (·.oneCell') = true := by
            obtain ⟨kv2, rfl, hk2⟩ := hn6
            obtain ⟨a2, cap2, rfl, _⟩ := hk2
            exact ⟨nc_size .., nc_one _ _ _ _ rfl⟩
          refine takeS 9 28 (.pointer (some ⟨g, k * 41, none⟩)) rfl rfl (by kernel_rfl) (by kernel_rfl) (by kernel_rfl) (by kernel_rfl) (fun _ _ _ h => h) (by kernel_rfl) (fun wz hz => ?_) ?_
          · go_simp
          try simp only [Act.put, List.setIfInBounds_toArray, List.set_cons_zero, List.set_cons_succ]
          refine lastS rfl rfl (by kernel_rfl) (by kernel_rfl) (by kernel_rfl) (fun w7 hg7 => ?_)
          have hst := MI.step HI.out HD.out (HW.out.trans hg5) hn6 hg6 hg7 HB.out HS.out.1
          refine ⟨w7.setCells g (k * 41) c6.toList, exec_store30m _ _ rfl g (k * 41) c6 rfl rfl _ hst.1 hs6.1 hs6.2, ?_⟩
          have HM := hid hst.2
          have z40 := lies_cell hst.2.2.1.lies 40 (.slice (some ⟨g, 0, none⟩) N cap) (by rw [HC.out]; exact nc_kids ..)
          clear hst hn6 hg5 hg6 hg7 CC
          generalize w7.setCells g (k * 41) c6.toList = w8 at *
          go_wp2_with fail
          go_roundw
          case rel => exact ⟨k + 1, by go_num, by omega, z40, HM.out⟩
          case measure => simp; omega
        · have hltI : ¬ (k : Int) < (N : Int) := by omega
          obtain rfl : k = N := by omega
          have HF := hid (⟨(by have := HI.out; rw [← HS.out.1] at this; rw [HS.out.1] at this; exact this), HI.out⟩ : MI unkV id w B cm ks (.slice a k cap) wr k ∧ MI unkV id w B cm ks (.slice a k cap) wr k)
          have hcs : cm.size = 41 := by rw [HC.out]; exact nc_size ..
          have hco : cm.all (·.oneCell') = true := by rw [HC.out]; exact nc_one _ _ _ _ rfl
          clear HI
          go_wp2_with (first
            | ((with_reducible refine wpList_exec (.agg cm) ?_ ?_ ?_); exact exec_load30 _ rfl B 0 rfl _ hcs HF.out.1.2.1.lies; kernel_rfl)
            | ((with_reducible refine wpList_skipW (wr.setRow (B + 1) cm) ?_ ?_ ?_); exact exec_store30 _ _ rfl (B + 1) _ z30 rfl rfl _ HF.out.1.2.2.1 hcs z30_size hco; kernel_rfl))
          refine bodyPost_ret (results_cell_row (P := Try.prog) (p := 2) (ty := 30) rfl _ _ (B + 1) 30 cm (0, 0) _ rfl HF.out.1.2.2.1.set under30 rfl (by rw [size30, hcs])) rfl ?_
          have hsp := MI.fin (fv := unkV) (fm := id) (w := w) (B := B) (c := cm) (ks := ks) (u := .slice a k cap) (wr := wr) (by rw [HS.out.1]; exact HF.out.1)
          have hoth : ∀ b, b ≠ B + 1 → (wr.setRow (B + 1) cm).heap[b]? = wr.heap[b]? := fun b hb => setRow_other _ (B + 1) b _ hb
          have hHB := HB.out
          refine ⟨_, rfl, ⟨_, HC.out, hsp.keep fun b hb => ⟨hoth b (by omega), by omega, by simp; exact hb.2⟩⟩, ?_⟩
          exact Below.trans (B := w.heap.size) HF.out.1.1 ⟨rfl, rfl, rfl, by simp, fun b hb => hoth b (by omega)⟩
end Go.Proofs.Ytjkbhfkeagfhbaa
namespace Go.Proofs.Ytjkbhfkeagfhbaa
open Go.RowKit

/-- the mark of a place behind a list -/
def wordB (i : Nat) : ByteArray := if i % 2 = 0 then ⟨#[60, 111, 110, 101, 62]⟩ else ⟨#[60, 116, 119, 111, 62]⟩
set_option maxHeartbeats 800000 in
set_option maxRecDepth 100000 in
theorem word_any (i : Nat) (w : World) (hi : i ≤ 1000000) :
    Calls Try.prog 79 #[.int .i64 i] w fun e w' => e = .returned (.string (wordB i)) ∧ w' = w := by
  by_cases c : i % 2 = 0
  · unfold wordB
    rw [if_pos c]
    go_enter Try.func79, Try.ntmps79
    go_wp2
    go_ret
    exact ⟨rfl, rfl⟩
  · unfold wordB
    rw [if_neg c]
    go_enter Try.func79, Try.ntmps79
    go_wp2
    go_ret
    exact ⟨rfl, rfl⟩

set_option maxHeartbeats 800000 in
set_option maxRecDepth 100000 in
theorem hold40_idle (R : Nat) (w : World) (h1 : w.cell? ⟨R, 0, none⟩ = some (.slice none 0 0)) :
    Calls Try.prog 40 #[.pointer (some ⟨R, 0, none⟩)] w fun e w' => e = .returned (.bool true) ∧ w' = w := by
  go_enter Try.func40, Try.ntmps40
  go_wp2
  go_loopw [3] (fun i wr => i = .int .i64 0 ∧ wr = w) (fun _ _ => 0)
  case atStart => exact ⟨rfl, rfl⟩
  case round =>
    obtain ⟨rfl, rfl⟩ := hrel
    go_wp2
    go_ret
    exact ⟨rfl, rfl⟩

set_option maxHeartbeats 800000 in
set_option maxRecDepth 100000 in
theorem hold41_idle (R : Nat) (w : World) (h1 : w.cell? ⟨R, 2, none⟩ = some (.slice none 0 0)) :
    Calls Try.prog 41 #[.pointer (some ⟨R, 0, none⟩)] w fun e w' => e = .returned (.bool true) ∧ w' = w := by
  go_enter Try.func41, Try.ntmps41
  go_wp2
  go_loopw [3] (fun i wr => i = .int .i64 0 ∧ wr = w) (fun _ _ => 0)
  case atStart => exact ⟨rfl, rfl⟩
  case round =>
    obtain ⟨rfl, rfl⟩ := hrel
    go_wp2
    go_ret
    exact ⟨rfl, rfl⟩

set_option maxHeartbeats 800000 in
set_option maxRecDepth 100000 in
theorem hold42_idle (R : Nat) (w : World) (h1 : w.cell? ⟨R, 4, none⟩ = some (.slice none 0 0)) :
    Calls Try.prog 42 #[.pointer (some ⟨R, 0, none⟩)] w fun e w' => e = .returned (.bool true) ∧ w' = w := by
  go_enter Try.func42, Try.ntmps42
  go_wp2
  go_loopw [3] (fun i wr => i = .int .i64 0 ∧ wr = w) (fun _ _ => 0)
  case atStart => exact ⟨rfl, rfl⟩
  case round =>
    obtain ⟨rfl, rfl⟩ := hrel
    go_wp2
    go_ret
    exact ⟨rfl, rfl⟩

set_option maxHeartbeats 800000 in
set_option maxRecDepth 100000 in
theorem hold43_idle (R : Nat) (w : World) (h1 : w.cell? ⟨R, 6, none⟩ = some (.slice none 0 0)) :
    Calls Try.prog 43 #[.pointer (some ⟨R, 0, none⟩)] w fun e w' => e = .returned (.bool true) ∧ w' = w := by
  go_enter Try.func43, Try.ntmps43
  go_wp2
  go_loopw [3] (fun i wr => i = .int .i64 0 ∧ wr = w) (fun _ _ => 0)
  case atStart => exact ⟨rfl, rfl⟩
  case round =>
    obtain ⟨rfl, rfl⟩ := hrel
    go_wp2
    go_ret
    exact ⟨rfl, rfl⟩

set_option maxHeartbeats 800000 in
set_option maxRecDepth 100000 in
theorem hold44_idle (R : Nat) (w : World) (h1 : w.cell? ⟨R, 8, none⟩ = some (.slice none 0 0)) :
    Calls Try.prog 44 #[.pointer (some ⟨R, 0, none⟩)] w fun e w' => e = .returned (.bool true) ∧ w' = w := by
  go_enter Try.func44, Try.ntmps44
  go_wp2
  go_loopw [3] (fun i wr => i = .int .i64 0 ∧ wr = w) (fun _ _ => 0)
  case atStart => exact ⟨rfl, rfl⟩
  case round =>
    obtain ⟨rfl, rfl⟩ := hrel
    go_wp2
    go_ret
    exact ⟨rfl, rfl⟩

set_option maxHeartbeats 800000 in
set_option maxRecDepth 100000 in
theorem hold45_idle (R : Nat) (w : World) (h1 : w.cell? ⟨R, 10, none⟩ = some (.slice none 0 0)) :
    Calls Try.prog 45 #[.pointer (some ⟨R, 0, none⟩)] w fun e w' => e = .returned (.bool true) ∧ w' = w := by
  go_enter Try.func45, Try.ntmps45
  go_wp2
  go_loopw [3] (fun i wr => i = .int .i64 0 ∧ wr = w) (fun _ _ => 0)
  case atStart => exact ⟨rfl, rfl⟩
  case round =>
    obtain ⟨rfl, rfl⟩ := hrel
    go_wp2
    go_ret
    exact ⟨rfl, rfl⟩

set_option maxHeartbeats 800000 in
set_option maxRecDepth 100000 in
theorem hold46_idle (R : Nat) (w : World) (h1 : w.cell? ⟨R, 12, none⟩ = some (.slice none 0 0)) :
    Calls Try.prog 46 #[.pointer (some ⟨R, 0, none⟩)] w fun e w' => e = .returned (.bool true) ∧ w' = w := by
  go_enter Try.func46, Try.ntmps46
  go_wp2
  go_loopw [3] (fun i wr => i = .int .i64 0 ∧ wr = w) (fun _ _ => 0)
  case atStart => exact ⟨rfl, rfl⟩
  case round =>
    obtain ⟨rfl, rfl⟩ := hrel
    go_wp2
    go_ret
    exact ⟨rfl, rfl⟩

set_option maxHeartbeats 800000 in
set_option maxRecDepth 100000 in
theorem hold47_idle (R : Nat) (w : World) (h1 : w.cell? ⟨R, 14, none⟩ = some (.slice none 0 0)) :
    Calls Try.prog 47 #[.pointer (some ⟨R, 0, none⟩)] w fun e w' => e = .returned (.bool true) ∧ w' = w := by
  go_enter Try.func47, Try.ntmps47
  go_wp2
  go_loopw [3] (fun i wr => i = .int .i64 0 ∧ wr = w) (fun _ _ => 0)
  case atStart => exact ⟨rfl, rfl⟩
  case round =>
    obtain ⟨rfl, rfl⟩ := hrel
    go_wp2
    go_ret
    exact ⟨rfl, rfl⟩

set_option maxHeartbeats 800000 in
set_option maxRecDepth 100000 in
theorem hold48_idle (R : Nat) (w : World) (h1 : w.cell? ⟨R, 16, none⟩ = some (.slice none 0 0)) :
    Calls Try.prog 48 #[.pointer (some ⟨R, 0, none⟩)] w fun e w' => e = .returned (.bool true) ∧ w' = w := by
  go_enter Try.func48, Try.ntmps48
  go_wp2
  go_loopw [3] (fun i wr => i = .int .i64 0 ∧ wr = w) (fun _ _ => 0)
  case atStart => exact ⟨rfl, rfl⟩
  case round =>
    obtain ⟨rfl, rfl⟩ := hrel
    go_wp2
    go_ret
    exact ⟨rfl, rfl⟩

set_option maxHeartbeats 800000 in
set_option maxRecDepth 100000 in
theorem hold49_idle (R : Nat) (w : World) (h1 : w.cell? ⟨R, 18, none⟩ = some (.slice none 0 0)) :
    Calls Try.prog 49 #[.pointer (some ⟨R, 0, none⟩)] w fun e w' => e = .returned (.bool true) ∧ w' = w := by
  go_enter Try.func49, Try.ntmps49
  go_wp2
  go_loopw [3] (fun i wr => i = .int .i64 0 ∧ wr = w) (fun _ _ => 0)
  case atStart => exact ⟨rfl, rfl⟩
  case round =>
    obtain ⟨rfl, rfl⟩ := hrel
    go_wp2
    go_ret
    exact ⟨rfl, rfl⟩

set_option maxHeartbeats 800000 in
set_option maxRecDepth 100000 in
theorem hold50_idle (R : Nat) (w : World) (h1 : w.cell? ⟨R, 20, none⟩ = some (.slice none 0 0)) :
    Calls Try.prog 50 #[.pointer (some ⟨R, 0, none⟩)] w fun e w' => e = .returned (.bool true) ∧ w' = w := by
  go_enter Try.func50, Try.ntmps50
  go_wp2
  go_loopw [3] (fun i wr => i = .int .i64 0 ∧ wr = w) (fun _ _ => 0)
  case atStart => exact ⟨rfl, rfl⟩
  case round =>
    obtain ⟨rfl, rfl⟩ := hrel
    go_wp2
    go_ret
    exact ⟨rfl, rfl⟩

set_option maxHeartbeats 800000 in
set_option maxRecDepth 100000 in
theorem hold52_idle (R : Nat) (w : World) (h1 : w.cell? ⟨R, 24, none⟩ = some (.slice none 0 0)) :
    Calls Try.prog 52 #[.pointer (some ⟨R, 0, none⟩)] w fun e w' => e = .returned (.bool true) ∧ w' = w := by
  go_enter Try.func52, Try.ntmps52
  go_wp2
  go_loopw [3] (fun i wr => i = .int .i64 0 ∧ wr = w) (fun _ _ => 0)
  case atStart => exact ⟨rfl, rfl⟩
  case round =>
    obtain ⟨rfl, rfl⟩ := hrel
    go_wp2
    go_ret
    exact ⟨rfl, rfl⟩
end Go.Proofs.Ytjkbhfkeagfhbaa
