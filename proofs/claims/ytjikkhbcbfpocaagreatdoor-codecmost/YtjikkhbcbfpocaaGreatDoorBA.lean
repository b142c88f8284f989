import Derived.Test.YtjikkhbcbfpocaaGreatDoorProj
import Derived.Test.YtjikkhbcbfpocaaGreatDoorGrowsX
set_option maxRecDepth 100000
set_option maxHeartbeats 2000000
namespace Go.Proofs.YtjikkhbcbfpocaaGreatDoor
open Go.RowKit
theorem kz (g : Nat) : ∀ (vs : List Value) (o : Nat) (w : World), (w.setCells g o vs).os = w.os ∧ (w.setCells g o vs).tape = w.tape ∧ (w.setCells g o vs).output = w.output ∧ (w.setCells g o vs).heap.size = w.heap.size
 | [], _, _ => ⟨rfl, rfl, rfl, rfl⟩
 | v :: r, o, w => by
  obtain ⟨h1, h2, h3, h4⟩ := kz g r (o + 1) (w.setCell ⟨g, o, none⟩ v)
  exact ⟨h1.trans rfl, h2.trans rfl, h3.trans rfl, h4.trans (by simp [World.setCell])⟩
def pu (ks : F) : Prop := ∀ (nm : ByteArray) (v : Vd) (m : Md) (c : Array Value) (w : World), HasN w c nm v m ks → ks.weight ≤ 100000 →
  Calls Tryz.prog 41 #[.agg c] w fun e w' => ∃ c', e = .returned (.agg c') ∧ kV w' (New w w') c' nm (id v) (noM m) (ks.mp id noM) ∧ G w w'
theorem iO : ∀ (Z : Nat) (ks : F), ks.size < Z → pu ks := by
 intro Z
 induction Z with
 | zero => intro f h; omega
 | succ Z ih =>
  intro ks hZ nm v m c w hNN hw
  obtain ⟨N, hN⟩ : ∃ N, ks.len = N := ⟨_, rfl⟩
  have hN2 : N ≤ 100000 := by have := ks.len_le_size; have := F.size_le_weight ks; omega
  have hsz : c.size = 41 := by obtain ⟨_, rfl, _⟩ := hNN; exact jE ..
  have hV0 := Var.new w c
  have hV1 := hV0.grow (G.alloc (w.alloc (.cells c 30)) (.cells z30 30))
  have hV2 := Var.new (w.alloc (.cells c 30)) z30
  rw [World.size_alloc] at hV2
  have hG1 : G w ((w.alloc (.cells c 30)).alloc (.cells z30 30)) := (G.alloc _ _).trans (G.alloc _ _)
  have hS1 : ((w.alloc (.cells c 30)).alloc (.cells z30 30)).heap.size = w.heap.size + 2 := by simp
  have H1 := hid (⟨hV1, hV2, hG1, hNN.below hG1, hS1⟩ : Var _ w.heap.size c ∧ Var _ (w.heap.size + 1) z30 ∧ G w ((w.alloc (.cells c 30)).alloc (.cells z30 30)) ∧ HasN ((w.alloc (.cells c 30)).alloc (.cells z30 30)) c nm v m ks ∧ ((w.alloc (.cells c 30)).alloc (.cells z30 30)).heap.size = w.heap.size + 2)
  have HS : Hid (ks.len = N ∧ ks.size < Z + 1 ∧ ks.weight ≤ 100000) := ⟨hN, hZ, hw⟩
  have HIH : Hid (∀ ks : F, ks.size < Z → pu ks) := ih
  clear hNN hN hZ hw ih hV0 hV1 hV2 hG1 hS1
  go_enter Tryz.func41, Tryz.ntmps41
  go_upto_region 1 with (with_reducible refine jA (.pointer (some ⟨(w.alloc (.cells c 30)).heap.size, 0, none⟩)) ((w.alloc (.cells c 30)).alloc (.cells z30 30)) ?_ ?_; exact qY rfl _)
  try simp only [Act.put, sA, sB, sC, World.size_alloc]
  generalize (w.alloc (.cells c 30)).alloc (.cells z30 30) = w1 at *
  obtain ⟨B, hB⟩ : ∃ B, w.heap.size = B := ⟨_, rfl⟩
  rw [hB] at H1 ⊢
  have HB : Hid (w.heap.size = B) := hB
  clear hB
  have CO := lI ks nm v m c w1 H1.o.2.2.2.1 HS.o.2.2
  go_wp2_with ((with_reducible refine j0 (.agg c) ?_ ?_); exact jB _ rfl B 0 rfl c hsz H1.o.1.lies)
  refine CO.mono ?_
  rintro e w2 ⟨c2, rfl, ⟨u, xs, T, hc2, ho, hcs, hT⟩, hg2⟩
  obtain ⟨a, cap, rfl⟩ : ∃ a cap, u = .slice a N cap := by
   rw [HS.o.1] at ho
   obtain ⟨_, ⟨e, e2⟩ | ⟨g, cp, cur, hv, _⟩⟩ := ho
   ·exact ⟨none, 0, by rw [e, e2]⟩
   ·exact ⟨_, _, hv⟩
  have hs2 : c2.size = 41 ∧ c2.all (·.oneCell') = true := by rw [hc2]; exact ⟨jE .., qM _ _ _ _ rfl⟩
  have H2 := hid (⟨H1.o.1.grow hg2, H1.o.2.1.grow hg2, H1.o.2.2.1.trans hg2, by have := hg2.size; have := H1.o.2.2.2.2; omega⟩ : Var w2 B c ∧ Var w2 (B + 1) z30 ∧ G w w2 ∧ B + 2 ≤ w2.heap.size)
  have HO := hid (⟨hc2, by rw [← H1.o.2.2.2.2]; exact ho, hcs, fun b hb => by have h := hT b hb; have := H1.o.2.2.2.2; exact ⟨by omega, h.2⟩⟩ : c2 = nc nm v m (.slice a N cap) ∧ w2.ownsRow (B + 2) 30 41 (.slice a N cap) ks.len xs ∧ jd w2 T ks xs ∧ ∀ b, T b → B + 2 ≤ b ∧ UO w2 b ∧ some b ≠ (Value.slice a N cap).ownBlock)
  clear CO hc2 ho hcs hT hg2 H1
  have hV3 : Var (w2.setRow B c2) B c2 := H2.o.1.set
  have hth : (w2.setRow B c2).there B 36 4 := fun j hj => ⟨by
   have := j7 hV3.lies (36 + j) (c2[36 + j]'(by have := hs2.1; omega)) (by simp)
   rw [this]; rfl, kF hV3 _⟩
  have HE : Hid ((w2.setRow B c2).heap.size = w2.heap.size ∧ ∀ b, b ≠ B → (w2.setRow B c2).heap[b]? = w2.heap[b]?) := ⟨by simp, fun b hb => setRow_other _ B b _ hb⟩
  have hv : Var ((w2.setRow B c2).setCells B 36 (mx Md.zero)) B (nc nm v Md.zero (.slice a N cap)) := by
   refine eh _ (m := m) ?_
   rw [← HO.o.1]; exact hV3
  have hM : MI id noM w B (nc nm v Md.zero (.slice a N cap)) ks (.slice a N cap) ((w2.setRow B c2).setCells B 36 (mx Md.zero)) 0 := by
   refine MI.start H2.o.2 HO.o.2.1 HO.o.2.2.1 HO.o.2.2.2 HB.o ?_ ?_ ?_ hv
   ·intro b hb
    exact (jS B _ _ _ b hb).trans (HE.o.2 b hb)
   ·exact (kz B _ _ _).2.2.2.trans HE.o.1
   ·exact ⟨(kz B _ _ _).1, (kz B _ _ _).2.1, (kz B _ _ _).2.2.1⟩
  have c40 := j7 hv.lies 40 _ (qJ ..)
  obtain ⟨cm, hcmE⟩ : ∃ cm, nc nm v Md.zero (.slice a N cap) = cm := ⟨_, rfl⟩
  rw [hcmE] at hM
  have HC := hid hcmE.symm
  have HMI := hid hM
  clear hM hcmE HO hv
  go_upto_region 2 with ((with_reducible refine j8 (w2.setRow B c2) ?_ ?_); exact jG _ _ rfl B _ c rfl rfl _ H2.o.1 hs2.1 hsz hs2.2)
  generalize w2.setRow B c2 = wS at *
  obtain ⟨ZL, hZL⟩ : ∃ ZL, mx Md.zero = ZL := ⟨_, rfl⟩
  rw [hZL] at HMI c40
  have HZ := hid hZL
  clear hZL
  go_upto_region 3 with ((with_reducible refine j8 (wS.setCells B 36 ZL) ?_ ?_); exact (by rw [← HZ.o]; exact dV _ _ rfl B 36 (mx Md.zero).toArray rfl rfl _ hth rfl (by kernel_rfl)))
  generalize wS.setCells B 36 ZL = w3 at *
  clear H2 HE hV3 hth
  go_wp2_with fail
  go_loopw [3] (fun i wr => ∃ k : Nat, i = .int .i64 k ∧ k ≤ N ∧ wr.cell? ⟨B, 40, none⟩ = some (.slice a N cap) ∧ Hid (MI id noM w B cm ks (.slice a N cap) wr k)) (fun i _ => N - iOf i)
  case atStart => exact ⟨0, rfl, Nat.zero_le _, c40, HMI.o⟩
  case round =>
   clear c40 HMI
   obtain ⟨k, rfl, hk, q40, HI⟩ := hrel
   by_cases hlt : k < N
   ·have hltI : (k : Int) < (N : Int) := by omega
    obtain ⟨nm1, v1, m1, ks1, hd1⟩ := F.yu ks k (by rw [HS.o.1]; exact hlt)
    obtain ⟨g, rfl⟩ : ∃ g, a = some ⟨g, 0, none⟩ := by
     obtain ⟨_, _, _, _, ys, zs, T, ho, _⟩ := HI.o
     rw [HS.o.1, show N = (N - 1) + 1 by omega] at ho
     obtain ⟨g, cp, e⟩ := yk ho
     injection e with e1
     exact ⟨g, e1⟩
    obtain ⟨c1, hl1, hs1, hn1⟩ := HI.o.at hd1
    have hksz := F.kids_size hd1
    have hwt : ks1.weight ≤ 100000 := by
     have h1 := HS.o.2.2
     have h2 := congrArg F.weight (F.qk ks k)
     rw [F.app_weight, hd1, F.weight] at h2
     omega
    have CC := hid (fun W (hW : G wr W) => HIH.o ks1 (by have := HS.o.2.1; omega) nm1 v1 m1 c1 W (hn1.below hW) hwt)
    have HL := hid (⟨hl1, hs1⟩ : Lies wr g (k * 41) c1 ∧ c1.size = 41)
    have HD : Hid (ks.drop k = .cons nm1 v1 m1 ks1 (ks.drop (k + 1))) := hd1
    clear hd1 hl1 hs1 hn1 hksz hwt
    go_upto_region 6 with fail
    refine fo 10 ?_
    replace q40 := (G.drew wr).cell q40
    have HW := hid (G.drew wr)
    replace HL := hid (⟨HL.o.1.below (G.drew wr), HL.o.2⟩ : Lies wr.drew g (k * 41) c1 ∧ c1.size = 41)
    generalize wr.drew = wd at *
    refine dK 0 15 (.pointer (some ⟨B, 40, none⟩)) (fun wz hz => ?_) ?_
    ·go_simp
    refine dK 1 16 (.slice (some ⟨g, 0, none⟩) N cap) (fun wz hz => ?_) ?_
    ·have y0 := hz.cell q40; go_simp
    refine dK 2 17 (.int .i64 k) (fun wz hz => ?_) ?_
    ·rfl
    refine dK 3 18 (.pointer (some ⟨B, 40, none⟩)) (fun wz hz => ?_) ?_
    ·go_simp
    refine dK 4 19 (.slice (some ⟨g, 0, none⟩) N cap) (fun wz hz => ?_) ?_
    ·have y0 := hz.cell q40; go_simp
    refine dK 5 20 (.int .i64 k) (fun wz hz => ?_) ?_
    ·rfl
    refine dK 6 21 (.pointer (some ⟨g, k * 41, none⟩)) (fun wz hz => ?_) ?_
    ·go_simp
    refine dK 7 22 (.agg c1) (fun wz hz => ?_) ?_
    ·exact jB _ rfl g (k * 41) rfl c1 HL.o.2 (HL.o.1.below hz)
    refine nextS 8 23 41 #[.agg c1] rfl rfl (by decide) (by kernel_rfl) (by kernel_rfl) (fun wz => by go_simp) (fun w5 hg5 => ?_)
    refine (CC.o w5 (HW.o.trans hg5)).mono ?_
    rintro e w6 ⟨c6, rfl, hn6, hg6⟩
    refine ⟨_, rfl, hg6, ?_⟩
    try simp only [Act.put, sA, sB, sC]
    have hs6 : c6.size = 41 ∧ c6.all (·.oneCell') = true := by
     obtain ⟨kv2, rfl, hk2⟩ := hn6
     obtain ⟨a2, cap2, rfl, _⟩ := hk2
     exact ⟨jE .., qM _ _ _ _ rfl⟩
    refine dK 9 24 (.pointer (some ⟨g, k * 41, none⟩)) (fun wz hz => ?_) ?_
    ·go_simp
    refine lastS rfl rfl (by kernel_rfl) (by kernel_rfl) (by kernel_rfl) (fun w7 hg7 => ?_)
    have hst := MI.step HI.o HD.o (HW.o.trans hg5) hn6 hg6 hg7 HB.o HS.o.1
    refine ⟨w7.setCells g (k * 41) c6.toList, kP _ _ rfl g (k * 41) c6 rfl rfl _ hst.1 hs6.1 hs6.2, ?_⟩
    have HM := hid hst.2
    have z40 := j7 hst.2.2.1.lies 40 (.slice (some ⟨g, 0, none⟩) N cap) (by rw [HC.o]; exact qJ ..)
    clear hst hn6 hg5 hg6 hg7 CC
    generalize w7.setCells g (k * 41) c6.toList = w8 at *
    go_wp2_with fail
    go_roundw
    case rel => exact ⟨k + 1, by go_num, by omega, z40, HM.o⟩
    case measure => simp; omega
   ·have hltI : ¬ (k : Int) < (N : Int) := by omega
    obtain rfl : k = N := by omega
    have HF := hid (⟨(by have := HI.o; rw [← HS.o.1] at this; rw [HS.o.1] at this; exact this), HI.o⟩ : MI id noM w B cm ks (.slice a k cap) wr k ∧ MI id noM w B cm ks (.slice a k cap) wr k)
    have hcs : cm.size = 41 := by rw [HC.o]; exact jE ..
    have hco : cm.all (·.oneCell') = true := by rw [HC.o]; exact qM _ _ _ _ rfl
    clear HI
    go_wp2_with (first
     | ((with_reducible refine j0 (.agg cm) ?_ ?_); exact jB _ rfl B 0 rfl _ hcs HF.o.1.2.1.lies)
     | ((with_reducible refine j8 (wr.setRow (B + 1) cm) ?_ ?_); exact jG _ _ rfl (B + 1) _ z30 rfl rfl _ HF.o.1.2.2.1 hcs jL hco))
    refine bodyPost_ret (results_cell_row (P := Tryz.prog) (p := 2) (ty := 30) rfl _ _ (B + 1) 30 cm (0, 0) _ rfl HF.o.1.2.2.1.set qB rfl (by rw [qc, hcs])) rfl ?_
    have hsp := MI.fin (fv := id) (fm := noM) (w := w) (B := B) (c := cm) (ks := ks) (u := .slice a k cap) (wr := wr) (by rw [HS.o.1]; exact HF.o.1)
    have hoth : ∀ b, b ≠ B + 1 → (wr.setRow (B + 1) cm).heap[b]? = wr.heap[b]? := fun b hb => setRow_other _ (B + 1) b _ hb
    have hHB := HB.o
    refine ⟨_, rfl, ⟨_, HC.o, hsp.keep fun b hb => ⟨hoth b (by omega), by omega, hb.2.same (hoth b (by omega))⟩⟩, ?_⟩
    exact Below.trans (B := w.heap.size) HF.o.1.1 ⟨rfl, rfl, rfl, by simp, fun b hb => hoth b (by omega)⟩
end Go.Proofs.YtjikkhbcbfpocaaGreatDoor
