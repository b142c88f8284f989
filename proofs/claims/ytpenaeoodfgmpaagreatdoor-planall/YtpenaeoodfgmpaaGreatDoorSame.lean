/-
  twinelaw15.sameCells and sameItems of lists that are one.
-/
import Derived.Test.YtpenaeoodfgmpaaGreatDoorEqs
import Derived.Test.YtpenaeoodfgmpaaGreatDoorInvR
import Derived.Test.YtpenaeoodfgmpaaGreatDoorFew
import Derived.Deep.LoopGhost
namespace Go.Proofs.YtpenaeoodfgmpaaGreatDoor
open Go.RowKit

theorem backC : backB (opsAt Tryz.f9 6) = true := by kernel_rfl
theorem dstC : dstB (opsAt Tryz.f9 6) 26 = true := by kernel_rfl
theorem sizeC : (opsAt Tryz.f9 6).size = 9 := by kernel_rfl
theorem freeC0 : freeB (opsAt Tryz.f9 6) 0 = true := by kernel_rfl
theorem freeC1 : freeB (opsAt Tryz.f9 6) 1 = true := by kernel_rfl
theorem freeC5 : freeB (opsAt Tryz.f9 6) 5 = true := by kernel_rfl
def VC (ga oa gb ob n ca cb k : Nat) (x : Cd) : Nat → Value
  | 0 => .slice (some ⟨ga, oa, none⟩) n ca
  | 1 => .int .i64 (k : Int)
  | 2 => .pointer (some ⟨ga, oa + k * 10, none⟩)
  | 3 => .agg (cc x)
  | 4 => .slice (some ⟨gb, ob, none⟩) n cb
  | 5 => .int .i64 (k : Int)
  | 6 => .pointer (some ⟨gb, ob + k * 10, none⟩)
  | 7 => .agg (cc x)
  | 8 => .bool false
  | _ => undef
theorem sC_0 : say (opsAt Tryz.f9 6) 0 = some (some 17, .move (.tmp 0), none) := by kernel_rfl
theorem dC_0 : slotB (opsAt Tryz.f9 6) 0 = some 17 := by kernel_rfl
theorem sC_1 : say (opsAt Tryz.f9 6) 1 = some (some 18, .move (.tmp 5), none) := by kernel_rfl
theorem dC_1 : slotB (opsAt Tryz.f9 6) 1 = some 18 := by kernel_rfl
theorem sC_2 : say (opsAt Tryz.f9 6) 2 = some (some 19, .indexAddr 22 (.tmp 17) (.tmp 18), none) := by kernel_rfl
theorem dC_2 : slotB (opsAt Tryz.f9 6) 2 = some 19 := by kernel_rfl
theorem sC_3 : say (opsAt Tryz.f9 6) 3 = some (some 20, .load 62 (.tmp 19), none) := by kernel_rfl
theorem dC_3 : slotB (opsAt Tryz.f9 6) 3 = some 20 := by kernel_rfl
theorem sC_4 : say (opsAt Tryz.f9 6) 4 = some (some 21, .move (.tmp 1), none) := by kernel_rfl
theorem dC_4 : slotB (opsAt Tryz.f9 6) 4 = some 21 := by kernel_rfl
theorem sC_5 : say (opsAt Tryz.f9 6) 5 = some (some 22, .move (.tmp 5), none) := by kernel_rfl
theorem dC_5 : slotB (opsAt Tryz.f9 6) 5 = some 22 := by kernel_rfl
theorem sC_6 : say (opsAt Tryz.f9 6) 6 = some (some 23, .indexAddr 22 (.tmp 21) (.tmp 22), none) := by kernel_rfl
theorem dC_6 : slotB (opsAt Tryz.f9 6) 6 = some 23 := by kernel_rfl
theorem sC_7 : say (opsAt Tryz.f9 6) 7 = some (some 24, .load 62 (.tmp 23), none) := by kernel_rfl
theorem dC_7 : slotB (opsAt Tryz.f9 6) 7 = some 24 := by kernel_rfl
theorem sC_8 : say (opsAt Tryz.f9 6) 8 = some (some 25, .binOp .neq 62 (.tmp 20) (.tmp 24) 62, none) := by kernel_rfl
theorem dC_8 : slotB (opsAt Tryz.f9 6) 8 = some 25 := by kernel_rfl
set_option maxHeartbeats 4000000 in
set_option maxRecDepth 100000 in
theorem regC (ga oa gb ob n ca cb k : Nat) (x : Cd) (t0 : Array Value) (wr : World) {Q : Exit → Act → World → Prop} (ht : t0.size = 26) (h0 : t0.getD 0 undef = .slice (some ⟨ga, oa, none⟩) n ca) (h1 : t0.getD 1 undef = .slice (some ⟨gb, ob, none⟩) n cb) (h5 : t0.getD 5 undef = .int .i64 (k : Int))
    (hk : k < n) (ha : Lies wr ga (oa + k * 10) (cc x)) (hb : Lies wr gb (ob + k * 10) (cc x))
    (hQ : Q .normal ⟨fold (opsAt Tryz.f9 6) (VC ga oa gb ob n ca cb k x) t0 9, []⟩ wr.drew) : (Code.region 6 (opsAt Tryz.f9 6) true).wp Tryz.prog Q ⟨t0, []⟩ wr := by
  have hB : dstB (opsAt Tryz.f9 6) t0.size = true := by rw [ht]; exact dstC
  have gd : G wr wr.drew := ⟨rfl, rfl, rfl, Nat.le_refl _, fun _ _ => rfl⟩
  have kI : (k : Int) < (n : Int) := by omega
  have k0 : (0 : Int) ≤ (k : Int) := by omega
  refine inv_region Tryz.mixed (IV (opsAt Tryz.f9 6) (VC ga oa gb ob n ca cb k x) t0 (fun _ w => w = wr.drew)) backC ⟨t0, rfl, ⟨rfl, fun _ _ => rfl, fun _ _ _ _ _ h => by cases h⟩, rfl⟩ ?_ ?_
  rotate_left 1
  · rintro done a w ⟨t, rfl, hS, rfl⟩ hall
    rw [hS.end hB hall, sizeC]
    exact hQ
  · rintro j op done a w ho ⟨t, rfl, hS, rfl⟩ hnd hdep hcl
    have e0 : t[0]?.getD undef = .slice (some ⟨ga, oa, none⟩) n ca := (hS.old freeC0).trans h0
    have e1 : t[1]?.getD undef = .slice (some ⟨gb, ob, none⟩) n cb := (hS.old freeC1).trans h1
    have e5 : t[5]?.getD undef = .int .i64 (k : Int) := (hS.old freeC5).trans h5
    have hlt : j < 9 := by rw [← sizeC]; exact (Array.getElem?_eq_some_iff.1 ho).1
    match j, hlt, ho, hnd, hdep with
    | 0, _, ho, hnd, hdep =>
      obtain ⟨hd, hop, hgd⟩ := say_of sC_0 ho
      refine iv_val hB ho hgd hd hS rfl ?_
      unfold execOp
      simp only [hop]
      simp [e0, VC, go_sem]
    | 1, _, ho, hnd, hdep =>
      obtain ⟨hd, hop, hgd⟩ := say_of sC_1 ho
      refine iv_val hB ho hgd hd hS rfl ?_
      unfold execOp
      simp only [hop]
      simp [e5, VC, go_sem]
    | 2, _, ho, hnd, hdep =>
      obtain ⟨hd, hop, hgd⟩ := say_of sC_2 ho
      have x1 : t[17]?.getD undef = _ := hS.at dC_0 (waits (j := 0) (by kernel_rfl) ho hdep)
      simp only [VC] at x1
      have y1 : t[18]?.getD undef = _ := hS.at dC_1 (waits (j := 1) (by kernel_rfl) ho hdep)
      simp only [VC] at y1
      refine iv_val hB ho hgd hd hS rfl ?_
      unfold execOp
      simp only [hop]
      simp [x1, y1, kI, k0, addr_add, VC, go_sem]
    | 3, _, ho, hnd, hdep =>
      obtain ⟨hd, hop, hgd⟩ := say_of sC_3 ho
      have x1 : t[19]?.getD undef = _ := hS.at dC_2 (waits (j := 2) (by kernel_rfl) ho hdep)
      simp only [VC] at x1
      refine iv_val hB ho hgd hd hS rfl ?_
      exact exec_load (a := ⟨t, []⟩) 62 _ hop ga (oa + k * 10) (cc x) _ (by show t.getD 19 undef = _; rw [Array.getD_eq_getD_getElem?]; exact x1) _ (ha.up gd) under43 rfl size43
    | 4, _, ho, hnd, hdep =>
      obtain ⟨hd, hop, hgd⟩ := say_of sC_4 ho
      refine iv_val hB ho hgd hd hS rfl ?_
      unfold execOp
      simp only [hop]
      simp [e1, VC, go_sem]
    | 5, _, ho, hnd, hdep =>
      obtain ⟨hd, hop, hgd⟩ := say_of sC_5 ho
      refine iv_val hB ho hgd hd hS rfl ?_
      unfold execOp
      simp only [hop]
      simp [e5, VC, go_sem]
    | 6, _, ho, hnd, hdep =>
      obtain ⟨hd, hop, hgd⟩ := say_of sC_6 ho
      have x1 : t[21]?.getD undef = _ := hS.at dC_4 (waits (j := 4) (by kernel_rfl) ho hdep)
      simp only [VC] at x1
      have y1 : t[22]?.getD undef = _ := hS.at dC_5 (waits (j := 5) (by kernel_rfl) ho hdep)
      simp only [VC] at y1
      refine iv_val hB ho hgd hd hS rfl ?_
      unfold execOp
      simp only [hop]
      simp [x1, y1, kI, k0, addr_add, VC, go_sem]
    | 7, _, ho, hnd, hdep =>
      obtain ⟨hd, hop, hgd⟩ := say_of sC_7 ho
      have x1 : t[23]?.getD undef = _ := hS.at dC_6 (waits (j := 6) (by kernel_rfl) ho hdep)
      simp only [VC] at x1
      refine iv_val hB ho hgd hd hS rfl ?_
      exact exec_load (a := ⟨t, []⟩) 62 _ hop gb (ob + k * 10) (cc x) _ (by show t.getD 23 undef = _; rw [Array.getD_eq_getD_getElem?]; exact x1) _ (hb.up gd) under43 rfl size43
    | 8, _, ho, hnd, hdep =>
      obtain ⟨hd, hop, hgd⟩ := say_of sC_8 ho
      have x1 : t[20]?.getD undef = _ := hS.at dC_3 (waits (j := 3) (by kernel_rfl) ho hdep)
      simp only [VC] at x1
      have y1 : t[24]?.getD undef = _ := hS.at dC_7 (waits (j := 7) (by kernel_rfl) ho hdep)
      simp only [VC] at y1
      refine iv_val hB ho hgd hd hS rfl ?_
      unfold execOp
      simp only [hop]
      simp [x1, y1, VC, cc, eq62, go_sem]
theorem foldC (ga oa gb ob n ca cb k : Nat) (x : Cd) (t0 : Array Value) : fold (opsAt Tryz.f9 6) (VC ga oa gb ob n ca cb k x) t0 9 = (((((((((t0.setIfInBounds 17 (.slice (some ⟨ga, oa, none⟩) n ca)).setIfInBounds 18 (.int .i64 (k : Int))).setIfInBounds 19 (.pointer (some ⟨ga, oa + k * 10, none⟩))).setIfInBounds 20 (.agg (cc x))).setIfInBounds 21 (.slice (some ⟨gb, ob, none⟩) n cb)).setIfInBounds 22 (.int .i64 (k : Int))).setIfInBounds 23 (.pointer (some ⟨gb, ob + k * 10, none⟩))).setIfInBounds 24 (.agg (cc x))).setIfInBounds 25 (.bool false)) := by kernel_rfl
set_option maxHeartbeats 2000000 in
set_option maxRecDepth 100000 in
theorem sameCells_any (ao bo : Option Addr) (cp cq : Nat) (L : List Cd) (w : World) (ha : HasC w (.slice ao L.length cp) L) (hb : HasC w (.slice bo L.length cq) L) (hn : L.length ≤ 1000000) :
    Calls Tryz.prog 9 #[.slice ao L.length cp, .slice bo L.length cq] w fun e w' => e = .returned (.bool true) ∧ G w w' := by
  obtain ⟨n, hn'⟩ : ∃ n, L.length = n := ⟨_, rfl⟩
  have HA := hid ha
  have HB := hid hb
  have HN := hid hn'
  rw [hn'] at hn HA HB ⊢
  have nI : ((n : Int) != (n : Int)) = false := by simp
  clear ha hb hn'
  go_enter Tryz.func9, Tryz.ntmps9
  go_wp2
  go_loopg [5] n (fun gh i wr => ∃ k : Nat, k ≤ n ∧ gh = n - k ∧ i = .int .i64 (k : Int) ∧ Hid (G w wr))
  case atStart => exact ⟨0, Nat.zero_le _, rfl, rfl, G.refl w⟩
  case round =>
    obtain ⟨k, hk, rfl, rfl, HR⟩ := hrel
    by_cases hlt : k < n
    · obtain ⟨x, hx⟩ : ∃ x, L[k]? = some x := ⟨L[k]'(by rw [HN.out]; exact hlt), by simp⟩
      obtain ⟨ga, oa, rfl, la⟩ := HasC.at (HA.out.up HR.out) hx
      obtain ⟨gb, ob, rfl, lb⟩ := HasC.at (HB.out.up HR.out) hx
      have HL := hid (And.intro la lb)
      have kI : (k : Int) < (n : Int) := by omega
      clear hx la lb
      go_upto_region 6 with fail
      refine regC ga oa gb ob n cp cq k x _ wr rfl rfl rfl rfl hlt HL.out.1 HL.out.2 ?_
      rw [foldC]
      obtain ⟨wz, hwz⟩ : ∃ wz, wr.drew = wz := ⟨_, rfl⟩
      have HG2 : Hid (G w wz) := by rw [← hwz]; exact HR.out.up ⟨rfl, rfl, rfl, Nat.le_refl _, fun _ _ => rfl⟩
      rw [hwz]
      clear hwz
      go_simp
      go_wp2
      go_roundg (n - (k + 1))
      case measure => omega
      case rel => exact ⟨k + 1, by omega, rfl, by go_num, HG2.out⟩
    · obtain rfl : k = n := by omega
      have kI : ¬ (k : Int) < (k : Int) := by omega
      go_wp2
      go_ret
      exact ⟨rfl, HR.out⟩
theorem backT : backB (opsAt Tryz.f24 6) = true := by kernel_rfl
theorem dstT : dstB (opsAt Tryz.f24 6) 26 = true := by kernel_rfl
theorem sizeT : (opsAt Tryz.f24 6).size = 9 := by kernel_rfl
theorem freeT0 : freeB (opsAt Tryz.f24 6) 0 = true := by kernel_rfl
theorem freeT1 : freeB (opsAt Tryz.f24 6) 1 = true := by kernel_rfl
theorem freeT5 : freeB (opsAt Tryz.f24 6) 5 = true := by kernel_rfl
def VT (ga oa gb ob n ca cb k : Nat) (x : It) : Nat → Value
  | 0 => .slice (some ⟨ga, oa, none⟩) n ca
  | 1 => .int .i64 (k : Int)
  | 2 => .pointer (some ⟨ga, oa + k * 7, none⟩)
  | 3 => .agg (ic x)
  | 4 => .slice (some ⟨gb, ob, none⟩) n cb
  | 5 => .int .i64 (k : Int)
  | 6 => .pointer (some ⟨gb, ob + k * 7, none⟩)
  | 7 => .agg (ic x)
  | 8 => .bool false
  | _ => undef
theorem sT_0 : say (opsAt Tryz.f24 6) 0 = some (some 17, .move (.tmp 0), none) := by kernel_rfl
theorem dT_0 : slotB (opsAt Tryz.f24 6) 0 = some 17 := by kernel_rfl
theorem sT_1 : say (opsAt Tryz.f24 6) 1 = some (some 18, .move (.tmp 5), none) := by kernel_rfl
theorem dT_1 : slotB (opsAt Tryz.f24 6) 1 = some 18 := by kernel_rfl
theorem sT_2 : say (opsAt Tryz.f24 6) 2 = some (some 19, .indexAddr 50 (.tmp 17) (.tmp 18), none) := by kernel_rfl
theorem dT_2 : slotB (opsAt Tryz.f24 6) 2 = some 19 := by kernel_rfl
theorem sT_3 : say (opsAt Tryz.f24 6) 3 = some (some 20, .load 71 (.tmp 19), none) := by kernel_rfl
theorem dT_3 : slotB (opsAt Tryz.f24 6) 3 = some 20 := by kernel_rfl
theorem sT_4 : say (opsAt Tryz.f24 6) 4 = some (some 21, .move (.tmp 1), none) := by kernel_rfl
theorem dT_4 : slotB (opsAt Tryz.f24 6) 4 = some 21 := by kernel_rfl
theorem sT_5 : say (opsAt Tryz.f24 6) 5 = some (some 22, .move (.tmp 5), none) := by kernel_rfl
theorem dT_5 : slotB (opsAt Tryz.f24 6) 5 = some 22 := by kernel_rfl
theorem sT_6 : say (opsAt Tryz.f24 6) 6 = some (some 23, .indexAddr 50 (.tmp 21) (.tmp 22), none) := by kernel_rfl
theorem dT_6 : slotB (opsAt Tryz.f24 6) 6 = some 23 := by kernel_rfl
theorem sT_7 : say (opsAt Tryz.f24 6) 7 = some (some 24, .load 71 (.tmp 23), none) := by kernel_rfl
theorem dT_7 : slotB (opsAt Tryz.f24 6) 7 = some 24 := by kernel_rfl
theorem sT_8 : say (opsAt Tryz.f24 6) 8 = some (some 25, .binOp .neq 71 (.tmp 20) (.tmp 24) 71, none) := by kernel_rfl
theorem dT_8 : slotB (opsAt Tryz.f24 6) 8 = some 25 := by kernel_rfl
set_option maxHeartbeats 4000000 in
set_option maxRecDepth 100000 in
theorem regT (ga oa gb ob n ca cb k : Nat) (x : It) (t0 : Array Value) (wr : World) {Q : Exit → Act → World → Prop} (ht : t0.size = 26) (h0 : t0.getD 0 undef = .slice (some ⟨ga, oa, none⟩) n ca) (h1 : t0.getD 1 undef = .slice (some ⟨gb, ob, none⟩) n cb) (h5 : t0.getD 5 undef = .int .i64 (k : Int))
    (hk : k < n) (ha : Lies wr ga (oa + k * 7) (ic x)) (hb : Lies wr gb (ob + k * 7) (ic x))
    (hQ : Q .normal ⟨fold (opsAt Tryz.f24 6) (VT ga oa gb ob n ca cb k x) t0 9, []⟩ wr.drew) : (Code.region 6 (opsAt Tryz.f24 6) true).wp Tryz.prog Q ⟨t0, []⟩ wr := by
  have hB : dstB (opsAt Tryz.f24 6) t0.size = true := by rw [ht]; exact dstT
  have gd : G wr wr.drew := ⟨rfl, rfl, rfl, Nat.le_refl _, fun _ _ => rfl⟩
  have kI : (k : Int) < (n : Int) := by omega
  have k0 : (0 : Int) ≤ (k : Int) := by omega
  refine inv_region Tryz.mixed (IV (opsAt Tryz.f24 6) (VT ga oa gb ob n ca cb k x) t0 (fun _ w => w = wr.drew)) backT ⟨t0, rfl, ⟨rfl, fun _ _ => rfl, fun _ _ _ _ _ h => by cases h⟩, rfl⟩ ?_ ?_
  rotate_left 1
  · rintro done a w ⟨t, rfl, hS, rfl⟩ hall
    rw [hS.end hB hall, sizeT]
    exact hQ
  · rintro j op done a w ho ⟨t, rfl, hS, rfl⟩ hnd hdep hcl
    have e0 : t[0]?.getD undef = .slice (some ⟨ga, oa, none⟩) n ca := (hS.old freeT0).trans h0
    have e1 : t[1]?.getD undef = .slice (some ⟨gb, ob, none⟩) n cb := (hS.old freeT1).trans h1
    have e5 : t[5]?.getD undef = .int .i64 (k : Int) := (hS.old freeT5).trans h5
    have hlt : j < 9 := by rw [← sizeT]; exact (Array.getElem?_eq_some_iff.1 ho).1
    match j, hlt, ho, hnd, hdep with
    | 0, _, ho, hnd, hdep =>
      obtain ⟨hd, hop, hgd⟩ := say_of sT_0 ho
      refine iv_val hB ho hgd hd hS rfl ?_
      unfold execOp
      simp only [hop]
      simp [e0, VT, go_sem]
    | 1, _, ho, hnd, hdep =>
      obtain ⟨hd, hop, hgd⟩ := say_of sT_1 ho
      refine iv_val hB ho hgd hd hS rfl ?_
      unfold execOp
      simp only [hop]
      simp [e5, VT, go_sem]
    | 2, _, ho, hnd, hdep =>
      obtain ⟨hd, hop, hgd⟩ := say_of sT_2 ho
      have x1 : t[17]?.getD undef = _ := hS.at dT_0 (waits (j := 0) (by kernel_rfl) ho hdep)
      simp only [VT] at x1
      have y1 : t[18]?.getD undef = _ := hS.at dT_1 (waits (j := 1) (by kernel_rfl) ho hdep)
      simp only [VT] at y1
      refine iv_val hB ho hgd hd hS rfl ?_
      unfold execOp
      simp only [hop]
      simp [x1, y1, kI, k0, addr_add, VT, go_sem]
    | 3, _, ho, hnd, hdep =>
      obtain ⟨hd, hop, hgd⟩ := say_of sT_3 ho
      have x1 : t[19]?.getD undef = _ := hS.at dT_2 (waits (j := 2) (by kernel_rfl) ho hdep)
      simp only [VT] at x1
      refine iv_val hB ho hgd hd hS rfl ?_
      exact exec_load (a := ⟨t, []⟩) 71 _ hop ga (oa + k * 7) (ic x) _ (by show t.getD 19 undef = _; rw [Array.getD_eq_getD_getElem?]; exact x1) _ (ha.up gd) under45 rfl size45
    | 4, _, ho, hnd, hdep =>
      obtain ⟨hd, hop, hgd⟩ := say_of sT_4 ho
      refine iv_val hB ho hgd hd hS rfl ?_
      unfold execOp
      simp only [hop]
      simp [e1, VT, go_sem]
    | 5, _, ho, hnd, hdep =>
      obtain ⟨hd, hop, hgd⟩ := say_of sT_5 ho
      refine iv_val hB ho hgd hd hS rfl ?_
      unfold execOp
      simp only [hop]
      simp [e5, VT, go_sem]
    | 6, _, ho, hnd, hdep =>
      obtain ⟨hd, hop, hgd⟩ := say_of sT_6 ho
      have x1 : t[21]?.getD undef = _ := hS.at dT_4 (waits (j := 4) (by kernel_rfl) ho hdep)
      simp only [VT] at x1
      have y1 : t[22]?.getD undef = _ := hS.at dT_5 (waits (j := 5) (by kernel_rfl) ho hdep)
      simp only [VT] at y1
      refine iv_val hB ho hgd hd hS rfl ?_
      unfold execOp
      simp only [hop]
      simp [x1, y1, kI, k0, addr_add, VT, go_sem]
    | 7, _, ho, hnd, hdep =>
      obtain ⟨hd, hop, hgd⟩ := say_of sT_7 ho
      have x1 : t[23]?.getD undef = _ := hS.at dT_6 (waits (j := 6) (by kernel_rfl) ho hdep)
      simp only [VT] at x1
      refine iv_val hB ho hgd hd hS rfl ?_
      exact exec_load (a := ⟨t, []⟩) 71 _ hop gb (ob + k * 7) (ic x) _ (by show t.getD 23 undef = _; rw [Array.getD_eq_getD_getElem?]; exact x1) _ (hb.up gd) under45 rfl size45
    | 8, _, ho, hnd, hdep =>
      obtain ⟨hd, hop, hgd⟩ := say_of sT_8 ho
      have x1 : t[20]?.getD undef = _ := hS.at dT_3 (waits (j := 3) (by kernel_rfl) ho hdep)
      simp only [VT] at x1
      have y1 : t[24]?.getD undef = _ := hS.at dT_7 (waits (j := 7) (by kernel_rfl) ho hdep)
      simp only [VT] at y1
      refine iv_val hB ho hgd hd hS rfl ?_
      unfold execOp
      simp only [hop]
      simp [x1, y1, VT, ic, eq71, go_sem]
theorem foldT (ga oa gb ob n ca cb k : Nat) (x : It) (t0 : Array Value) : fold (opsAt Tryz.f24 6) (VT ga oa gb ob n ca cb k x) t0 9 = (((((((((t0.setIfInBounds 17 (.slice (some ⟨ga, oa, none⟩) n ca)).setIfInBounds 18 (.int .i64 (k : Int))).setIfInBounds 19 (.pointer (some ⟨ga, oa + k * 7, none⟩))).setIfInBounds 20 (.agg (ic x))).setIfInBounds 21 (.slice (some ⟨gb, ob, none⟩) n cb)).setIfInBounds 22 (.int .i64 (k : Int))).setIfInBounds 23 (.pointer (some ⟨gb, ob + k * 7, none⟩))).setIfInBounds 24 (.agg (ic x))).setIfInBounds 25 (.bool false)) := by kernel_rfl
set_option maxHeartbeats 2000000 in
set_option maxRecDepth 100000 in
theorem sameItems_any (ao bo : Option Addr) (cp cq : Nat) (L : List It) (w : World) (ha : HasI w (.slice ao L.length cp) L) (hb : HasI w (.slice bo L.length cq) L) (hn : L.length ≤ 1000000) :
    Calls Tryz.prog 24 #[.slice ao L.length cp, .slice bo L.length cq] w fun e w' => e = .returned (.bool true) ∧ G w w' := by
  obtain ⟨n, hn'⟩ : ∃ n, L.length = n := ⟨_, rfl⟩
  have HA := hid ha
  have HB := hid hb
  have HN := hid hn'
  rw [hn'] at hn HA HB ⊢
  have nI : ((n : Int) != (n : Int)) = false := by simp
  clear ha hb hn'
  go_enter Tryz.func24, Tryz.ntmps24
  go_wp2
  go_loopg [5] n (fun gh i wr => ∃ k : Nat, k ≤ n ∧ gh = n - k ∧ i = .int .i64 (k : Int) ∧ Hid (G w wr))
  case atStart => exact ⟨0, Nat.zero_le _, rfl, rfl, G.refl w⟩
  case round =>
    obtain ⟨k, hk, rfl, rfl, HR⟩ := hrel
    by_cases hlt : k < n
    · obtain ⟨x, hx⟩ : ∃ x, L[k]? = some x := ⟨L[k]'(by rw [HN.out]; exact hlt), by simp⟩
      obtain ⟨ga, oa, rfl, la⟩ := HasI.at (HA.out.up HR.out) hx
      obtain ⟨gb, ob, rfl, lb⟩ := HasI.at (HB.out.up HR.out) hx
      have HL := hid (And.intro la lb)
      have kI : (k : Int) < (n : Int) := by omega
      clear hx la lb
      go_upto_region 6 with fail
      refine regT ga oa gb ob n cp cq k x _ wr rfl rfl rfl rfl hlt HL.out.1 HL.out.2 ?_
      rw [foldT]
      obtain ⟨wz, hwz⟩ : ∃ wz, wr.drew = wz := ⟨_, rfl⟩
      have HG2 : Hid (G w wz) := by rw [← hwz]; exact HR.out.up ⟨rfl, rfl, rfl, Nat.le_refl _, fun _ _ => rfl⟩
      rw [hwz]
      clear hwz
      go_simp
      go_wp2
      go_roundg (n - (k + 1))
      case measure => omega
      case rel => exact ⟨k + 1, by omega, rfl, by go_num, HG2.out⟩
    · obtain rfl : k = n := by omega
      have kI : ¬ (k : Int) < (k : Int) := by omega
      go_wp2
      go_ret
      exact ⟨rfl, HR.out⟩
end Go.Proofs.YtpenaeoodfgmpaaGreatDoor
