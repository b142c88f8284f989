/-
  The law's own same (7): lists that hold the same.
-/
import Derived.Test.YthioflehpifflaaGreatDoorApp
import Derived.Test.YthioflehpifflaaGreatDoorInvG
namespace Go.Proofs.YthioflehpifflaaGreatDoor
open Go.RowKit

theorem backS : backB (opsAt Tryz.f7 6) = true := by kernel_rfl
theorem dstS : dstB (opsAt Tryz.f7 6) 26 = true := by kernel_rfl
theorem sizeS : (opsAt Tryz.f7 6).size = 9 := by kernel_rfl
theorem freeS0 : freeB (opsAt Tryz.f7 6) 0 = true := by kernel_rfl
theorem freeS1 : freeB (opsAt Tryz.f7 6) 1 = true := by kernel_rfl
theorem freeS5 : freeB (opsAt Tryz.f7 6) 5 = true := by kernel_rfl
def VS (ga oa gb ob n ca cb k : Nat) (x : Cd) : Nat → Value
  | 0 => .slice (some ⟨ga, oa, none⟩) n ca
  | 1 => .int .i64 (k : Int)
  | 2 => .pointer (some ⟨ga, oa + k * 71, none⟩)
  | 3 => .agg (cc x)
  | 4 => .slice (some ⟨gb, ob, none⟩) n cb
  | 5 => .int .i64 (k : Int)
  | 6 => .pointer (some ⟨gb, ob + k * 71, none⟩)
  | 7 => .agg (cc x)
  | 8 => .bool false
  | _ => undef
theorem sS_0 : say (opsAt Tryz.f7 6) 0 = some (some 17, .move (.tmp 0), none) := by kernel_rfl
theorem dS_0 : slotB (opsAt Tryz.f7 6) 0 = some 17 := by kernel_rfl
theorem sS_1 : say (opsAt Tryz.f7 6) 1 = some (some 18, .move (.tmp 5), none) := by kernel_rfl
theorem dS_1 : slotB (opsAt Tryz.f7 6) 1 = some 18 := by kernel_rfl
theorem sS_2 : say (opsAt Tryz.f7 6) 2 = some (some 19, .indexAddr 22 (.tmp 17) (.tmp 18), none) := by kernel_rfl
theorem dS_2 : slotB (opsAt Tryz.f7 6) 2 = some 19 := by kernel_rfl
theorem sS_3 : say (opsAt Tryz.f7 6) 3 = some (some 20, .load 55 (.tmp 19), none) := by kernel_rfl
theorem dS_3 : slotB (opsAt Tryz.f7 6) 3 = some 20 := by kernel_rfl
theorem sS_4 : say (opsAt Tryz.f7 6) 4 = some (some 21, .move (.tmp 1), none) := by kernel_rfl
theorem dS_4 : slotB (opsAt Tryz.f7 6) 4 = some 21 := by kernel_rfl
theorem sS_5 : say (opsAt Tryz.f7 6) 5 = some (some 22, .move (.tmp 5), none) := by kernel_rfl
theorem dS_5 : slotB (opsAt Tryz.f7 6) 5 = some 22 := by kernel_rfl
theorem sS_6 : say (opsAt Tryz.f7 6) 6 = some (some 23, .indexAddr 22 (.tmp 21) (.tmp 22), none) := by kernel_rfl
theorem dS_6 : slotB (opsAt Tryz.f7 6) 6 = some 23 := by kernel_rfl
theorem sS_7 : say (opsAt Tryz.f7 6) 7 = some (some 24, .load 55 (.tmp 23), none) := by kernel_rfl
theorem dS_7 : slotB (opsAt Tryz.f7 6) 7 = some 24 := by kernel_rfl
theorem sS_8 : say (opsAt Tryz.f7 6) 8 = some (some 25, .binOp .neq 55 (.tmp 20) (.tmp 24) 55, none) := by kernel_rfl
theorem dS_8 : slotB (opsAt Tryz.f7 6) 8 = some 25 := by kernel_rfl
set_option maxHeartbeats 4000000 in
set_option maxRecDepth 100000 in
theorem regS (ga oa gb ob n ca cb k : Nat) (x : Cd)  (t0 : Array Value) (wr : World) {Q : Exit → Act → World → Prop} (ht : t0.size = 26) (h0 : t0.getD 0 undef = .slice (some ⟨ga, oa, none⟩) n ca) (h1 : t0.getD 1 undef = .slice (some ⟨gb, ob, none⟩) n cb) (h5 : t0.getD 5 undef = .int .i64 (k : Int))
    (hk : k < n) (ha : Lies wr ga (oa + k * 71) (cc x)) (hb : Lies wr gb (ob + k * 71) (cc x))
    (hQ : Q .normal ⟨fold (opsAt Tryz.f7 6) (VS ga oa gb ob n ca cb k x) t0 9, []⟩ wr.drew) : (Code.region 6 (opsAt Tryz.f7 6) true).wp Tryz.prog Q ⟨t0, []⟩ wr := by
  have hB : dstB (opsAt Tryz.f7 6) t0.size = true := by rw [ht]; exact dstS
  have kI : (k : Int) < (n : Int) := by omega
  have k0 : (0 : Int) ≤ (k : Int) := by omega
  refine inv_region (by kernel_rfl) (IV (opsAt Tryz.f7 6) (VS ga oa gb ob n ca cb k x) t0 (fun done w => w = (wr.drew))) backS ⟨t0, rfl, ⟨rfl, fun _ _ => rfl, fun _ _ _ _ _ h => by cases h⟩, by simp⟩ ?_ ?_
  rotate_left 1
  · rintro done a w ⟨t, rfl, hS, hw⟩ hall
    rw [hS.end hB hall, sizeS]
    rw [hw]
    exact hQ
  · rintro j op done a w ho ⟨t, rfl, hS, hw⟩ hnd hdep hcl
    have e0 : t[0]?.getD undef = .slice (some ⟨ga, oa, none⟩) n ca := (hS.old freeS0).trans h0
    have e1 : t[1]?.getD undef = .slice (some ⟨gb, ob, none⟩) n cb := (hS.old freeS1).trans h1
    have e5 : t[5]?.getD undef = .int .i64 (k : Int) := (hS.old freeS5).trans h5
    have hlt : j < 9 := by rw [← sizeS]; exact (Array.getElem?_eq_some_iff.1 ho).1
    match j, hlt, ho, hnd, hdep with
    | 0, _, ho, hnd, hdep =>
      obtain ⟨hd, hop, hgd⟩ := say_of sS_0 ho
      refine iv_val hB ho hgd hd hS (by simpa [upd] using hw) ?_
      unfold execOp
      simp only [hop]
      simp [e0, VS, go_sem]
    | 1, _, ho, hnd, hdep =>
      obtain ⟨hd, hop, hgd⟩ := say_of sS_1 ho
      refine iv_val hB ho hgd hd hS (by simpa [upd] using hw) ?_
      unfold execOp
      simp only [hop]
      simp [e5, VS, go_sem]
    | 2, _, ho, hnd, hdep =>
      obtain ⟨hd, hop, hgd⟩ := say_of sS_2 ho
      have x17 : t[17]?.getD undef = _ := hS.at dS_0 (waits (j := 0) (by kernel_rfl) ho hdep)
      simp only [VS] at x17
      have x18 : t[18]?.getD undef = _ := hS.at dS_1 (waits (j := 1) (by kernel_rfl) ho hdep)
      simp only [VS] at x18
      refine iv_val hB ho hgd hd hS (by simpa [upd] using hw) ?_
      unfold execOp
      simp only [hop]
      simp [x17, x18, VS, kI, k0, addr_add, go_sem]
    | 3, _, ho, hnd, hdep =>
      obtain ⟨hd, hop, hgd⟩ := say_of sS_3 ho
      have x19 : t[19]?.getD undef = _ := hS.at dS_2 (waits (j := 2) (by kernel_rfl) ho hdep)
      simp only [VS] at x19
      refine iv_val hB ho hgd hd hS (by simpa [upd] using hw) ?_
      exact exec_load (a := ⟨t, []⟩) 55 _ hop ga (oa + k * 71) (by show t.getD 19 undef = _; rw [Array.getD_eq_getD_getElem?]; exact x19) (cc x) _ (by rw [hw]; exact (ha).drew ⟨1, rfl⟩) under55 rfl (by rw [size55, cc_size])
    | 4, _, ho, hnd, hdep =>
      obtain ⟨hd, hop, hgd⟩ := say_of sS_4 ho
      refine iv_val hB ho hgd hd hS (by simpa [upd] using hw) ?_
      unfold execOp
      simp only [hop]
      simp [e1, VS, go_sem]
    | 5, _, ho, hnd, hdep =>
      obtain ⟨hd, hop, hgd⟩ := say_of sS_5 ho
      refine iv_val hB ho hgd hd hS (by simpa [upd] using hw) ?_
      unfold execOp
      simp only [hop]
      simp [e5, VS, go_sem]
    | 6, _, ho, hnd, hdep =>
      obtain ⟨hd, hop, hgd⟩ := say_of sS_6 ho
      have x21 : t[21]?.getD undef = _ := hS.at dS_4 (waits (j := 4) (by kernel_rfl) ho hdep)
      simp only [VS] at x21
      have x22 : t[22]?.getD undef = _ := hS.at dS_5 (waits (j := 5) (by kernel_rfl) ho hdep)
      simp only [VS] at x22
      refine iv_val hB ho hgd hd hS (by simpa [upd] using hw) ?_
      unfold execOp
      simp only [hop]
      simp [x21, x22, VS, kI, k0, addr_add, go_sem]
    | 7, _, ho, hnd, hdep =>
      obtain ⟨hd, hop, hgd⟩ := say_of sS_7 ho
      have x23 : t[23]?.getD undef = _ := hS.at dS_6 (waits (j := 6) (by kernel_rfl) ho hdep)
      simp only [VS] at x23
      refine iv_val hB ho hgd hd hS (by simpa [upd] using hw) ?_
      exact exec_load (a := ⟨t, []⟩) 55 _ hop gb (ob + k * 71) (by show t.getD 23 undef = _; rw [Array.getD_eq_getD_getElem?]; exact x23) (cc x) _ (by rw [hw]; exact (hb).drew ⟨1, rfl⟩) under55 rfl (by rw [size55, cc_size])
    | 8, _, ho, hnd, hdep =>
      obtain ⟨hd, hop, hgd⟩ := say_of sS_8 ho
      have x20 : t[20]?.getD undef = _ := hS.at dS_3 (waits (j := 3) (by kernel_rfl) ho hdep)
      simp only [VS] at x20
      have x24 : t[24]?.getD undef = _ := hS.at dS_7 (waits (j := 7) (by kernel_rfl) ho hdep)
      simp only [VS] at x24
      refine iv_val hB ho hgd hd hS (by simpa [upd] using hw) ?_
      exact exec_neq55' (a := ⟨t, []⟩) _ _ hop (cc x) (cc x) (by show t.getD 20 undef = _; rw [Array.getD_eq_getD_getElem?]; exact x20) (by show t.getD 24 undef = _; rw [Array.getD_eq_getD_getElem?]; exact x24) x x rfl rfl false (by simp) _
theorem foldS (ga oa gb ob n ca cb k : Nat) (x : Cd) (t0 : Array Value) : fold (opsAt Tryz.f7 6) (VS ga oa gb ob n ca cb k x) t0 9 = (((((((((t0.setIfInBounds 17 (.slice (some ⟨ga, oa, none⟩) n ca)).setIfInBounds 18 (.int .i64 (k : Int))).setIfInBounds 19 (.pointer (some ⟨ga, oa + k * 71, none⟩))).setIfInBounds 20 (.agg (cc x))).setIfInBounds 21 (.slice (some ⟨gb, ob, none⟩) n cb)).setIfInBounds 22 (.int .i64 (k : Int))).setIfInBounds 23 (.pointer (some ⟨gb, ob + k * 71, none⟩))).setIfInBounds 24 (.agg (cc x))).setIfInBounds 25 (.bool false)) := by kernel_rfl

set_option maxHeartbeats 2000000 in
set_option maxRecDepth 100000 in
theorem same_any (ao bo : Option Addr) (cp cq : Nat) (L : List Cd) (w : World) (ha : HasA w (.slice ao L.length cp) L) (hb : HasA w (.slice bo L.length cq) L) (hn : L.length ≤ 1000000) :
    Calls Tryz.prog 7 #[.slice ao L.length cp, .slice bo L.length cq] w fun e w' => e = .returned (.bool true) ∧ Drew w w' := by
  obtain ⟨n, hn'⟩ : ∃ n, L.length = n := ⟨_, rfl⟩
  have HA := hid ha
  have HB := hid hb
  have HN := hid hn'
  rw [hn'] at hn HA HB ⊢
  have nI : ((n : Int) != (n : Int)) = false := by simp
  clear ha hb hn'
  go_enter Tryz.func7, Tryz.ntmps7
  go_wp2
  go_loopg [5] n (fun gh i wr => ∃ k : Nat, k ≤ n ∧ gh = n - k ∧ i = .int .i64 (k : Int) ∧ Hid (Drew w wr))
  case atStart => exact ⟨0, Nat.zero_le _, rfl, rfl, Drew.refl w⟩
  case round =>
    obtain ⟨k, hk, rfl, rfl, HR⟩ := hrel
    by_cases hlt : k < n
    · obtain ⟨x, hx⟩ : ∃ x, L[k]? = some x := ⟨L[k]'(by rw [HN.out]; exact hlt), by simp⟩
      obtain ⟨ga, oa, rfl, la⟩ := (HA.out.below HR.out.below).at hx
      obtain ⟨gb, ob, rfl, lb⟩ := (HB.out.below HR.out.below).at hx
      have HL := hid (And.intro la lb)
      have kI : (k : Int) < (n : Int) := by omega
      clear hx la lb
      go_upto_region 6 with fail
      refine regS ga oa gb ob n cp cq k x _ wr rfl rfl rfl rfl hlt HL.out.1 HL.out.2 ?_
      rw [foldS]
      obtain ⟨wz, hwz⟩ : ∃ wz, wr.drew = wz := ⟨_, rfl⟩
      have HG2 : Hid (Drew w wz) := by rw [← hwz]; exact HR.out.trans ⟨1, rfl⟩
      rw [hwz]
      clear hwz
      go_simp
      go_wp2
      go_roundg (n - (k + 1))
      case measure => omega
      case rel => exact ⟨k + 1, by omega, rfl, by go_num, HG2.out⟩
    · obtain rfl : k = n := by omega
      have kI : ¬ (k : Int) < (k : Int) := by omega
      go_wp2
      go_ret
      exact ⟨rfl, HR.out⟩
end Go.Proofs.YthioflehpifflaaGreatDoor
