import Derived.Test.YtlelgboklkmkdaaKSide
set_option maxRecDepth 100000
set_option maxHeartbeats 8000000
/-
  diff.sideBySide's iterator (77) by contract.
-/
namespace Go.Proofs.Ytlelgboklkmkdaa.Ch
open Go.RowKit
attribute [local go_sem] Oper.semAt_some
/-- a pair that names places that are there -/
abbrev Pv (A B : List Kid) : Type := { p : Pr // (∀ i, p.1 = some i → i < A.length) ∧ (∀ j, p.2 = some j → j < B.length) ∧ p ≠ (none, none) }
def ptP (g o : Nat) (k : Option Nat) : Value := .pointer (k.map fun i => ⟨g, o + i * 2, none⟩)
def encP (ga oa gb ob : Nat) {A B : List Kid} (p : Pv A B) : Array Value := #[ptP ga oa p.1.1, ptP gb ob p.1.2]
/-- what a round must keep for sideBySide -/
def KeepD (lo : Nat → Prop) (Ba Bb Bf : Nat) (W W' : World) : Prop := W.heap.size ≤ W'.heap.size ∧ ∀ b, (lo b ∨ b = Ba ∨ b = Bb ∨ b = Bf) → W'.heap[b]? = W.heap[b]?
theorem KeepD.trans {lo : Nat → Prop} {Ba Bb Bf : Nat} {A B C : World} (h : KeepD lo Ba Bb Bf A B) (k : KeepD lo Ba Bb Bf B C) : KeepD lo Ba Bb Bf A C := ⟨Nat.le_trans h.1 k.1, fun b hb => (k.2 b hb).trans (h.2 b hb)⟩
theorem KeepD.refl (lo : Nat → Prop) (Ba Bb Bf : Nat) (W : World) : KeepD lo Ba Bb Bf W W := ⟨Nat.le_refl _, fun _ _ => rfl⟩
theorem KeepD.drew {lo : Nat → Prop} {Ba Bb Bf : Nat} {A B : World} (h : Drew A B) : KeepD lo Ba Bb Bf A B := ⟨by rw [h.heap]; exact Nat.le_refl _, fun b _ => by rw [h.heap]⟩
theorem drew_grown {A B : World} (h : Drew A B) : A.grownBy B none := grown_of h.below
theorem itm_ok {A B : List Kid} {i j : Nat} (h : i < A.length ∨ j < B.length) : (∀ k, (itm A B i j).1 = some k → k < A.length) ∧ (∀ k, (itm A B i j).2 = some k → k < B.length) ∧ itm A B i j ≠ (none, none) := by
  rcases Int.lt_trichotomy (ordA A B i j) 0 with hn | hz | hp
  · rw [(itm_neg hn).1]
    exact ⟨(fun k e => by cases e; exact ord_left h (by omega)), (fun k e => by cases e), by simp⟩
  · rw [(itm_zero hz).1]
    exact ⟨(fun k e => by cases e; exact ord_left h (by omega)), (fun k e => by cases e; exact ord_right h (by omega)), by simp⟩
  · rw [(itm_pos hp).1]
    exact ⟨(fun k e => by cases e), (fun k e => by cases e; exact ord_right h (by omega)), by simp⟩
theorem mg_short {A B : List Kid} {i j : Nat} {ys : List Pr} (h : i < A.length ∨ j < B.length) (e : ys ++ mg A B i j = mg A B 0 0) : ys.length < A.length + B.length := by
  have h1 := mg_len A B 0 0
  rw [← e, mg_step h, List.length_append, List.length_cons] at h1
  unfold rem at h1
  omega
theorem sides1_in (n0 : Nat) (hn0 : 1 ≤ n0) (lo : Nat → Prop) (l Ba Bb Bf ga oa gb ob cp cq : Nat) (ao bo : Option Addr) (A B : List Kid) (J Jx : List (Pv A B) → World → Prop) (W : World) (hJ : AbidesFrom W.heap.size J)
    (hA : ∀ i x, A[i]? = some x → ao = some ⟨ga, oa, none⟩ ∧ lo ga ∧ Lies W ga (oa + i * 2) (kA x)) (hB : ∀ i x, B[i]? = some x → bo = some ⟨gb, ob, none⟩ ∧ lo gb ∧ Lies W gb (ob + i * 2) (kA x))
    (hn : A.length ≤ 10000) (hm : B.length ≤ 10000)
    (ca : W.cell? ⟨Ba, 0, none⟩ = some (.slice ao A.length cp)) (cb : W.cell? ⟨Bb, 0, none⟩ = some (.slice bo B.length cq)) (cf : W.cell? ⟨Bf, 0, none⟩ = some (.func (.func 40) #[] #[]))
    (hY : ∀ pre x W1, J pre W1 → (pre ++ [x]).map (·.1) <+: mg A B 0 0 → YieldAt Fence.wide (n0 - 1) Try.prog l (encP ga oa gb ob x) W1 fun e W' =>
      (e = .returned (.bool true) ∧ J (pre ++ [x]) W' ∧ KeepD lo Ba Bb Bf W1 W') ∨ (e = .returned (.bool false) ∧ Jx (pre ++ [x]) W')) (h0 : J [] W) :
    CallsIn Fence.wide n0 Try.prog 54 #[.func (.yield l) #[] #[], .pointer (some ⟨Ba, 0, none⟩), .pointer (some ⟨Bb, 0, none⟩), .pointer (some ⟨Bf, 0, none⟩)] W fun e W' => (∃ v, e = .returned v) ∧
      ((∃ ys, ys.map (·.1) = mg A B 0 0 ∧ J ys W') ∨ (∃ pre, pre.map (·.1) <+: mg A B 0 0 ∧ Jx pre W')) := by
  obtain ⟨n, hn'⟩ : ∃ n, A.length = n := ⟨_, rfl⟩
  obtain ⟨m, hm'⟩ : ∃ m, B.length = m := ⟨_, rfl⟩
  have HN := hid hn'
  have HM := hid hm'
  have HA := hid hA
  have HB := hid hB
  have HY := hid hY
  have HJ := hid hJ
  have HCC := hid (And.intro ca (And.intro cb cf))
  rw [hn'] at HCC hn
  rw [hm'] at HCC hm
  clear hn' hm' hA hB hY hJ ca cb cf
  refine callsIn_of_wp Try.func54 rfl trivial ?_ rfl
  simp only [Try.ntmps54, List.size_toArray, List.length_cons, List.length_nil, Nat.reduceAdd, Nat.reduceSub, Array.replicate_succ, Array.replicate_zero, List.push_toArray, List.append_toArray, List.nil_append, List.cons_append]
  gi_wp2
  gi_loopw [5, 6] (fun s5 s6 wr => ∃ (i j : Nat) (ys : List (Pv A B)), s5 = .int .i64 (i : Int) ∧ s6 = .int .i64 (j : Int) ∧ i ≤ n ∧ j ≤ m ∧ Hid (J ys wr ∧ ys.map (·.1) ++ mg A B i j = mg A B 0 0 ∧ KeepD lo Ba Bb Bf W wr))
    (fun s5 s6 _ => (n - iOf s5) + (m - iOf s6))
  case atStart => exact ⟨0, 0, [], rfl, rfl, Nat.zero_le _, Nat.zero_le _, h0, by simp, KeepD.refl _ _ _ _ _⟩
  case round =>
    obtain ⟨i, j, ys, rfl, rfl, hi, hj, HI⟩ := hrel
    have ca : wr.cell? ⟨Ba, 0, none⟩ = some (.slice ao n cp) := (World.cell?_of_block (HI.out.2.2.2 Ba (by simp))).trans HCC.out.1
    have cb : wr.cell? ⟨Bb, 0, none⟩ = some (.slice bo m cq) := (World.cell?_of_block (HI.out.2.2.2 Bb (by simp))).trans HCC.out.2.1
    have cf : wr.cell? ⟨Bf, 0, none⟩ = some (.func (.func 40) #[] #[]) := (World.cell?_of_block (HI.out.2.2.2 Bf (by simp))).trans HCC.out.2.2
    by_cases hc : i < A.length ∨ j < B.length
    · by_cases h1 : i = n
      · have h1a : ¬ ((i : Int) < (n : Int)) := by omega
        have h1b : ((i : Int) == (n : Int)) = true := by simp [h1]
        have hjl : j < B.length := by have := HN.out; omega
        have hjm : j < m := by have := HM.out; omega
        have jI : (j : Int) < (m : Int) := by omega
        have j0 : (0 : Int) ≤ (j : Int) := by omega
        obtain ⟨y, hy0⟩ : ∃ y, B[j]? = some y := ⟨B[j], by simp⟩
        obtain ⟨hbo, _, _⟩ := HB.out j y hy0
        subst hbo
        have hord : 0 < ordA A B i j := by unfold ordA; rw [List.getElem?_eq_none (by have := HN.out; omega)]; show (0 : Int) < 1; omega
        have hJq := HI.out.1
        have hKq := HI.out.2.2
        have hok := itm_ok hc
        rw [(itm_pos hord).1] at hok
        obtain ⟨p, hp⟩ : ∃ p : Pv A B, p.1 = (none, some j) := ⟨⟨_, hok⟩, rfl⟩
        obtain ⟨fn, tmps, assign, body, hy, hR⟩ := HY.out ys p wr hJq (by have h1 := snoc_mg hc HI.out.2.1; rw [(itm_pos hord).1] at h1; rw [List.map_append]; simp only [List.map_cons, List.map_nil, hp]; rw [← h1]; exact List.prefix_append _ _)
        have hen : encP ga oa gb ob p = #[ptP ga oa ((none, some j) : Pr).1, ptP gb ob ((none, some j) : Pr).2] := by unfold encP; rw [hp]
        rw [hen] at hy
        simp only [ptP, Option.map_some, Option.map_none] at hy
        have HMG : Hid ((ys ++ [p]).map (·.1) ++ mg A B i (j + 1) = mg A B 0 0) := by
          have h1 := snoc_mg hc HI.out.2.1
          rw [(itm_pos hord).1, (itm_pos hord).2.1, (itm_pos hord).2.2] at h1
          show _ = _
          rw [List.map_append]
          simpa [hp] using h1
        have HKQ := hid hKq
        have PRE : Hid ((ys ++ [p]).map (·.1) <+: mg A B 0 0) := by rw [← HMG.out]; exact List.prefix_append _ _
        clear hok hen HI hJq hKq hc hord
        gi_wp2
        refine hR.mono ?_
        rintro e W3 (⟨rfl, hJ3, hk3⟩ | ⟨rfl, hJx3⟩)
        · have HJ3 : Hid (J (ys ++ [p]) W3 ∧ KeepD lo Ba Bb Bf W W3) := ⟨hJ3, HKQ.out.trans hk3⟩
          clear hJ3 hk3 hR hy HKQ
          gi_wp2
          go_roundw
          case rel => exact ⟨i, j + 1, _, by go_num, by go_num, by omega, by omega, HJ3.out.1, HMG.out, HJ3.out.2⟩
          case measure => simp; omega
        · have HX3 : Hid (Jx (ys ++ [p]) W3) := hJx3
          clear hJx3 hR hy HKQ
          gi_wp2
          refine bodyPost_ret (results_none rfl _ _ _) rfl ?_
          exact ⟨⟨_, rfl⟩, .inr ⟨_, PRE.out, HX3.out⟩⟩
      · have h1a : (i : Int) < (n : Int) := by omega
        have h1b : ((i : Int) == (n : Int)) = false := by simp; omega
        have i0 : (0 : Int) ≤ (i : Int) := by omega
        have hil : i < A.length := by have := HN.out; omega
        obtain ⟨x, hx0⟩ : ∃ x, A[i]? = some x := ⟨A[i], by simp⟩
        obtain ⟨hao, hga, lx⟩ := HA.out i x hx0
        subst hao
        by_cases h2 : j = m
        · have h2b : ((j : Int) == (m : Int)) = true := by simp [h2]
          have hord : ordA A B i j < 0 := by unfold ordA; rw [hx0, List.getElem?_eq_none (by have := HM.out; omega)]; show (-1 : Int) < 0; omega
          have hJq := HI.out.1
          have hKq := HI.out.2.2
          have hok := itm_ok hc
          rw [(itm_neg hord).1] at hok
          obtain ⟨p, hp⟩ : ∃ p : Pv A B, p.1 = (some i, none) := ⟨⟨_, hok⟩, rfl⟩
          obtain ⟨fn, tmps, assign, body, hy, hR⟩ := HY.out ys p wr hJq (by have h1 := snoc_mg hc HI.out.2.1; rw [(itm_neg hord).1] at h1; rw [List.map_append]; simp only [List.map_cons, List.map_nil, hp]; rw [← h1]; exact List.prefix_append _ _)
          have hen : encP ga oa gb ob p = #[ptP ga oa ((some i, none) : Pr).1, ptP gb ob ((some i, none) : Pr).2] := by unfold encP; rw [hp]
          rw [hen] at hy
          simp only [ptP, Option.map_some, Option.map_none] at hy
          have HMG : Hid ((ys ++ [p]).map (·.1) ++ mg A B (i + 1) j = mg A B 0 0) := by
            have h1 := snoc_mg hc HI.out.2.1
            rw [(itm_neg hord).1, (itm_neg hord).2.1, (itm_neg hord).2.2] at h1
            show _ = _
            rw [List.map_append]
            simpa [hp] using h1
          have HKQ := hid hKq
          have PRE : Hid ((ys ++ [p]).map (·.1) <+: mg A B 0 0) := by rw [← HMG.out]; exact List.prefix_append _ _
          clear hok hen HI hJq hKq hc hord
          gi_wp2
          refine hR.mono ?_
          rintro e W3 (⟨rfl, hJ3, hk3⟩ | ⟨rfl, hJx3⟩)
          · have HJ3 : Hid (J (ys ++ [p]) W3 ∧ KeepD lo Ba Bb Bf W W3) := ⟨hJ3, HKQ.out.trans hk3⟩
            clear hJ3 hk3 hR hy HKQ
            gi_wp2
            go_roundw
            case rel => exact ⟨i + 1, j, _, by go_num, by go_num, by omega, by omega, HJ3.out.1, HMG.out, HJ3.out.2⟩
            case measure => simp; omega
          · have HX3 : Hid (Jx (ys ++ [p]) W3) := hJx3
            clear hJx3 hR hy HKQ
            gi_wp2
            refine bodyPost_ret (results_none rfl _ _ _) rfl ?_
            exact ⟨⟨_, rfl⟩, .inr ⟨_, PRE.out, HX3.out⟩⟩
        · have h2b : ((j : Int) == (m : Int)) = false := by simp; omega
          have hjl : j < B.length := by have := HM.out; omega
          have jI : (j : Int) < (m : Int) := by omega
          have j0 : (0 : Int) ≤ (j : Int) := by omega
          obtain ⟨y, hy0⟩ : ∃ y, B[j]? = some y := ⟨B[j], by simp⟩
          obtain ⟨hbo, hgb, ly⟩ := HB.out j y hy0
          subst hbo
          have HLX : Hid (Lies wr ga (oa + i * 2) (kA x)) := fun q u hq => (World.cell?_of_block (HI.out.2.2.2 ga (.inl hga))).trans (lx q u hq)
          have HLY : Hid (Lies wr gb (ob + j * 2) (kA y)) := fun q u hq => (World.cell?_of_block (HI.out.2.2.2 gb (.inl hgb))).trans (ly q u hq)
          obtain ⟨cm, hcm⟩ : ∃ cm, ordA A B i j = cm := ⟨_, rfl⟩
          have hcm2 : cmpB x.nm y.nm = cm := by rw [← hcm]; unfold ordA; rw [hx0, hy0]
          gi_wp2
          refine regQ ga oa n cp i gb ob m cq j cm n0 Ba Bb Bf _ wr rfl rfl rfl rfl rfl rfl x y (by have := HN.out; omega) (by have := HM.out; omega) ca cb cf HLX.out HLY.out hcm2 fun wz hz => ?_
          rw [foldQ]
          have ca2 : wz.cell? ⟨Ba, 0, none⟩ = some (.slice (some ⟨ga, oa, none⟩) n cp) := (hz.cell _).trans ca
          have cb2 : wz.cell? ⟨Bb, 0, none⟩ = some (.slice (some ⟨gb, ob, none⟩) m cq) := (hz.cell _).trans cb
          have hJq : J ys wz := HJ.out _ _ _ none HI.out.1 (drew_grown hz) (fun r e => by cases e)
          have hKq : KeepD lo Ba Bb Bf W wz := HI.out.2.2.trans (KeepD.drew hz)
          clear ca cb cf hcm2 HLX HLY lx ly hga hgb hx0 hy0 hz
          rcases Int.lt_trichotomy cm 0 with hneg | hzero | hpos
          · have o1 : cm ≤ 0 := by omega
            have o2 : ¬ 0 ≤ cm := by omega
            have hord : ordA A B i j < 0 := by rw [hcm]; exact hneg
            go_simp
            have hok := itm_ok hc
            rw [(itm_neg hord).1] at hok
            obtain ⟨p, hp⟩ : ∃ p : Pv A B, p.1 = (some i, none) := ⟨⟨_, hok⟩, rfl⟩
            obtain ⟨fn, tmps, assign, body, hy, hR⟩ := HY.out ys p wz hJq (by have h1 := snoc_mg hc HI.out.2.1; rw [(itm_neg hord).1] at h1; rw [List.map_append]; simp only [List.map_cons, List.map_nil, hp]; rw [← h1]; exact List.prefix_append _ _)
            have hen : encP ga oa gb ob p = #[ptP ga oa ((some i, none) : Pr).1, ptP gb ob ((some i, none) : Pr).2] := by unfold encP; rw [hp]
            rw [hen] at hy
            simp only [ptP, Option.map_some, Option.map_none] at hy
            have HMG : Hid ((ys ++ [p]).map (·.1) ++ mg A B (i + 1) j = mg A B 0 0) := by
              have h1 := snoc_mg hc HI.out.2.1
              rw [(itm_neg hord).1, (itm_neg hord).2.1, (itm_neg hord).2.2] at h1
              show _ = _
              rw [List.map_append]
              simpa [hp] using h1
            have HKQ := hid hKq
            have PRE : Hid ((ys ++ [p]).map (·.1) <+: mg A B 0 0) := by rw [← HMG.out]; exact List.prefix_append _ _
            clear hok hen HI hJq hKq hc hord
            gi_wp2
            refine hR.mono ?_
            rintro e W3 (⟨rfl, hJ3, hk3⟩ | ⟨rfl, hJx3⟩)
            · have HJ3 : Hid (J (ys ++ [p]) W3 ∧ KeepD lo Ba Bb Bf W W3) := ⟨hJ3, HKQ.out.trans hk3⟩
              clear hJ3 hk3 hR hy HKQ
              gi_wp2
              go_roundw
              case rel => exact ⟨i + 1, j, _, by go_num, by go_num, by omega, by omega, HJ3.out.1, HMG.out, HJ3.out.2⟩
              case measure => simp; omega
            · have HX3 : Hid (Jx (ys ++ [p]) W3) := hJx3
              clear hJx3 hR hy HKQ
              gi_wp2
              refine bodyPost_ret (results_none rfl _ _ _) rfl ?_
              exact ⟨⟨_, rfl⟩, .inr ⟨_, PRE.out, HX3.out⟩⟩
          · subst hzero
            have hord : ordA A B i j = 0 := hcm
            go_simp
            have hok := itm_ok hc
            rw [(itm_zero hord).1] at hok
            obtain ⟨p, hp⟩ : ∃ p : Pv A B, p.1 = (some i, some j) := ⟨⟨_, hok⟩, rfl⟩
            obtain ⟨fn, tmps, assign, body, hy, hR⟩ := HY.out ys p wz hJq (by have h1 := snoc_mg hc HI.out.2.1; rw [(itm_zero hord).1] at h1; rw [List.map_append]; simp only [List.map_cons, List.map_nil, hp]; rw [← h1]; exact List.prefix_append _ _)
            have hen : encP ga oa gb ob p = #[ptP ga oa ((some i, some j) : Pr).1, ptP gb ob ((some i, some j) : Pr).2] := by unfold encP; rw [hp]
            rw [hen] at hy
            simp only [ptP, Option.map_some] at hy
            have HMG : Hid ((ys ++ [p]).map (·.1) ++ mg A B (i + 1) (j + 1) = mg A B 0 0) := by
              have h1 := snoc_mg hc HI.out.2.1
              rw [(itm_zero hord).1, (itm_zero hord).2.1, (itm_zero hord).2.2] at h1
              show _ = _
              rw [List.map_append]
              simpa [hp] using h1
            have HKQ := hid hKq
            have PRE : Hid ((ys ++ [p]).map (·.1) <+: mg A B 0 0) := by rw [← HMG.out]; exact List.prefix_append _ _
            clear hok hen HI hJq hKq hc hord
            gi_wp2
            refine hR.mono ?_
            rintro e W3 (⟨rfl, hJ3, hk3⟩ | ⟨rfl, hJx3⟩)
            · have HJ3 : Hid (J (ys ++ [p]) W3 ∧ KeepD lo Ba Bb Bf W W3) := ⟨hJ3, HKQ.out.trans hk3⟩
              clear hJ3 hk3 hR hy HKQ
              gi_wp2
              go_roundw
              case rel => exact ⟨i + 1, j + 1, _, by go_num, by go_num, by omega, by omega, HJ3.out.1, HMG.out, HJ3.out.2⟩
              case measure => simp; omega
            · have HX3 : Hid (Jx (ys ++ [p]) W3) := hJx3
              clear hJx3 hR hy HKQ
              gi_wp2
              refine bodyPost_ret (results_none rfl _ _ _) rfl ?_
              exact ⟨⟨_, rfl⟩, .inr ⟨_, PRE.out, HX3.out⟩⟩
          · have o1 : ¬ cm ≤ 0 := by omega
            have o2 : 0 ≤ cm := by omega
            have hord : 0 < ordA A B i j := by rw [hcm]; exact hpos
            go_simp
            have hok := itm_ok hc
            rw [(itm_pos hord).1] at hok
            obtain ⟨p, hp⟩ : ∃ p : Pv A B, p.1 = (none, some j) := ⟨⟨_, hok⟩, rfl⟩
            obtain ⟨fn, tmps, assign, body, hy, hR⟩ := HY.out ys p wz hJq (by have h1 := snoc_mg hc HI.out.2.1; rw [(itm_pos hord).1] at h1; rw [List.map_append]; simp only [List.map_cons, List.map_nil, hp]; rw [← h1]; exact List.prefix_append _ _)
            have hen : encP ga oa gb ob p = #[ptP ga oa ((none, some j) : Pr).1, ptP gb ob ((none, some j) : Pr).2] := by unfold encP; rw [hp]
            rw [hen] at hy
            simp only [ptP, Option.map_some, Option.map_none] at hy
            have HMG : Hid ((ys ++ [p]).map (·.1) ++ mg A B i (j + 1) = mg A B 0 0) := by
              have h1 := snoc_mg hc HI.out.2.1
              rw [(itm_pos hord).1, (itm_pos hord).2.1, (itm_pos hord).2.2] at h1
              show _ = _
              rw [List.map_append]
              simpa [hp] using h1
            have HKQ := hid hKq
            have PRE : Hid ((ys ++ [p]).map (·.1) <+: mg A B 0 0) := by rw [← HMG.out]; exact List.prefix_append _ _
            clear hok hen HI hJq hKq hc hord
            gi_wp2
            refine hR.mono ?_
            rintro e W3 (⟨rfl, hJ3, hk3⟩ | ⟨rfl, hJx3⟩)
            · have HJ3 : Hid (J (ys ++ [p]) W3 ∧ KeepD lo Ba Bb Bf W W3) := ⟨hJ3, HKQ.out.trans hk3⟩
              clear hJ3 hk3 hR hy HKQ
              gi_wp2
              go_roundw
              case rel => exact ⟨i, j + 1, _, by go_num, by go_num, by omega, by omega, HJ3.out.1, HMG.out, HJ3.out.2⟩
              case measure => simp; omega
            · have HX3 : Hid (Jx (ys ++ [p]) W3) := hJx3
              clear hJx3 hR hy HKQ
              gi_wp2
              refine bodyPost_ret (results_none rfl _ _ _) rfl ?_
              exact ⟨⟨_, rfl⟩, .inr ⟨_, PRE.out, HX3.out⟩⟩
    · have hin : i = n := by have := HN.out; have := HM.out; omega
      have hjm : j = m := by have := HN.out; have := HM.out; omega
      have h1 : ¬ ((i : Int) < (n : Int)) := by omega
      have h2 : ¬ ((j : Int) < (m : Int)) := by omega
      have HF : Hid (ys.map (·.1) = mg A B 0 0 ∧ J ys wr) := by
        have := HI.out.2.1
        rw [mg_done hc, List.append_nil] at this
        exact ⟨this, HI.out.1⟩
      clear HI hc
      gi_wp2
      refine bodyPost_end (results_none rfl _ _ _) rfl ?_
      exact ⟨⟨_, rfl⟩, .inl ⟨ys, HF.out.1, HF.out.2⟩⟩
end Go.Proofs.Ytlelgboklkmkdaa.Ch
/-
  cmp.Or of two pointers; kidsOf nothing; sideBySide's closure.
-/
namespace Go.Proofs.Ytlelgboklkmkdaa
open Go.RowKit
def orP (x y : Option Addr) : Option Addr := match x with | some a => some a | none => y
theorem cmpOr_any (g : Nat) (x y : Option Addr) (w : World) (h0 : w.cell? ⟨g, 0, none⟩ = some (.pointer x)) (h1 : w.cell? ⟨g, 1, none⟩ = some (.pointer y)) :
    Calls Try.prog 41 #[.slice (some ⟨g, 0, none⟩) 2 2] w fun e w' => e = .returned (.pointer (orP x y)) ∧ w' = w := by
  go_enter Try.func41, Try.ntmps41
  go_wp2
  go_loopg [8] 2 (fun gh i wr => ∃ k : Nat, k ≤ 2 ∧ gh = 2 - k ∧ i = .int .i64 (k : Int) ∧ wr = w ∧ (1 ≤ k → x = none) ∧ (2 ≤ k → y = none))
  case atStart => exact ⟨0, by omega, rfl, rfl, rfl, by omega, by omega⟩
  case round =>
    obtain ⟨k, hk, rfl, rfl, hw, hx, hy⟩ := hrel
    subst hw
    match k, hk, hx, hy with
    | 0, _, _, _ =>
      rw [show ((0 : Nat) : Int) = 0 from rfl]
      cases x with
      | none =>
        go_wp2
        go_roundg (2 - (0 + 1))
        case measure => omega
        case rel => exact ⟨1, by omega, rfl, rfl, rfl, by simp, by omega⟩
      | some a =>
        go_wp2
        go_ret
        exact ⟨rfl, rfl⟩
    | 1, _, hx, _ =>
      obtain rfl := hx (by omega)
      rw [show ((1 : Nat) : Int) = 1 from rfl]
      cases y with
      | none =>
        go_wp2
        go_roundg (2 - (1 + 1))
        case measure => omega
        case rel => exact ⟨2, by omega, rfl, rfl, rfl, by simp, by simp⟩
      | some a =>
        go_wp2
        go_ret
        exact ⟨rfl, rfl⟩
    | 2, _, hx, hy =>
      obtain rfl := hx (by omega)
      obtain rfl := hy (by omega)
      rw [show ((2 : Nat) : Int) = 2 from rfl]
      go_wp2
      go_ret
      exact ⟨rfl, rfl⟩
theorem kidsOf_none (w : World) : Calls Try.prog 39 #[.pointer none] w fun e w' => e = .returned (.slice none 0 0) ∧ w' = w := by
  go_enter Try.func39, Try.ntmps39
  go_wp2
  all_goals go_ret
  all_goals exact ⟨rfl, rfl⟩
theorem sides_any (va vb : Value) (w : World) (ha : va.oneCell' = true) (hb : vb.oneCell' = true) : Calls Try.prog 38 #[va, vb, .func (.func 40) #[] #[]] w fun e w' => e = .returned (.func (.func 54) #[] #[.pointer (some ⟨w.heap.size, 0, none⟩), .pointer (some ⟨w.heap.size + 1, 0, none⟩), .pointer (some ⟨w.heap.size + 1 + 1, 0, none⟩)]) ∧
    w' = ((w.alloc (.cells #[va] 97)).alloc (.cells #[vb] 97)).alloc (.cells #[.func (.func 40) #[] #[]] 99) := by
  have hmf : ∀ (fn : Fn) (first cap : Array Value) (w : World), (Instr.makeFunc fn first cap).run Try.prog w = .ok (.func fn first cap) w := fun _ _ _ _ => rfl
  go_enter Try.func38, Try.ntmps38
  go_wp2
  go_ret
  exact ⟨rfl, rfl⟩
end Go.Proofs.Ytlelgboklkmkdaa
