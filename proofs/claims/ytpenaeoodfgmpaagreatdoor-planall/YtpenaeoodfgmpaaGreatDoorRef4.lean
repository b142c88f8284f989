/-
  twineref15.need by contract.
-/
import Derived.Test.YtpenaeoodfgmpaaGreatDoorRefN
import Derived.Test.YtpenaeoodfgmpaaGreatDoorRef3
import Derived.Test.YtpenaeoodfgmpaaGreatDoorFew
namespace Go.Proofs.YtpenaeoodfgmpaaGreatDoor
open Go.RowKit

/-- balance and most, of names or of bytes -/
def ab (C : List Cd) (T : List It) (v : Int) (bs : Bool) (k : Nat) : Int × Int := if bs then (acc C T v k).2 else (acc C T v k).1
theorem ab_in {C : List Cd} {T : List It} {v : Int} {bs : Bool} (hO : ∀ c ∈ C, c.ok) (hP : ∀ c ∈ C, c.pos) (k : Nat) : InR (ab C T v bs k).1 ∧ InR (ab C T v bs k).2 := by
  have h := acc_in (T := T) (v := v) hO hP k
  unfold ab
  split
  · exact ⟨h.2.2.1, h.2.2.2⟩
  · exact ⟨h.1, h.2.1⟩
theorem ab_skip {C : List Cd} {T : List It} {v : Int} {bs : Bool} {k : Nat} {t : It} (ht : T[k]? = some t) (h : ¬ (t.to = v ∧ t.what = 3)) : ab C T v bs (k + 1) = ab C T v bs k := by
  unfold ab
  simp only [acc, ht, if_neg h]
theorem ab_take {C : List Cd} {T : List It} {v : Int} {bs : Bool} {k i : Nat} {t : It} {c : Cd} (ht : T[k]? = some t) (h : t.to = v ∧ t.what = 3) (hi : t.cell = (i : Int)) (hc : C[i]? = some c) : ab C T v bs (k + 1) = brg (ab C T v bs k) (if bs then c.bytes else c.names) (if bs then c.hb else c.hn) := by
  unfold ab
  have e : cellOf C t = some c := by unfold cellOf; rw [hi]; exact hc
  simp only [acc, ht, if_pos h, e]
  cases bs <;> rfl
set_option maxHeartbeats 4000000 in
set_option maxRecDepth 100000 in
theorem rneed_any (ao bo : Option Addr) (cp cq : Nat) (L : List Cd) (T : List It) (v : Int) (bs : Bool) (w : World) (hv : HasC w (.slice ao L.length cp) L) (hT : HasI w (.slice bo T.length cq) T) (htn : T.length ≤ 400) (hTc : ∀ t ∈ T, ∃ (i : Nat) (c : Cd), L[i]? = some c ∧ t.cell = (i : Int)) :
    Calls Tryz.prog 18 #[.agg #[.slice ao L.length cp], .slice bo T.length cq, .int .i64 v, .bool bs] w fun e w' => e = .returned (.int .i64 (ab (L.map cnt) T v bs T.length).2) ∧ G w w' := by
  obtain ⟨n, hn'⟩ : ∃ n, L.length = n := ⟨_, rfl⟩
  obtain ⟨tn, htn'⟩ : ∃ tn, T.length = tn := ⟨_, rfl⟩
  obtain ⟨M, hM⟩ : ∃ M, w.heap.size = M := ⟨_, rfl⟩
  have HV := hid hv
  have HT := hid hT
  have HN := hid (And.intro hn' htn')
  have HTC := hid hTc
  have HOK : Hid (∀ c ∈ L, c.ok) := hv.choose_spec.choose_spec.2.2
  have HAB := hid (fun k => ab_in (C := L.map cnt) (T := T) (v := v) (bs := bs) (fun c hc => by obtain ⟨d, hd, rfl⟩ := List.mem_map.1 hc; exact cnt_ok (HOK.out d hd)) (fun c hc => by obtain ⟨d, _, rfl⟩ := List.mem_map.1 hc; exact cnt_pos d) k)
  obtain ⟨w0, hw0⟩ : ∃ w0, w.alloc (.cells #[.slice ao L.length cp] 24) = w0 := ⟨_, rfl⟩
  have HG0 : Hid (G w w0) := by rw [← hw0]; exact G.al _ _
  have HM0 : Hid (w0.heap[M]? = some (.cells #[.slice ao L.length cp] 24 (0, 0))) := by rw [← hw0, ← hM]; exact heap_alloc_new _ _
  rw [hn'] at HV hw0 HM0 ⊢
  rw [htn'] at htn HT ⊢
  clear hv hn' hT htn' hTc
  go_enter Tryz.func18, Tryz.ntmps18
  go_wp2
  clear hM hw0
  go_loopg [9, 10, 11] tn (fun gh mo ba i wr => ∃ k : Nat, k ≤ tn ∧ gh = tn - k ∧ i = .int .i64 (k : Int) ∧ mo = .int .i64 (ab (L.map cnt) T v bs k).2 ∧ ba = .int .i64 (ab (L.map cnt) T v bs k).1 ∧ Hid (G w0 wr))
  case atStart => exact ⟨0, Nat.zero_le _, rfl, rfl, by unfold ab; cases bs <;> rfl, by unfold ab; cases bs <;> rfl, G.refl w0⟩
  case round =>
    obtain ⟨k, hk, rfl, rfl, rfl, rfl, HR⟩ := hrel
    by_cases hlt : k < tn
    · obtain ⟨t, ht⟩ : ∃ t, T[k]? = some t := ⟨T[k]'(by rw [HN.out.2]; exact hlt), by simp⟩
      obtain ⟨i, c, hc, hti⟩ := HTC.out t (List.mem_of_getElem? ht)
      obtain ⟨gi, oi, rfl, hli⟩ := (HT.out.up (HG0.out.up HR.out)).at ht
      obtain ⟨g, o, rfl, hl⟩ := hasC_at (HV.out.up (HG0.out.up HR.out)) hc
      have hin : i < n := by have := (List.getElem?_eq_some_iff.1 hc).1; rw [HN.out.1] at this; exact this
      have x1 : wr.cell? ⟨gi, oi + k * 7 + 1, none⟩ = some (.int .i64 (i : Int)) := by rw [← hti]; exact hli 1 _ rfl
      have x3 : wr.cell? ⟨gi, oi + k * 7 + 3, none⟩ = some (.int .i64 t.what) := hli 3 _ rfl
      have x5 : wr.cell? ⟨gi, oi + k * 7 + 5, none⟩ = some (.int .i64 t.to) := hli 5 _ rfl
      have kI : (k : Int) < (tn : Int) := by omega
      have k0 : (0 : Int) ≤ (k : Int) := by omega
      have hm : wr.cell? ⟨M, 0, none⟩ = some (.slice (some ⟨g, o, none⟩) n cp) := cell_of_row _ _ 0 _ _ _ ((HR.out.block M (Array.getElem?_eq_some_iff.1 HM0.out).1).trans HM0.out)
      by_cases hcase : t.to = v ∧ t.what = 3
      · have hC : (L.map cnt)[i]? = some (cnt c) := by rw [List.getElem?_map, hc]; rfl
        have hab := ab_take (bs := bs) ht hcase hti hC
        have hin2 := HAB.out k
        have hok := HOK.out c (List.mem_of_getElem? hc)
        have e1 : (t.to != v) = false := by simp [hcase.1]
        have e2 : (t.what != 3) = false := by simp [hcase.2]
        have u1 := up0_nn c.names
        have u2 := up0_nn c.hn
        have u3 := up0_nn c.bytes
        have u4 := up0_nn c.hb
        have v1 := up0_in hok.2.2.2.2.2.1
        have v3 := up0_in hok.2.2.2.2.2.2.1
        have v2 := up0_in hok.2.2.2.2.2.2.2.1
        have v4 := up0_in hok.2.2.2.2.2.2.2.2
        have A1 := hid (fun W => above0_q c.names W)
        have A2 := hid (fun W => above0_q c.hn W)
        have A3 := hid (fun W => above0_q c.bytes W)
        have A4 := hid (fun W => above0_q c.hb W)
        have ec1 : (cnt c).names = up0 c.names := rfl
        have ec2 : (cnt c).hn = up0 c.hn := rfl
        have ec3 : (cnt c).bytes = up0 c.bytes := rfl
        have ec4 : (cnt c).hb = up0 c.hb := rfl
        rw [ec1, ec2, ec3, ec4] at hab
        have HAB2 := hid hab
        have HH := hid (And.intro hm (And.intro x1 hl))
        obtain ⟨BB, hBB⟩ : ∃ BB, wr.heap.size = BB := ⟨_, rfl⟩
        obtain ⟨w7, hw7⟩ : ∃ w7, wr.drew.alloc (.cells (cc c) 62) = w7 := ⟨_, rfl⟩
        have cqq : ∀ i u, (cc c)[i]? = some u → w7.cell? ⟨BB, i, none⟩ = some u := fun i u hi => by
          rw [← hw7, ← hBB]; exact (cell_of_row _ _ i _ _ _ (heap_alloc_new wr.drew _)).trans hi
        have c6 : w7.cell? ⟨BB, 6, none⟩ = some (.int .i64 c.names) := cqq 6 _ rfl
        have c7 : w7.cell? ⟨BB, 7, none⟩ = some (.int .i64 c.bytes) := cqq 7 _ rfl
        have c8 : w7.cell? ⟨BB, 8, none⟩ = some (.int .i64 c.hn) := cqq 8 _ rfl
        have c9 : w7.cell? ⟨BB, 9, none⟩ = some (.int .i64 c.hb) := cqq 9 _ rfl
        have g7 : G wr w7 := by rw [← hw7]; exact G.up (w1 := wr.drew) ⟨rfl, rfl, rfl, Nat.le_refl _, fun _ _ => rfl⟩ (G.al _ _)
        have HG7 := hid (HR.out.up g7)
        obtain ⟨ba, hba⟩ : ∃ ba, (ab (L.map cnt) T v bs k).1 = ba := ⟨_, rfl⟩
        obtain ⟨mo, hmo⟩ : ∃ mo, (ab (L.map cnt) T v bs k).2 = mo := ⟨_, rfl⟩
        have HBM := hid (And.intro hba hmo)
        rw [hba, hmo] at hin2
        rw [hba, hmo]
        clear ht hc hli hl hti hcase hC hab hok ec1 ec2 ec3 ec4 cqq g7 hba hmo hm x1
        generalize up0 c.names = un at *
        generalize up0 c.hn = uh at *
        generalize up0 c.bytes = ub at *
        generalize up0 c.hb = uk at *
        go_upto_region 6 with fail
        refine need_reg M g o n cp gi oi tn cq k i BB c _ wr rfl rfl rfl rfl hBB HH.out.1 hlt hin HH.out.2.1 HH.out.2.2 ?_
        rw [foldN, hw7]
        clear hw7 hBB x3 x5 HH e1 e2
        go_simp
        go_upto_region 7 with fail
        go_quiet ((first | (go_at_call_of 63 (Value.int IntKind.i64 c.names); exact Calls.quiet_of_same (A1.out _)) | (go_at_call 63; exact Calls.quiet_of_same (A2.out _))))
        obtain ⟨w8, hw8⟩ : ∃ w8, w7.drewN nq = w8 := ⟨_, rfl⟩
        have g8 : G w7 w8 := by rw [← hw8]; exact (G.refl w7).drewN nq
        have d7 := (g8.cell (p := ⟨BB, 7, none⟩) (World.block_lt_of_cell? w7 _ c7)).trans c7
        have d9 := (g8.cell (p := ⟨BB, 9, none⟩) (World.block_lt_of_cell? w7 _ c9)).trans c9
        have HG8 := hid (HG7.out.up g8)
        rw [hw8]
        clear hw8 g8 c6 c7 c8 c9
        cases bs with
        | false =>
          have HGF := HG8
          clear d7 d9
          have CP := hid (fun W => rplus_any ba un W hin2.1 v1 u1)
          have hpi := pl_in hin2.1 v1 u1
          obtain ⟨b1, hb1⟩ : ∃ b1, pl ba un = b1 := ⟨_, rfl⟩
          rw [hb1] at CP hpi
          have CL := hid (fun W => rless_any b1 uh W hpi v2 u2)
          obtain ⟨b2, hb2⟩ : ∃ b2, ms b1 uh = b2 := ⟨_, rfl⟩
          rw [hb2] at CL
          obtain ⟨m1, hm1⟩ : ∃ m1, (if mo < b1 then b1 else mo) = m1 := ⟨_, rfl⟩
          have HE : Hid (ab (L.map cnt) T v false (k + 1) = (b2, m1)) := by
            have hh := HAB2.out
            simp only [Bool.false_eq_true, if_false] at hh
            refine hh.trans ?_
            unfold brg
            rw [HBM.out.1, HBM.out.2, hb1, hb2, ← hm1]
            unfold mx
            congr 1
            split <;> split <;> omega
          clear hb1 hb2 hpi hin2 HAB2 HBM
          go_wp2_with (first
            | (go_at_call 64; refine (CP.out _).mono ?_; rintro e w2 ⟨rfl, rfl⟩)
            | (go_at_call 65; refine (CL.out _).mono ?_; rintro e w2 ⟨rfl, rfl⟩))
          go_roundg (tn - (k + 1))
          case measure => omega
          case rel => exact ⟨k + 1, by omega, rfl, by go_num, by rw [HE.out], by rw [HE.out], HGF.out⟩
        | true =>
          go_upto_region 9 with fail
          go_quiet ((first | (go_at_call_of 63 (Value.int IntKind.i64 c.bytes); exact Calls.quiet_of_same (A3.out _)) | (go_at_call 63; exact Calls.quiet_of_same (A4.out _))))
          obtain ⟨w9, hw9⟩ : ∃ w9, w8.drewN nq = w9 := ⟨_, rfl⟩
          have HGF : Hid (G w0 w9) := by rw [← hw9]; exact HG8.out.up ((G.refl w8).drewN _)
          rw [hw9]
          clear hw9 d7 d9
          have CP := hid (fun W => rplus_any ba ub W hin2.1 v3 u3)
          have hpi := pl_in hin2.1 v3 u3
          obtain ⟨b1, hb1⟩ : ∃ b1, pl ba ub = b1 := ⟨_, rfl⟩
          rw [hb1] at CP hpi
          have CL := hid (fun W => rless_any b1 uk W hpi v4 u4)
          obtain ⟨b2, hb2⟩ : ∃ b2, ms b1 uk = b2 := ⟨_, rfl⟩
          rw [hb2] at CL
          obtain ⟨m1, hm1⟩ : ∃ m1, (if mo < b1 then b1 else mo) = m1 := ⟨_, rfl⟩
          have HE : Hid (ab (L.map cnt) T v true (k + 1) = (b2, m1)) := by
            have hh := HAB2.out
            simp only [if_true] at hh
            refine hh.trans ?_
            unfold brg
            rw [HBM.out.1, HBM.out.2, hb1, hb2, ← hm1]
            unfold mx
            congr 1
            split <;> split <;> omega
          clear hb1 hb2 hpi hin2 HAB2 HBM
          go_wp2_with (first
            | (go_at_call 64; refine (CP.out _).mono ?_; rintro e w2 ⟨rfl, rfl⟩)
            | (go_at_call 65; refine (CL.out _).mono ?_; rintro e w2 ⟨rfl, rfl⟩))
          go_roundg (tn - (k + 1))
          case measure => omega
          case rel => exact ⟨k + 1, by omega, rfl, by go_num, by rw [HE.out], by rw [HE.out], HGF.out⟩
      · have HS := hid (ab_skip (C := L.map cnt) (bs := bs) ht hcase)
        have hor : (t.to != v) = true ∨ ((t.to != v) = false ∧ (t.what != 3) = true) := by
          by_cases h : t.to = v
          · exact .inr ⟨by simp [h], by simpa using fun h2 => hcase ⟨h, h2⟩⟩
          · exact .inl (by simpa using h)
        clear ht hc hli hl hti hcase
        rcases hor with e1 | ⟨e1, e2⟩
        · go_wp2
          go_roundg (tn - (k + 1))
          case measure => omega
          case rel => exact ⟨k + 1, by omega, rfl, by go_num, by rw [HS.out], by rw [HS.out], HR.out⟩
        · go_wp2
          go_roundg (tn - (k + 1))
          case measure => omega
          case rel => exact ⟨k + 1, by omega, rfl, by go_num, by rw [HS.out], by rw [HS.out], HR.out⟩
    · obtain rfl : k = tn := by omega
      go_wp2
      go_ret
      exact ⟨rfl, HG0.out.up HR.out⟩
end Go.Proofs.YtpenaeoodfgmpaaGreatDoor
