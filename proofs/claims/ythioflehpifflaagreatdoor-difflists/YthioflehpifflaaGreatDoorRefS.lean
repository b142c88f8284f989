/-
  The reference's rises (54) by contract.
-/
import Derived.Test.YthioflehpifflaaGreatDoorRefR
namespace Go.Proofs.YthioflehpifflaaGreatDoor
open Go.RowKit

set_option maxHeartbeats 4000000 in
set_option maxRecDepth 100000 in
theorem refRises_any (ao : Option Addr) (cp : Nat) (L : List Cd) (w : World) (h : HasA w (.slice ao L.length cp) L) (hn : L.length ≤ 1000000) (hp : ∀ c ∈ L, c.path.size ≤ 1048576) :
    Calls Tryz.prog 54 #[.slice ao L.length cp] w fun e w' => e = .returned (.bool (riseB none L)) ∧ Below w.heap.size w w' := by
  obtain ⟨n, hn'⟩ : ∃ n, L.length = n := ⟨_, rfl⟩
  have HA := hid h
  have HN := hid hn'
  have HP := hid hp
  rw [hn'] at hn HA ⊢
  clear h hn' hp
  go_enter Tryz.func54, Tryz.ntmps54
  go_wp2
  go_loopg [3] n (fun gh i wr => ∃ k : Nat, k ≤ n ∧ gh = n - k ∧ i = .int .i64 (k : Int) ∧ Hid (Below w.heap.size w wr) ∧ Hid (riseB none L = riseB (prevOf L k) (L.drop k)))
  case atStart => exact ⟨0, Nat.zero_le _, rfl, rfl, Below.refl _ _, by show riseB none L = riseB (prevOf L 0) (L.drop 0); rw [List.drop_zero]; rfl⟩
  case round =>
    obtain ⟨k, hk, rfl, rfl, HS, HR⟩ := hrel
    by_cases hlt : k < n
    · have i1 : (k : Int) < (n : Int) := by omega
      obtain ⟨r, hx⟩ : ∃ r, L[k]? = some r := ⟨L[k]'(by rw [HN.out]; exact hlt), by simp⟩
      obtain ⟨ga, oa, rfl, la⟩ := (HA.out.below HS.out).at hx
      have hd : L.drop k = r :: L.drop (k + 1) := by
        rw [List.drop_eq_getElem_cons (by rw [HN.out]; exact hlt)]
        rw [List.getElem?_eq_getElem (by rw [HN.out]; exact hlt)] at hx
        injection hx with hx
        rw [hx]
      have hs := HP.out r (List.mem_of_getElem? hx)
      have hpn : prevOf L (k + 1) = some r := by simp [prevOf, hx]
      have HRK : Hid (riseB none L = (decide (splitE (tl r.path) 64 = 0) && !decide (r.old = r.new) && ahead (prevOf L k) r && riseB (prevOf L (k + 1)) (L.drop (k + 1)))) := by
        show riseB none L = _
        rw [HR.out, hd, riseB_cons, hpn]
      have HLa := hid la
      have HSS := hid hs
      clear la hd hpn HR hs
      go_upto_region 4 with fail
      by_cases he : splitE (tl r.path) 64 = 0
      · by_cases hon : r.old = r.new
        · have HE : Hid (riseB none L = false) := by
            show riseB none L = false
            rw [HRK.out]; simp [hon]
          refine regRB ga oa n cp k r _ _ _ wr rfl rfl rfl hlt HLa.out HSS.out (by simpa using he) rfl rfl (by simpa using hon) fun wz hz => ?_
          rw [foldRB]
          have HZ : Hid (Below w.heap.size w wz) := Below.up HS.out hz
          generalize (vx r.old).toArray = YO
          generalize (vx r.new).toArray = YN
          clear hz HRK HLa HSS hx
          go_simp
          go_wp2
          go_ret
          exact ⟨by rw [HE.out]; rfl, HZ.out⟩
        · rcases Nat.eq_zero_or_pos k with hk0 | hk0
          · have HE : Hid (riseB none L = riseB (prevOf L (k + 1)) (L.drop (k + 1))) := by
              show riseB none L = _
              rw [HRK.out]; subst hk0; simp [hon, prevOf, ahead, he]
            refine regRC ga oa n cp k r _ _ _ wr rfl rfl rfl hlt HLa.out HSS.out (by simpa using he) rfl rfl (by simpa using hon) hk0 fun wz hz => ?_
            rw [foldRC]
            have HZ : Hid (Below w.heap.size w wz) := Below.up HS.out hz
            generalize (vx r.old).toArray = YO
            generalize (vx r.new).toArray = YN
            clear hz HRK HLa HSS hx
            go_simp
            go_wp2
            go_roundg (n - (k + 1))
            case measure => omega
            case rel => exact ⟨k + 1, by omega, rfl, by go_num, HZ, HE⟩
          · obtain ⟨p, hpx⟩ : ∃ p, L[k - 1]? = some p := ⟨L[k - 1]'(by rw [HN.out]; omega), by simp⟩
            have hps := HP.out p (List.mem_of_getElem? hpx)
            obtain ⟨ga', oa', e', lp⟩ := (HA.out.below HS.out).at hpx
            injection e' with e'
            injection e' with e1' e2' _
            subst e1' e2'
            obtain ⟨cm, hcm⟩ : ∃ cm, cmpL (tl p.path) (tl r.path) = cm := ⟨_, rfl⟩
            have hpv : prevOf L k = some p := by rw [prevOf, if_neg (by omega)]; exact hpx
            have HE : Hid (riseB none L = (decide (cm < 0) && riseB (prevOf L (k + 1)) (L.drop (k + 1)))) := by
              show riseB none L = _
              rw [HRK.out, ← hcm, hpv]; simp [hon, he, ahead]
            by_cases hcm0 : cm < 0
            · have HE2 : Hid (riseB none L = riseB (prevOf L (k + 1)) (L.drop (k + 1))) := by
                show riseB none L = _
                rw [HE.out]; simp [hcm0]
              refine regRE ga oa n cp k r _ _ p cm _ wr rfl rfl rfl hlt HLa.out HSS.out (by simpa using he) rfl rfl (by simpa using hon) hn hk0 lp hps hcm (by omega) fun wz hz => ?_
              rw [foldRE]
              have HZ : Hid (Below w.heap.size w wz) := Below.up HS.out hz
              generalize (vx r.old).toArray = YO
              generalize (vx r.new).toArray = YN
              clear hz HRK HLa HSS hx lp hps hpx hcm hpv
              go_simp
              go_wp2
              go_roundg (n - (k + 1))
              case measure => omega
              case rel => exact ⟨k + 1, by omega, rfl, by go_num, HZ, HE2⟩
            · have HE2 : Hid (riseB none L = false) := by
                show riseB none L = _
                rw [HE.out]; simp [hcm0]
              refine regRD ga oa n cp k r _ _ p cm _ wr rfl rfl rfl hlt HLa.out HSS.out (by simpa using he) rfl rfl (by simpa using hon) hn hk0 lp hps hcm (by omega) fun wz hz => ?_
              rw [foldRD]
              have HZ : Hid (Below w.heap.size w wz) := Below.up HS.out hz
              generalize (vx r.old).toArray = YO
              generalize (vx r.new).toArray = YN
              clear hz HRK HLa HSS hx lp hps hpx hcm hpv
              go_simp
              go_wp2
              go_ret
              exact ⟨by rw [HE2.out]; rfl, HZ.out⟩
      · have HE : Hid (riseB none L = false) := by
          show riseB none L = false
          rw [HRK.out]; simp [he]
        refine regRA ga oa n cp k r _ wr rfl rfl rfl hlt HLa.out HSS.out (by simpa using he) fun wz hz => ?_
        rw [foldRA]
        have HZ : Hid (Below w.heap.size w wz) := Below.up HS.out hz
        clear hz HRK HLa HSS hx
        go_simp
        go_wp2
        go_ret
        exact ⟨by rw [HE.out]; rfl, HZ.out⟩
    · obtain rfl : k = n := by omega
      have i1 : ¬ ((k : Int) < (k : Int)) := by omega
      have HE : Hid (riseB none L = true) := by
        show riseB none L = true
        rw [HR.out, List.drop_of_length_le (by rw [HN.out]; omega)]
        rfl
      go_wp2
      go_ret
      exact ⟨by rw [HE.out]; rfl, HS.out⟩
end Go.Proofs.YthioflehpifflaaGreatDoor
