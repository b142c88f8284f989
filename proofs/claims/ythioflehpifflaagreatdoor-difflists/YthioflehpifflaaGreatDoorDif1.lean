/-
  Lists of changes that are read; diff.comparePaths, diff.rises by contract.
-/
import Derived.Test.YthioflehpifflaaGreatDoorBk0
import Derived.Test.YthioflehpifflaaGreatDoorOrder
import Derived.Deep.LoopGhost
namespace Go.Proofs.YthioflehpifflaaGreatDoor
open Go.RowKit

/-- a slice that holds these changes, wherever it begins -/
def HasA (w : World) (v : Value) (L : List Cd) : Prop := (v = .slice none 0 0 ∧ L = []) ∨ ∃ g o cap, v = .slice (some ⟨g, o, none⟩) L.length cap ∧ L.length ≤ cap ∧ ∀ i x, L[i]? = some x → Lies w g (o + i * 71) (cc x)
theorem HasA.at {w : World} {ao : Option Addr} {n cp : Nat} {L : List Cd} (h : HasA w (.slice ao n cp) L) {i : Nat} {x : Cd} (hi : L[i]? = some x) : ∃ g o, ao = some ⟨g, o, none⟩ ∧ Lies w g (o + i * 71) (cc x) := by
  rcases h with ⟨_, rfl⟩ | ⟨g, o, cap, e, _, h⟩
  · simp at hi
  · injection e with e1 _ _
    exact ⟨g, o, e1, h i x hi⟩
theorem HasA.below {w w' : World} {v : Value} {L : List Cd} (h : HasA w v L) (hb : Below w.heap.size w w') : HasA w' v L := by
  rcases h with h | ⟨g, o, cap, e, hc, h⟩
  · exact .inl h
  · exact .inr ⟨g, o, cap, e, hc, fun i x hi => (h i x hi).below hb⟩
theorem HasA.form {w : World} {v : Value} {L : List Cd} (h : HasA w v L) : ∃ ao cap, v = .slice ao L.length cap ∧ L.length ≤ cap := by
  rcases h with ⟨rfl, rfl⟩ | ⟨g, o, cap, e, hc, _⟩
  · exact ⟨none, 0, rfl, Nat.le_refl _⟩
  · exact ⟨_, cap, e, hc⟩
theorem HasQ.has {w : World} {v : Value} {L : List Cd} (h : HasQ w v L) : HasA w v L := by
  have h0 := h
  rcases h with ⟨rfl, e⟩ | ⟨g, cap, rfl, hc, _⟩
  · exact .inl ⟨rfl, List.length_eq_zero_iff.1 e⟩
  · refine .inr ⟨g, 0, cap, rfl, hc, fun i y hi => ?_⟩
    obtain ⟨g', e', hl⟩ := h0.at hi
    injection e' with e'
    injection e' with e'
    subst e'
    rw [Nat.zero_add]
    exact hl
theorem hid {p : Prop} (h : p) : Hid p := h
set_option maxRecDepth 100000 in
theorem comparePaths_any (g1 o1 g2 o2 : Nat) (c1 c2 : Cd) (w : World) (h1 : Lies w g1 o1 (cc c1)) (h2 : Lies w g2 o2 (cc c2)) (b1 : c1.path.size ≤ 1048576) (b2 : c2.path.size ≤ 1048576) :
    Calls Tryz.prog 53 #[.pointer (some ⟨g1, o1, none⟩), .pointer (some ⟨g2, o2, none⟩)] w fun e w' => e = .returned (.int .i64 (cmpL (tl c1.path) (tl c2.path))) ∧ Drew w w' := by
  have q1 := h1.path
  have q2 := h2.path
  have CC := fun W => compare_any c1.path c2.path W (by omega) (by omega)
  clear h1 h2
  go_enter Tryz.func53, Tryz.ntmps53
  go_wp2_with fail
  go_quiet ((go_at_call 78; exact Calls.quiet_of (CC _)))
  go_wp2
  go_ret
  exact ⟨rfl, _, rfl⟩
/-- what stands ahead is smaller -/
def ahead (prev : Option Cd) (c : Cd) : Bool := match prev with | none => true | some p => decide (cmpL (tl p.path) (tl c.path) < 0)
/-- paths are paths and rise, and each change changes something -/
def riseB (prev : Option Cd) : List Cd → Bool
  | [] => true
  | c :: L => decide (splitE (tl c.path) 64 = 0) && !decide (c.old = c.new) && ahead prev c && riseB (some c) L
theorem riseB_cons (prev : Option Cd) (c : Cd) (L : List Cd) : riseB prev (c :: L) = (decide (splitE (tl c.path) 64 = 0) && !decide (c.old = c.new) && ahead prev c && riseB (some c) L) := rfl
def prevOf (L : List Cd) (k : Nat) : Option Cd := if k = 0 then none else L[k - 1]?
set_option maxHeartbeats 4000000 in
set_option maxRecDepth 100000 in
theorem rises_any (ao : Option Addr) (cp : Nat) (L : List Cd) (w : World) (h : HasA w (.slice ao L.length cp) L) (hn : L.length ≤ 1000000) (hp : ∀ c ∈ L, c.path.size ≤ 1048576) :
    Calls Tryz.prog 51 #[.slice ao L.length cp] w fun e w' => e = .returned (.bool (riseB none L)) ∧ Below w.heap.size w w' := by
  obtain ⟨n, hn'⟩ : ∃ n, L.length = n := ⟨_, rfl⟩
  have HA := hid h
  have HN := hid hn'
  have HP := hid hp
  rw [hn'] at hn HA ⊢
  clear h hn' hp
  go_enter Tryz.func51, Tryz.ntmps51
  go_wp2
  go_loopg [9] n (fun gh i wr => ∃ k : Nat, k ≤ n ∧ gh = n - k ∧ i = .int .i64 (k : Int) ∧ Hid (Below w.heap.size w wr) ∧ Hid (riseB none L = riseB (prevOf L k) (L.drop k)))
  case atStart => exact ⟨0, Nat.zero_le _, rfl, rfl, Below.refl _ _, by show riseB none L = riseB (prevOf L 0) (L.drop 0); rw [List.drop_zero]; rfl⟩
  case round =>
    obtain ⟨k, hk, rfl, rfl, HS, HR⟩ := hrel
    by_cases hlt : k < n
    · have i1 : (k : Int) < (n : Int) := by omega
      have i0 : (0 : Int) ≤ (k : Int) := by omega
      obtain ⟨r, hx⟩ : ∃ r, L[k]? = some r := ⟨L[k]'(by rw [HN.out]; exact hlt), by simp⟩
      obtain ⟨ga, oa, rfl, la⟩ := (HA.out.below HS.out).at hx
      have hd : L.drop k = r :: L.drop (k + 1) := by
        rw [List.drop_eq_getElem_cons (by rw [HN.out]; exact hlt)]
        rw [List.getElem?_eq_getElem (by rw [HN.out]; exact hlt)] at hx
        injection hx with hx
        rw [hx]
      have hs := HP.out r (List.mem_of_getElem? hx)
      have hpn : prevOf L (k + 1) = some r := by simp [prevOf, hx]
      have HRK : Hid (riseB none L = (decide (splitE (tl r.path) 64 = 0) && !decide (r.old = r.new) && ahead (prevOf L k) r && riseB (prevOf L (k + 1)) (L.drop (k + 1)))) := by
        show riseB none L = _
        rw [HR.out, hd, riseB_cons, hpn]
      obtain ⟨B1, hB1⟩ : ∃ B1, wr.heap.size = B1 := ⟨_, rfl⟩
      have n1 := new_varT wr 55 z55 (cc r)
      have g1 := n1.1
      rw [hB1] at n1
      obtain ⟨w1, hw1⟩ : ∃ w1, (wr.alloc (.cells z55 55)).setRow B1 (cc r) = w1 := ⟨_, rfl⟩
      rw [hw1] at n1
      rw [hB1, hw1] at g1
      have g1' : Below wr.heap.size wr w1 := by rw [hB1]; exact g1
      have lv : Lies w1 B1 0 (cc r) := fun j u hj => by simp only [World.cell?, n1.2.1, Nat.zero_add]; exact hj
      have c0 : w1.cell? ⟨B1, 0, none⟩ = some (.string r.path) := lv.path
      have HLV := hid lv
      have HLa : Hid (Lies wr ga (oa + k * 71) (cc r)) := la
      have HS1 : Hid (Below w.heap.size w w1) := Below.up HS.out g1'
      have HA1 : Hid ((wr.alloc (.cells z55 55)).heap[B1]? = some (.cells z55 55 (0, 0))) := by rw [← hB1]; exact World.alloc_heap_new wr _
      have HSP := hid (split_any r.path 64 w1 hs)
      obtain ⟨X, hX⟩ : ∃ X, cc r = X := ⟨_, rfl⟩
      have HX : Hid (X.size = 71 ∧ X.all (·.oneCell') = true) := ⟨by rw [← hX]; exact cc_size r, by rw [← hX]; exact cc_one r⟩
      rw [hX] at HLa hw1
      have HW1 := hid hw1
      have HXX := hid hX
      obtain ⟨se, hse⟩ : ∃ se, splitE (tl r.path) 64 = se := ⟨_, rfl⟩
      have HSE := hid hse
      rw [hse] at HSP
      clear la lv n1 g1 g1' hw1 hX hse hd hpn HR
      go_upto_region 4 with (first
        | ((with_reducible refine wpList_exec (.agg X) ?_ ?_ ?_); exact exec_load 55 _ rfl ga (oa + k * 71) rfl X _ HLa.out under55 rfl (by rw [size55, HX.out.1]); kernel_rfl)
        | ((with_reducible refine wpList_execW (.pointer (some ⟨B1, 0, none⟩)) (wr.alloc (.cells z55 55)) ?_ ?_ ?_); exact exec_allocT 55 z55 rfl zero55 _ _ hB1; kernel_rfl)
        | ((with_reducible refine wpList_skipW w1 ?_ ?_ ?_); exact (by rw [← HW1.out]; exact exec_storeT 55 _ _ rfl B1 X z55 rfl rfl _ HA1.out (by rw [size55, HX.out.1]) (by rw [z55_size, HX.out.1]) HX.out.2); kernel_rfl))
      go_upto_region 5 with (go_at_call 76; refine HSP.out.mono ?_; rintro e w2 ⟨⟨sv, SL, rfl, _, _⟩, hb2⟩)
      have HS2 : Hid (Below w.heap.size w w2) := Below.up HS1.out hb2
      have HL2 : Hid (Lies w2 B1 0 (cc r)) := HLV.out.below hb2
      clear HSP hb2 c0 HS1 HLV HA1 HW1
      by_cases he : se = 0
      · subst he
        have HO : Hid (Lies w2 B1 1 (vx r.old).toArray) := by have := HL2.out.old; rwa [Nat.zero_add] at this
        have HNw : Hid (Lies w2 B1 36 (vx r.new).toArray) := by have := HL2.out.new; rwa [Nat.zero_add] at this
        obtain ⟨YO, hYO⟩ : ∃ Y, (vx r.old).toArray = Y := ⟨_, rfl⟩
        obtain ⟨YN, hYN⟩ : ∃ Y, (vx r.new).toArray = Y := ⟨_, rfl⟩
        have HYO : Hid ((vx r.old).toArray = YO ∧ YO.size = 35) := ⟨hYO, by rw [← hYO]; simp [vx_len]⟩
        have HYN : Hid ((vx r.new).toArray = YN ∧ YN.size = 35) := ⟨hYN, by rw [← hYN]; simp [vx_len]⟩
        rw [hYO] at HO
        rw [hYN] at HNw
        clear hYO hYN
        by_cases hon : r.old = r.new
        · have HBO : Hid (decide (r.old = r.new) = true) := by show decide (r.old = r.new) = true; simp [hon]
          have HE : Hid (riseB none L = false) := by
            show riseB none L = false
            rw [HRK.out]; simp [hon]
          go_wp2_with (first
          | ((with_reducible refine wpList_exec (.agg YO) ?_ ?_ ?_); exact exec_load53 _ rfl B1 1 rfl YO HYO.out.2 HO.out; kernel_rfl)
          | ((with_reducible refine wpList_exec (.agg YN) ?_ ?_ ?_); exact exec_load53 _ rfl B1 36 rfl YN HYN.out.2 HNw.out; kernel_rfl)
          | ((with_reducible refine wpList_exec (.bool true) ?_ ?_ ?_); exact exec_eq53' _ _ rfl YO YN rfl rfl r.old r.new HYO.out.1.symm HYN.out.1.symm true HBO.out _; kernel_rfl))
          go_ret
          exact ⟨by rw [HE.out]; rfl, HS2.out⟩
        · have HBO : Hid (decide (r.old = r.new) = false) := by show decide (r.old = r.new) = false; simp [hon]
          go_upto_region 7 with (first
          | ((with_reducible refine wpList_exec (.agg YO) ?_ ?_ ?_); exact exec_load53 _ rfl B1 1 rfl YO HYO.out.2 HO.out; kernel_rfl)
          | ((with_reducible refine wpList_exec (.agg YN) ?_ ?_ ?_); exact exec_load53 _ rfl B1 36 rfl YN HYN.out.2 HNw.out; kernel_rfl)
          | ((with_reducible refine wpList_exec (.bool false) ?_ ?_ ?_); exact exec_eq53' _ _ rfl YO YN rfl rfl r.old r.new HYO.out.1.symm HYN.out.1.symm false HBO.out _; kernel_rfl))
          rcases Nat.eq_zero_or_pos k with hk0 | hk0
          · subst hk0
            have HE : Hid (riseB none L = riseB (prevOf L (0 + 1)) (L.drop (0 + 1))) := by
              show riseB none L = _
              rw [HRK.out, HSE.out]; simp [hon, prevOf, ahead]
            go_wp2
            go_roundg (n - (0 + 1))
            case measure => omega
            case rel => exact ⟨0 + 1, by omega, rfl, by go_num, HS2, HE⟩
          · obtain ⟨j, rfl⟩ : ∃ j, k = j + 1 := ⟨k - 1, by omega⟩
            obtain ⟨p, hpx⟩ : ∃ p, L[j]? = some p := ⟨L[j]'(by rw [HN.out]; omega), by simp⟩
            have hps := HP.out p (List.mem_of_getElem? hpx)
            obtain ⟨ga', oa', e', lp⟩ := (HA.out.below HS2.out).at hpx
            injection e' with e'
            injection e' with e1' e2' _
            subst e1' e2'
            have j1 : (j : Int) < (n : Int) := by omega
            have j2 : (0 : Int) < ((j + 1 : Nat) : Int) := by omega
            have j3 : ((j + 1 : Nat) : Int) - 1 = (j : Int) := by omega
            have CP := hid (comparePaths_any ga (oa + j * 71) B1 0 p r w2 lp HL2.out hps hs)
            obtain ⟨cm, hcm⟩ : ∃ cm, cmpL (tl p.path) (tl r.path) = cm := ⟨_, rfl⟩
            rw [hcm] at CP
            have HE : Hid (riseB none L = (decide (cm < 0) && riseB (prevOf L (j + 1 + 1)) (L.drop (j + 1 + 1)))) := by
              show riseB none L = _
              rw [HRK.out, HSE.out, ← hcm]; simp [hon, prevOf, ahead, hpx]
            clear lp hpx hcm HRK
            by_cases hcm0 : cm < 0
            · have hge : ¬ (0 : Int) ≤ cm := by omega
              have HE2 : Hid (riseB none L = riseB (prevOf L (j + 1 + 1)) (L.drop (j + 1 + 1))) := by
                show riseB none L = _
                rw [HE.out]; simp [hcm0]
              go_wp2_with (go_at_call 53; refine CP.out.mono ?_; rintro e w3 ⟨rfl, hd3⟩)
              have HS3 : Hid (Below w.heap.size w w3) := Below.drews HS2.out hd3
              go_roundg (n - (j + 1 + 1))
              case measure => omega
              case rel => exact ⟨j + 1 + 1, by omega, rfl, by go_num, HS3, HE2⟩
            · have hge : (0 : Int) ≤ cm := by omega
              have HE2 : Hid (riseB none L = false) := by
                show riseB none L = _
                rw [HE.out]; simp [hcm0]
              go_wp2_with (go_at_call 53; refine CP.out.mono ?_; rintro e w3 ⟨rfl, hd3⟩)
              go_ret
              exact ⟨by rw [HE2.out]; rfl, Below.drews HS2.out hd3⟩
      · have HE : Hid (riseB none L = false) := by
          show riseB none L = false
          rw [HRK.out, HSE.out]; simp [he]
        have he' : (se != 0) = true := by simpa using he
        go_wp2
        go_ret
        exact ⟨by rw [HE.out]; rfl, HS2.out⟩
    · obtain rfl : k = n := by omega
      have i1 : ¬ ((k : Int) < (k : Int)) := by omega
      have HE : Hid (riseB none L = true) := by
        show riseB none L = true
        rw [HR.out, List.drop_of_length_le (by rw [HN.out]; omega)]
        rfl
      go_wp2
      go_ret
      exact ⟨by rw [HE.out]; rfl, HS.out⟩
end Go.Proofs.YthioflehpifflaaGreatDoor
