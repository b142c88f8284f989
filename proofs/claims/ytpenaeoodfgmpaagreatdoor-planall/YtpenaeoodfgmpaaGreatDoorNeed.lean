/-
  plan.need by contract.
-/
import Derived.Test.YtpenaeoodfgmpaaGreatDoorItems
namespace Go.Proofs.YtpenaeoodfgmpaaGreatDoor
open Go.RowKit

/-- a list of items lies there -/
def HasI (w : World) (v : Value) (T : List It) : Prop :=
  ∃ ao cap, v = .slice ao T.length cap ∧ (∀ (i : Nat) (t : It), T[i]? = some t → ∃ g o, ao = some ⟨g, o, none⟩ ∧ Lies w g (o + i * 7) (ic t))
theorem HasI.up {w w' : World} {v : Value} {L : List It} (h : HasI w v L) (hb : G w w') : HasI w' v L := by
  obtain ⟨ao, cap, hv, h⟩ := h
  refine ⟨ao, cap, hv, fun i c hi => ?_⟩
  obtain ⟨g, o, ha, hl⟩ := h i c hi
  exact ⟨g, o, ha, hl.up hb⟩
theorem OwnsI.has {w : World} {lo : Nat} {v : Value} {T : List It} (h : OwnsI w lo v T) : HasI w v T := by
  have h0 := h
  obtain ⟨_, ⟨rfl, hl⟩ | ⟨g, cap, cur, rfl, hr⟩⟩ := h
  · refine ⟨none, 0, by rw [hl], fun i t hi => ?_⟩
    have := List.length_eq_zero_iff.1 hl
    subst this
    simp at hi
  · refine ⟨_, cap, rfl, fun i t hi => ⟨g, 0, rfl, fun j u hj => ?_⟩⟩
    have hj' : j < 7 := by have := (Array.getElem?_eq_some_iff.1 hj).1; simpa [ic_size] using this
    have hlt := (List.getElem?_eq_some_iff.1 hi).1
    rw [Nat.zero_add, World.ownsRow.cellAt h0 _ (by omega), flat_at ic_size hi hj']
    exact hj
/-- what need holds: its result and its two accounts, above all that was there -/
def DS (w wr : World) (h : Nat) (a : (Int × Int) × (Int × Int)) : Prop := wr.heap[h]? = some (.cells #[.int .i64 0, .int .i64 0] 52 (0, 0)) ∧ AccAt wr (h + 1) a.1 ∧ AccAt wr (h + 1 + 1) a.2 ∧ w.heap.size = h ∧ G w wr
theorem AccAt.up {w w' : World} {p : Nat} {a : Int × Int} (h : AccAt w p a) (hb : G w w') : AccAt w' p a := (hb.block p (Array.getElem?_eq_some_iff.1 h).1).trans h
theorem AccAt.far {w w' : World} {p q : Nat} {a : Int × Int} (h : AccAt w p a) (hb : But q w w') (hn : p ≠ q) : AccAt w' p a := (hb.block p (Array.getElem?_eq_some_iff.1 h).1 hn).trans h
theorem DS.up {w wr w' : World} {h : Nat} {a : (Int × Int) × (Int × Int)} (h1 : DS w wr h a) (hb : G wr w') : DS w w' h a :=
  ⟨(hb.block h (Array.getElem?_eq_some_iff.1 h1.1).1).trans h1.1, h1.2.1.up hb, h1.2.2.1.up hb, h1.2.2.2.1, h1.2.2.2.2.up hb⟩
theorem DS.one {w wr w' : World} {h : Nat} {a : (Int × Int) × (Int × Int)} {x : Int × Int} (h1 : DS w wr h a) (hb : But (h + 1) wr w') (hx : AccAt w' (h + 1) x) : DS w w' h (x, a.2) :=
  ⟨(hb.block h (Array.getElem?_eq_some_iff.1 h1.1).1 (by omega)).trans h1.1, hx, h1.2.2.1.far hb (by omega), h1.2.2.2.1, h1.2.2.2.2.trans (hb.below (by have := h1.2.2.2.1; omega) h1.2.2.2.2.size)⟩
theorem DS.two {w wr w' : World} {h : Nat} {a : (Int × Int) × (Int × Int)} {x : Int × Int} (h1 : DS w wr h a) (hb : But (h + 1 + 1) wr w') (hx : AccAt w' (h + 1 + 1) x) : DS w w' h (a.1, x) :=
  ⟨(hb.block h (Array.getElem?_eq_some_iff.1 h1.1).1 (by omega)).trans h1.1, h1.2.1.far hb (by omega), hx, h1.2.2.2.1, h1.2.2.2.2.trans (hb.below (by have := h1.2.2.2.1; omega) h1.2.2.2.2.size)⟩
theorem acc_skip {L : List Cd} {T : List It} {v : Int} {k : Nat} {t : It} (h : T[k]? = some t) (hn : ¬ (t.to = v ∧ t.what = 3)) : acc L T v (k + 1) = acc L T v k := by
  simp only [acc, h, if_neg hn]
theorem acc_step {L : List Cd} {T : List It} {v : Int} {k : Nat} {t : It} {c : Cd} (h : T[k]? = some t) (hn : t.to = v ∧ t.what = 3) (hc : cellOf L t = some c) : acc L T v (k + 1) = (brg (acc L T v k).1 c.names c.hn, brg (acc L T v k).2 c.bytes c.hb) := by
  simp only [acc, h, if_pos hn, hc]
set_option maxHeartbeats 4000000 in
set_option maxRecDepth 100000 in
theorem need_any (ao bo : Option Addr) (cp cq : Nat) (L : List Cd) (T : List It) (v : Int) (w : World) (hv : HasC w (.slice ao L.length cp) L) (hT : HasI w (.slice bo T.length cq) T) (hP : ∀ c ∈ L, c.pos) (hC : ∀ t ∈ T, ∃ (i : Nat) (c : Cd), L[i]? = some c ∧ t.cell = (i : Int)) (hm : T.length ≤ 400) :
    Calls Tryz.prog 23 #[.slice ao L.length cp, .slice bo T.length cq, .int .i64 v] w fun e w' => e = .returned (.agg #[.int .i64 (acc L T v T.length).1.2, .int .i64 (acc L T v T.length).2.2]) ∧ G w w' := by
  obtain ⟨n, hn'⟩ : ∃ n, L.length = n := ⟨_, rfl⟩
  obtain ⟨m, hm'⟩ : ∃ m, T.length = m := ⟨_, rfl⟩
  have HV := hid hv
  have HT := hid hT
  have HP := hid hP
  have HO : Hid (∀ c ∈ L, c.ok) := hv.choose_spec.choose_spec.2.2
  have HC := hid hC
  have HN := hid hn'
  have HM := hid hm'
  rw [hn', hm']
  rw [hm'] at hm
  have HS0 : Hid (DS w (((w.alloc (.cells #[.int .i64 0, .int .i64 0] 52)).alloc (.cells #[.int .i64 0, .int .i64 0] 97)).alloc (.cells #[.int .i64 0, .int .i64 0] 97)) w.heap.size (acc L T v 0)) := by
    have g1 := G.al w (.cells #[.int .i64 0, .int .i64 0] 52)
    have g2 := G.al (w.alloc (.cells #[.int .i64 0, .int .i64 0] 52)) (.cells #[.int .i64 0, .int .i64 0] 97)
    have g3 := G.al ((w.alloc (.cells #[.int .i64 0, .int .i64 0] 52)).alloc (.cells #[.int .i64 0, .int .i64 0] 97)) (.cells #[.int .i64 0, .int .i64 0] 97)
    refine ⟨?_, ?_, ?_, rfl, (g1.up g2).up g3⟩
    · rw [g3.block _ (by simp; omega), g2.block _ (by simp)]; exact heap_alloc_new _ _
    · unfold AccAt; rw [g3.block _ (by simp)]
      have := heap_alloc_new (w.alloc (.cells #[.int .i64 0, .int .i64 0] 52)) (.cells #[.int .i64 0, .int .i64 0] 97)
      simpa [acc] using this
    · unfold AccAt
      have := heap_alloc_new ((w.alloc (.cells #[.int .i64 0, .int .i64 0] 52)).alloc (.cells #[.int .i64 0, .int .i64 0] 97)) (.cells #[.int .i64 0, .int .i64 0] 97)
      simpa [acc] using this
  obtain ⟨h, hh⟩ : ∃ h, w.heap.size = h := ⟨_, rfl⟩
  clear hv hT hP hC hn' hm'
  go_enter Tryz.func23, Tryz.ntmps23
  go_wp2
  rw [hh] at HS0
  have HH := hid hh
  clear hh
  go_loopw [14] (fun i wr => ∃ k : Nat, k ≤ m ∧ i = .int .i64 k ∧ Hid (DS w wr h (acc L T v k))) (fun i _ => m - (intOf i).toNat)
  case atStart => exact ⟨0, Nat.zero_le _, rfl, HS0.out⟩
  case round =>
    clear HS0
    obtain ⟨k, hk, rfl, HR⟩ := hrel
    by_cases hlt : k < m
    · obtain ⟨t, ht⟩ : ∃ t, T[k]? = some t := ⟨T[k]'(by rw [HM.out]; exact hlt), by simp⟩
      obtain ⟨g, o, rfl, hl⟩ : ∃ g o, bo = some ⟨g, o, none⟩ ∧ Lies w g (o + k * 7) (ic t) := by
        obtain ⟨ao', cp', e, hq⟩ := HT.out
        injection e with e1 e2 e3
        subst e1
        exact hq k t ht
      have HL : Hid (Lies wr g (o + k * 7) (ic t)) := hl.up HR.out.2.2.2.2
      have ltI : (k : Int) < (m : Int) := by omega
      have geI : (0 : Int) ≤ (k : Int) := by omega
      obtain ⟨BB, hBB⟩ : ∃ BB, wr.heap.size = BB := ⟨_, rfl⟩
      clear hl
      by_cases hto : t.to = v
      · by_cases hwh : t.what = 3
        · obtain ⟨i, c, hc, hci⟩ := HC.out t (List.mem_of_getElem? ht)
          have HA := hid (acc_step (L := L) (v := v) ht ⟨hto, hwh⟩ (c := c) (by unfold cellOf; rw [hci]; simpa using hc))
          obtain ⟨t1, t2, t3, t4, t5, t6, t7⟩ := t
          simp only at hto hwh hci
          subst hto hwh hci
          obtain ⟨g2, o2, rfl, hl2⟩ : ∃ g o, ao = some ⟨g, o, none⟩ ∧ Lies w g (o + i * 10) (cc c) := by
            obtain ⟨ao', cp', e, hq, _⟩ := HV.out
            injection e with e1 e2 e3
            subst e1
            exact hq i c hc
          have HL2 : Hid (Lies (wr.alloc (.cells (ic (⟨t1, (i : Int), t3, 3, t5, t6, t7⟩ : It)) 71)) g2 (o2 + i * 10) (cc c)) := hl2.up (HR.out.2.2.2.2.up (G.al _ _))
          have hin : i < n := by have := (List.getElem?_eq_some_iff.1 hc).1; rw [HN.out] at this; exact this
          have iI : (i : Int) < (n : Int) := by omega
          have i0 : (0 : Int) ≤ (i : Int) := by omega
          have hin2 := acc_in (T := T) (v := t6) HO.out HP.out k
          have hco := HO.out c (List.mem_of_getElem? hc)
          have hcp := HP.out c (List.mem_of_getElem? hc)
          obtain ⟨⟨x, y⟩, hx⟩ : ∃ q, acc L T t6 k = q := ⟨_, rfl⟩
          rw [hx] at HR HA hin2
          have K1 := hid (fun W hW => bring_any (h + 1) x.1 x.2 c.names c.hn W hW hin2.1 hco.2.2.2.2.2.1 hco.2.2.2.2.2.2.2.1 hcp.2.2.1 hcp.2.2.2.2.1)
          have K2 := hid (fun W hW => bring_any (h + 1 + 1) y.1 y.2 c.bytes c.hb W hW hin2.2.2.1 hco.2.2.2.2.2.2.1 hco.2.2.2.2.2.2.2.2 hcp.2.2.2.1 hcp.2.2.2.2.2)
          clear hc ht hl2 hin2 hco hcp
          go_upto_region 7 with (first
          | ((with_reducible refine wpList_execW (.agg (ic (⟨t1, (i : Int), t3, 3, t5, t6, t7⟩ : It))) wr ?_ ?_ ?_); exact exec_load 71 _ rfl g (o + k * 7) (ic (⟨t1, (i : Int), t3, 3, t5, t6, t7⟩ : It)) _ rfl _ HL.out under45 rfl size45; kernel_rfl)
          | ((with_reducible refine wpList_execW (.pointer (some ⟨BB, 0, none⟩)) (wr.alloc (.cells z45 71)) ?_ ?_ ?_); exact exec_allocT 71 z45 rfl zero45 _ _ hBB; kernel_rfl)
          | ((with_reducible refine wpList_skipW (wr.alloc (.cells (ic (⟨t1, (i : Int), t3, 3, t5, t6, t7⟩ : It)) 71)) ?_ ?_ ?_); exact exec_fill 71 _ _ rfl (ic (⟨t1, (i : Int), t3, 3, t5, t6, t7⟩ : It)) z45 wr (by rw [hBB]; rfl) rfl size45 rfl (ic_one (⟨t1, (i : Int), t3, 3, t5, t6, t7⟩ : It)); kernel_rfl; unfold ic)
          | ((with_reducible refine wpList_execW (.agg (cc c)) (wr.alloc (.cells (ic (⟨t1, (i : Int), t3, 3, t5, t6, t7⟩ : It)) 71)) ?_ ?_ ?_); exact exec_load 62 _ rfl g2 (o2 + i * 10) (cc c) _ rfl _ HL2.out under43 rfl size43; kernel_rfl)
          | ((with_reducible refine wpList_execW (.pointer (some ⟨BB + 1, 0, none⟩)) ((wr.alloc (.cells (ic (⟨t1, (i : Int), t3, 3, t5, t6, t7⟩ : It)) 71)).alloc (.cells z43 62)) ?_ ?_ ?_); exact exec_allocT 62 z43 rfl zero43 _ _ (by simp [hBB]); kernel_rfl)
          | ((with_reducible refine wpList_skipW ((wr.alloc (.cells (ic (⟨t1, (i : Int), t3, 3, t5, t6, t7⟩ : It)) 71)).alloc (.cells (cc c) 62)) ?_ ?_ ?_); exact exec_fill 62 _ _ rfl (cc c) z43 (wr.alloc (.cells (ic (⟨t1, (i : Int), t3, 3, t5, t6, t7⟩ : It)) 71)) (by simp [hBB]; rfl) rfl size43 rfl (cc_one c); kernel_rfl; unfold cc ic))
          have HD2 := hid (HR.out.up ((G.al wr (.cells (ic (⟨t1, (i : Int), t3, 3, t5, t6, t7⟩ : It)) 71)).up (G.al _ (.cells (cc c) 62))))
          have S7 : Hid (((wr.alloc (.cells (ic (⟨t1, (i : Int), t3, 3, t5, t6, t7⟩ : It)) 71)).alloc (.cells (cc c) 62)).cell? ⟨BB + 1, 7, none⟩ = some (.int .i64 c.bytes)) := by
            have := new_cell (wr.alloc (.cells (ic (⟨t1, (i : Int), t3, 3, t5, t6, t7⟩ : It)) 71)) (cc c) 62 7
            rw [World.size_alloc, hBB] at this
            exact this
          have S9 : Hid (((wr.alloc (.cells (ic (⟨t1, (i : Int), t3, 3, t5, t6, t7⟩ : It)) 71)).alloc (.cells (cc c) 62)).cell? ⟨BB + 1, 9, none⟩ = some (.int .i64 c.hb)) := by
            have := new_cell (wr.alloc (.cells (ic (⟨t1, (i : Int), t3, 3, t5, t6, t7⟩ : It)) 71)) (cc c) 62 9
            rw [World.size_alloc, hBB] at this
            exact this
          unfold cc ic at HD2
          have hBh : h + 1 + 1 < BB := by
            have := HR.out.2.2.1
            have := (Array.getElem?_eq_some_iff.1 this).1
            omega
          go_upto_region 8 with (go_at_call 68; refine (K1.out _ HD2.out.2.1).mono ?_; rintro e w3 ⟨rfl, ha3, hb3⟩; have HD3 := hid (HD2.out.one hb3 ha3); have HB3 := hid hb3; clear ha3 hb3)
          have r7 : w3.cell? ⟨BB + 1, 7, none⟩ = some (.int .i64 c.bytes) := HB3.out.cell S7.out (show BB + 1 ≠ h + 1 by omega)
          have r9 : w3.cell? ⟨BB + 1, 9, none⟩ = some (.int .i64 c.hb) := HB3.out.cell S9.out (show BB + 1 ≠ h + 1 by omega)
          go_wp2_with (go_at_call 68; refine (K2.out _ HD3.out.2.2.1).mono ?_; rintro e w4 ⟨rfl, ha4, hb4⟩; have HD4 := hid (HD3.out.two hb4 ha4); clear ha4 hb4)
          go_roundw
          case rel => exact ⟨k + 1, by omega, by go_num, by rw [HA.out]; exact HD4.out⟩
          case measure => simp [intOf]; omega
        · have e3 : (t.what != 3) = true := by simp [hwh]
          have HA := hid (acc_skip (L := L) (v := v) ht (fun e => hwh e.2))
          clear ht
          go_wp2_with (first
          | ((with_reducible refine wpList_execW (.agg (ic t)) wr ?_ ?_ ?_); exact exec_load 71 _ rfl g (o + k * 7) (ic t) _ rfl _ HL.out under45 rfl size45; kernel_rfl)
          | ((with_reducible refine wpList_execW (.pointer (some ⟨BB, 0, none⟩)) (wr.alloc (.cells z45 71)) ?_ ?_ ?_); exact exec_allocT 71 z45 rfl zero45 _ _ hBB; kernel_rfl)
          | ((with_reducible refine wpList_skipW (wr.alloc (.cells (ic t) 71)) ?_ ?_ ?_); exact exec_fill 71 _ _ rfl (ic t) z45 wr (by rw [hBB]; rfl) rfl size45 rfl (ic_one t); kernel_rfl; unfold ic))
          go_roundw
          case rel => exact ⟨k + 1, by omega, by go_num, by rw [HA.out]; exact HR.out.up (G.al _ _)⟩
          case measure => simp [intOf]; omega
      · have e3 : (t.to != v) = true := by simp [hto]
        have HA := hid (acc_skip (L := L) (v := v) ht (fun e => hto e.1))
        clear ht
        go_wp2_with (first
          | ((with_reducible refine wpList_execW (.agg (ic t)) wr ?_ ?_ ?_); exact exec_load 71 _ rfl g (o + k * 7) (ic t) _ rfl _ HL.out under45 rfl size45; kernel_rfl)
          | ((with_reducible refine wpList_execW (.pointer (some ⟨BB, 0, none⟩)) (wr.alloc (.cells z45 71)) ?_ ?_ ?_); exact exec_allocT 71 z45 rfl zero45 _ _ hBB; kernel_rfl)
          | ((with_reducible refine wpList_skipW (wr.alloc (.cells (ic t) 71)) ?_ ?_ ?_); exact exec_fill 71 _ _ rfl (ic t) z45 wr (by rw [hBB]; rfl) rfl size45 rfl (ic_one t); kernel_rfl; unfold ic))
        go_roundw
        case rel => exact ⟨k + 1, by omega, by go_num, by rw [HA.out]; exact HR.out.up (G.al _ _)⟩
        case measure => simp [intOf]; omega
    · obtain rfl : k = m := by omega
      obtain ⟨⟨x, y⟩, hx⟩ : ∃ q, acc L T v k = q := ⟨_, rfl⟩
      rw [hx] at HR
      obtain ⟨d1, d2, d3, d4, d5⟩ := HR.out
      have k1 := cell_of_row wr (h + 1) 1 _ _ _ d2
      have k2 := cell_of_row wr (h + 1 + 1) 1 _ _ _ d3
      have k3 := cell_of_row wr h 0 _ _ _ d1
      have k4 := cell_of_row wr h 1 _ _ _ d1
      have f3 := frozen_of_row wr h 0 _ _ d1
      have f4 := frozen_of_row wr h 1 _ _ d1
      simp only [List.getElem?_toArray, List.getElem?_cons_zero, List.getElem?_cons_succ] at k1 k2 k3 k4
      have HB : Hid (G w ((wr.setCell ⟨h, 0, none⟩ (.int .i64 x.2)).setCell ⟨h, 1, none⟩ (.int .i64 y.2))) :=
        d5.trans ((((But.refl h wr).setCell 0 _).setCell 1 _).below (Nat.le_of_eq d4) d5.size)
      clear d1 d2 d3 d4 d5
      go_wp2
      refine bodyPost_ret (v := .agg #[.int .i64 x.2, .int .i64 y.2]) ?_ rfl ⟨?_, HB.out⟩
      · simp [results, Tryz.results23, go_sem, k3, k4]
      · rw [hx]
end Go.Proofs.YtpenaeoodfgmpaaGreatDoor
