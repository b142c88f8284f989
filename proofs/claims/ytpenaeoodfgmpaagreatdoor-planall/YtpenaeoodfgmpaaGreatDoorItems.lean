/-
  plan.itemsOf by contract.
-/
import Derived.Test.YtpenaeoodfgmpaaGreatDoorPlaces
namespace Go.Proofs.YtpenaeoodfgmpaaGreatDoor
open Go.RowKit

theorem new_cell (w : World) (c : Array Value) (t : TypeId) (j : Nat) : (w.alloc (.cells c t)).cell? ⟨w.heap.size, j, none⟩ = c[j]? := cell_of_row _ _ j _ _ _ (heap_alloc_new w _)
theorem its_yes {L : List Cd} {B : List Bool} {k : Nat} {c : Cd} (hc : L[k]? = some c) (hb : B[k]? = some false) (hd : don c = true) : its L B (k + 1) = its L B k ++ [mkI (its L B k).length k c] := by simp [its, hc, hb, hd]
theorem its_left {L : List Cd} {B : List Bool} {k : Nat} {c : Cd} (hc : L[k]? = some c) (hb : B[k]? = some true) : its L B (k + 1) = its L B k := by simp [its, hc, hb]
theorem its_not {L : List Cd} {B : List Bool} {k : Nat} {c : Cd} (hc : L[k]? = some c) (hd : don c = false) : its L B (k + 1) = its L B k := by simp [its, hc, hd]

set_option maxHeartbeats 4000000 in
set_option maxRecDepth 100000 in
theorem itemsOf_any (ao : Option Addr) (cp : Nat) (L : List Cd) (b : Nat) (B : List Bool) (w : World) (hv : HasC w (.slice ao L.length cp) L) (hB : RowB w b B) (hn : L.length ≤ 400) (hBl : B.length = L.length) :
    Calls Tryz.prog 21 #[.slice ao L.length cp, .slice (some ⟨b, 0, none⟩) L.length L.length] w fun e w' => ∃ v, e = .returned v ∧ IS w w' v (its L B L.length) := by
  obtain ⟨n, hn'⟩ : ∃ n, L.length = n := ⟨_, rfl⟩
  obtain ⟨i0, hi, hz0, hz1, hz2⟩ := info_parts Tryz.info45
  have HB := hid hB
  have HV := hid hv
  have HN := hid (And.intro hn' hBl)
  have HS0 : Hid (IS w w (.slice none 0 0) []) := ⟨World.ownsRow_nil _ _ _ _, G.refl w⟩
  rw [hn'] at hn ⊢
  clear hB hn' hv hBl
  go_enter Tryz.func21, Tryz.ntmps21
  go_wp2
  go_loopw [5, 11] (fun v i wr => ∃ k : Nat, k ≤ n ∧ i = .int .i64 k ∧ Hid (IS w wr v (its L B k))) (fun _ i _ => n - (intOf i).toNat)
  case atStart => exact ⟨0, Nat.zero_le _, rfl, HS0.out⟩
  case round =>
    clear HS0
    obtain ⟨k, hk, rfl, HR⟩ := hrel
    obtain ⟨a5, c5, e5⟩ := owns_form HR.out.1
    have hln := its_len L B k
    generalize hl5 : (its L B k).length = l5 at e5
    subst e5
    have HL5 := hid hl5
    have hl5b : (l5 : Int) ≤ 400 := by omega
    by_cases hlt : k < n
    · obtain ⟨c, hc⟩ : ∃ c, L[k]? = some c := ⟨L[k]'(by rw [HN.out.1]; exact hlt), by simp⟩
      obtain ⟨bb, hb⟩ : ∃ bb, B[k]? = some bb := ⟨B[k]'(by rw [HN.out.2, HN.out.1]; exact hlt), by simp⟩
      obtain ⟨g, o, rfl, hl⟩ : ∃ g o, ao = some ⟨g, o, none⟩ ∧ Lies w g (o + k * 10) (cc c) := by
        obtain ⟨ao', cp', e, hq, _⟩ := HV.out
        injection e with e1 e2 e3
        subst e1
        exact hq k c hc
      have HL : Hid (Lies wr g (o + k * 10) (cc c)) := hl.up HR.out.2
      have hcb := (HB.out.keep HR.out.2).at hb
      have hbl := World.block_lt_of_cell? wr _ hcb
      have ltI : (k : Int) < (n : Int) := by omega
      have geI : (0 : Int) ≤ (k : Int) := by omega
      obtain ⟨BB, hBB⟩ : ∃ BB, wr.heap.size = BB := ⟨_, rfl⟩
      have hbl2 : b < BB := by have := hbl; simp only at this; omega
      have hbl3 : ¬ b = BB := by omega
      clear hl hbl
      cases bb with
      | true =>
        have HP := hid (its_left hc hb)
        clear hb hc
        go_wp2_with (first
          | ((with_reducible refine wpList_execW (.agg (cc c)) wr ?_ ?_ ?_); exact exec_load 62 _ rfl g (o + k * 10) (cc c) _ rfl _ HL.out under43 rfl size43; kernel_rfl)
          | ((with_reducible refine wpList_execW (.pointer (some ⟨BB, 0, none⟩)) (wr.alloc (.cells z43 62)) ?_ ?_ ?_); exact exec_allocT 62 z43 rfl zero43 _ _ hBB; kernel_rfl)
          | ((with_reducible refine wpList_skipW (wr.alloc (.cells (cc c) 62)) ?_ ?_ ?_); exact exec_fill 62 _ _ rfl (cc c) z43 wr (by rw [hBB]; rfl) rfl size43 rfl (cc_one c); kernel_rfl; unfold cc))
        go_roundw
        case rel => exact ⟨k + 1, by omega, by go_num, by rw [HP.out]; exact ⟨HR.out.1.up (G.al _ _), HR.out.2.up (G.al _ _)⟩⟩
        case measure => simp [intOf]; omega
      | false =>
        have CD := hid (fun W => isDone_any c W)
        cases hd : don c with
        | false =>
          have HP := hid (its_not (B := B) hc hd)
          rw [hd] at CD
          clear hb hc
          go_wp2_with (first
          | ((with_reducible refine wpList_execW (.agg (cc c)) wr ?_ ?_ ?_); exact exec_load 62 _ rfl g (o + k * 10) (cc c) _ rfl _ HL.out under43 rfl size43; kernel_rfl)
          | ((with_reducible refine wpList_execW (.pointer (some ⟨BB, 0, none⟩)) (wr.alloc (.cells z43 62)) ?_ ?_ ?_); exact exec_allocT 62 z43 rfl zero43 _ _ hBB; kernel_rfl)
          | ((with_reducible refine wpList_skipW (wr.alloc (.cells (cc c) 62)) ?_ ?_ ?_); exact exec_fill 62 _ _ rfl (cc c) z43 wr (by rw [hBB]; rfl) rfl size43 rfl (cc_one c); kernel_rfl; unfold cc)
          | (go_at_call 67; refine (CD.out _).mono ?_; rintro e w1 ⟨rfl, hb1⟩; have HB1 := hid hb1; clear hb1))
          go_roundw
          case rel => exact ⟨k + 1, by omega, by go_num, by rw [HP.out]; exact ⟨HR.out.1.up ((G.al _ _).up HB1.out), HR.out.2.up ((G.al _ _).up HB1.out)⟩⟩
          case measure => simp [intOf]; omega
        | true =>
          rw [hd] at CD
          have hdd : (c.what = 3 ∨ c.what = 2) ∧ (c.side = 1 ∨ c.side = 2) := by
            have := hd
            simp only [don, Bool.and_eq_true, Bool.or_eq_true, decide_eq_true_eq] at this
            exact this
          obtain ⟨hw | hw, hs | hs⟩ := hdd
          · have hmk : mkI (its L B k).length k c = ⟨((its L B k).length : Int) + 1, (k : Int), c.path, 3, 0, 1, 0⟩ := by simp [mkI, hs, hw]
            have HP := hid ((its_yes hc hb hd).trans (by rw [hmk]))
            have hcw : cc c = #[.string c.path, .int .i64 3, .int .i64 1, .int .i64 c.mode, .int .i64 c.keep, .int .i64 c.take, .int .i64 c.names, .int .i64 c.bytes, .int .i64 c.hn, .int .i64 c.hb] := by unfold cc; rw [hs, hw]
            rw [hcw] at CD
            clear hmk hcw hd hb hc hl5
            go_upto_region 6 with (first
          | ((with_reducible refine wpList_execW (.agg (cc c)) wr ?_ ?_ ?_); exact exec_load 62 _ rfl g (o + k * 10) (cc c) _ rfl _ HL.out under43 rfl size43; kernel_rfl)
          | ((with_reducible refine wpList_execW (.pointer (some ⟨BB, 0, none⟩)) (wr.alloc (.cells z43 62)) ?_ ?_ ?_); exact exec_allocT 62 z43 rfl zero43 _ _ hBB; kernel_rfl)
          | ((with_reducible refine wpList_skipW (wr.alloc (.cells (cc c) 62)) ?_ ?_ ?_); exact exec_fill 62 _ _ rfl (cc c) z43 wr (by rw [hBB]; rfl) rfl size43 rfl (cc_one c); kernel_rfl; unfold cc)
              | (go_at_call 67; refine (CD.out _).mono ?_; rintro e w1 ⟨rfl, hb1⟩; have HB1 := hid hb1; clear hb1))
            have hz1' : BB < w1.heap.size := by have := HB1.out.size; simp at this; omega
            have q0 : w1.cell? ⟨BB, 0, none⟩ = some (.string c.path) := by rw [HB1.out.cell (p := ⟨BB, 0, none⟩) (by simp; omega), ← hBB, new_cell]; rfl
            have q1 : w1.cell? ⟨BB, 1, none⟩ = some (.int .i64 3) := by rw [HB1.out.cell (p := ⟨BB, 1, none⟩) (by simp; omega), ← hBB, new_cell]; rfl
            have q2 : w1.cell? ⟨BB, 2, none⟩ = some (.int .i64 1) := by rw [HB1.out.cell (p := ⟨BB, 2, none⟩) (by simp; omega), ← hBB, new_cell]; rfl
            have q3 : w1.cell? ⟨BB, 3, none⟩ = some (.int .i64 c.mode) := by rw [HB1.out.cell (p := ⟨BB, 3, none⟩) (by simp; omega), ← hBB, new_cell]; rfl
            have HG1 := hid ((G.al wr _).up HB1.out)
            obtain ⟨B1, hB1⟩ : ∃ B1, w1.heap.size = B1 := ⟨_, rfl⟩
            have HSZ := hid (Nat.le_trans HR.out.2.size HG1.out.size)
            have HO : Hid (OwnsI ((w1.alloc (.cells #[.int .i64 ((l5 : Int) + 1), .int .i64 (k : Int), .string c.path, .int .i64 3, .int .i64 0, .int .i64 1, .int .i64 0] 71)).alloc (.cells #[.int .i64 ((l5 : Int) + 1), .int .i64 (k : Int), .string c.path, .int .i64 3, .int .i64 0, .int .i64 1, .int .i64 0] 71)) w.heap.size (.slice a5 l5 c5) (its L B k)) := (HR.out.1.up HG1.out).up ((G.al _ _).up (G.al _ _))
            have hz2' : BB < B1 := by omega
            have hz3' : ¬ BB = B1 := by omega
            clear hz1'
            go_wp2_with (at_builtin; refine wpList_append_lies _ rfl _ _ _ rfl w.heap.size 71 i0 _ 7 64 Tryz.underlying50 hi hz0 hz1 hz2 rfl (by omega) (.slice a5 l5 c5) (its L B k).length (flat ic (its L B k)) rfl HO.out ⟨B1 + 1, 0, none⟩ 1 1 (ic ⟨((its L B k).length : Int) + 1, (k : Int), c.path, 3, 0, 1, 0⟩).toList rfl rfl ?c1 ?c2 (by omega) (by unfold maxLen; omega) (by omega) ?c3 (B1 + 2) ?c4 ?_)
            case c1 =>
              intro j u hj
              have hx : ((w1.alloc (.cells #[.int .i64 ((l5 : Int) + 1), .int .i64 (k : Int), .string c.path, .int .i64 3, .int .i64 0, .int .i64 1, .int .i64 0] 71)).alloc (.cells #[.int .i64 ((l5 : Int) + 1), .int .i64 (k : Int), .string c.path, .int .i64 3, .int .i64 0, .int .i64 1, .int .i64 0] 71)).cell? ⟨B1 + 1, 0 + j, none⟩ = (#[.int .i64 ((l5 : Int) + 1), .int .i64 (k : Int), .string c.path, .int .i64 3, .int .i64 0, .int .i64 1, .int .i64 0] : Array Value)[0 + j]? := by
                have := new_cell (w1.alloc (.cells #[.int .i64 ((l5 : Int) + 1), .int .i64 (k : Int), .string c.path, .int .i64 3, .int .i64 0, .int .i64 1, .int .i64 0] 71)) #[.int .i64 ((l5 : Int) + 1), .int .i64 (k : Int), .string c.path, .int .i64 3, .int .i64 0, .int .i64 1, .int .i64 0] 71 (0 + j)
                simpa [hB1] using this
              rw [addr_add]
              refine Eq.trans hx ?_
              rw [Nat.zero_add, ← hj, HL5.out]
              simp [ic]
            case c2 => intro u hu; exact (Array.all_eq_true_iff_forall_mem.1 (ic_one ⟨((its L B k).length : Int) + 1, (k : Int), c.path, 3, 0, 1, 0⟩)) u (by simpa using hu)
            case c3 => simp; have := HSZ.out; omega
            case c4 => simp [hB1]
            intro g2 cap2 w2 hown hgr hat hlt2
            have HE : Hid (IS w w2 (.slice (some ⟨g2, 0, none⟩) ((its L B k).length + 1) cap2) (its L B (k + 1))) := by
              rw [HP.out]
              refine ⟨?_, grow_below HR.out.2 (HG1.out.up ((G.al _ _).up (G.al _ _))) (fun b hb => (World.ownsRow.lt HO.out b hb).1) hgr⟩
              unfold OwnsI
              rw [flat_snoc, List.length_append]
              exact hown
            clear hown hgr hat
            go_wp2
            go_roundw
            case rel => exact ⟨k + 1, by omega, by go_num, HE.out⟩
            case measure => simp [intOf]; omega
          · have hmk : mkI (its L B k).length k c = ⟨((its L B k).length : Int) + 1, (k : Int), c.path, 3, 1, 0, 0⟩ := by simp [mkI, hs, hw]
            have HP := hid ((its_yes hc hb hd).trans (by rw [hmk]))
            have hcw : cc c = #[.string c.path, .int .i64 3, .int .i64 2, .int .i64 c.mode, .int .i64 c.keep, .int .i64 c.take, .int .i64 c.names, .int .i64 c.bytes, .int .i64 c.hn, .int .i64 c.hb] := by unfold cc; rw [hs, hw]
            rw [hcw] at CD
            clear hmk hcw hd hb hc hl5
            go_upto_region 6 with (first
          | ((with_reducible refine wpList_execW (.agg (cc c)) wr ?_ ?_ ?_); exact exec_load 62 _ rfl g (o + k * 10) (cc c) _ rfl _ HL.out under43 rfl size43; kernel_rfl)
          | ((with_reducible refine wpList_execW (.pointer (some ⟨BB, 0, none⟩)) (wr.alloc (.cells z43 62)) ?_ ?_ ?_); exact exec_allocT 62 z43 rfl zero43 _ _ hBB; kernel_rfl)
          | ((with_reducible refine wpList_skipW (wr.alloc (.cells (cc c) 62)) ?_ ?_ ?_); exact exec_fill 62 _ _ rfl (cc c) z43 wr (by rw [hBB]; rfl) rfl size43 rfl (cc_one c); kernel_rfl; unfold cc)
              | (go_at_call 67; refine (CD.out _).mono ?_; rintro e w1 ⟨rfl, hb1⟩; have HB1 := hid hb1; clear hb1))
            have hz1' : BB < w1.heap.size := by have := HB1.out.size; simp at this; omega
            have q0 : w1.cell? ⟨BB, 0, none⟩ = some (.string c.path) := by rw [HB1.out.cell (p := ⟨BB, 0, none⟩) (by simp; omega), ← hBB, new_cell]; rfl
            have q1 : w1.cell? ⟨BB, 1, none⟩ = some (.int .i64 3) := by rw [HB1.out.cell (p := ⟨BB, 1, none⟩) (by simp; omega), ← hBB, new_cell]; rfl
            have q2 : w1.cell? ⟨BB, 2, none⟩ = some (.int .i64 2) := by rw [HB1.out.cell (p := ⟨BB, 2, none⟩) (by simp; omega), ← hBB, new_cell]; rfl
            have q3 : w1.cell? ⟨BB, 3, none⟩ = some (.int .i64 c.mode) := by rw [HB1.out.cell (p := ⟨BB, 3, none⟩) (by simp; omega), ← hBB, new_cell]; rfl
            have HG1 := hid ((G.al wr _).up HB1.out)
            obtain ⟨B1, hB1⟩ : ∃ B1, w1.heap.size = B1 := ⟨_, rfl⟩
            have HSZ := hid (Nat.le_trans HR.out.2.size HG1.out.size)
            have HO : Hid (OwnsI ((w1.alloc (.cells #[.int .i64 ((l5 : Int) + 1), .int .i64 (k : Int), .string c.path, .int .i64 3, .int .i64 1, .int .i64 0, .int .i64 0] 71)).alloc (.cells #[.int .i64 ((l5 : Int) + 1), .int .i64 (k : Int), .string c.path, .int .i64 3, .int .i64 1, .int .i64 0, .int .i64 0] 71)) w.heap.size (.slice a5 l5 c5) (its L B k)) := (HR.out.1.up HG1.out).up ((G.al _ _).up (G.al _ _))
            have hz2' : BB < B1 := by omega
            have hz3' : ¬ BB = B1 := by omega
            clear hz1'
            go_wp2_with (at_builtin; refine wpList_append_lies _ rfl _ _ _ rfl w.heap.size 71 i0 _ 7 64 Tryz.underlying50 hi hz0 hz1 hz2 rfl (by omega) (.slice a5 l5 c5) (its L B k).length (flat ic (its L B k)) rfl HO.out ⟨B1 + 1, 0, none⟩ 1 1 (ic ⟨((its L B k).length : Int) + 1, (k : Int), c.path, 3, 1, 0, 0⟩).toList rfl rfl ?c1 ?c2 (by omega) (by unfold maxLen; omega) (by omega) ?c3 (B1 + 2) ?c4 ?_)
            case c1 =>
              intro j u hj
              have hx : ((w1.alloc (.cells #[.int .i64 ((l5 : Int) + 1), .int .i64 (k : Int), .string c.path, .int .i64 3, .int .i64 1, .int .i64 0, .int .i64 0] 71)).alloc (.cells #[.int .i64 ((l5 : Int) + 1), .int .i64 (k : Int), .string c.path, .int .i64 3, .int .i64 1, .int .i64 0, .int .i64 0] 71)).cell? ⟨B1 + 1, 0 + j, none⟩ = (#[.int .i64 ((l5 : Int) + 1), .int .i64 (k : Int), .string c.path, .int .i64 3, .int .i64 1, .int .i64 0, .int .i64 0] : Array Value)[0 + j]? := by
                have := new_cell (w1.alloc (.cells #[.int .i64 ((l5 : Int) + 1), .int .i64 (k : Int), .string c.path, .int .i64 3, .int .i64 1, .int .i64 0, .int .i64 0] 71)) #[.int .i64 ((l5 : Int) + 1), .int .i64 (k : Int), .string c.path, .int .i64 3, .int .i64 1, .int .i64 0, .int .i64 0] 71 (0 + j)
                simpa [hB1] using this
              rw [addr_add]
              refine Eq.trans hx ?_
              rw [Nat.zero_add, ← hj, HL5.out]
              simp [ic]
            case c2 => intro u hu; exact (Array.all_eq_true_iff_forall_mem.1 (ic_one ⟨((its L B k).length : Int) + 1, (k : Int), c.path, 3, 1, 0, 0⟩)) u (by simpa using hu)
            case c3 => simp; have := HSZ.out; omega
            case c4 => simp [hB1]
            intro g2 cap2 w2 hown hgr hat hlt2
            have HE : Hid (IS w w2 (.slice (some ⟨g2, 0, none⟩) ((its L B k).length + 1) cap2) (its L B (k + 1))) := by
              rw [HP.out]
              refine ⟨?_, grow_below HR.out.2 (HG1.out.up ((G.al _ _).up (G.al _ _))) (fun b hb => (World.ownsRow.lt HO.out b hb).1) hgr⟩
              unfold OwnsI
              rw [flat_snoc, List.length_append]
              exact hown
            clear hown hgr hat
            go_wp2
            go_roundw
            case rel => exact ⟨k + 1, by omega, by go_num, HE.out⟩
            case measure => simp [intOf]; omega
          · have hmk : mkI (its L B k).length k c = ⟨((its L B k).length : Int) + 1, (k : Int), c.path, 2, 0, 1, c.mode⟩ := by simp [mkI, hs, hw]
            have HP := hid ((its_yes hc hb hd).trans (by rw [hmk]))
            have hcw : cc c = #[.string c.path, .int .i64 2, .int .i64 1, .int .i64 c.mode, .int .i64 c.keep, .int .i64 c.take, .int .i64 c.names, .int .i64 c.bytes, .int .i64 c.hn, .int .i64 c.hb] := by unfold cc; rw [hs, hw]
            rw [hcw] at CD
            clear hmk hcw hd hb hc hl5
            go_upto_region 6 with (first
          | ((with_reducible refine wpList_execW (.agg (cc c)) wr ?_ ?_ ?_); exact exec_load 62 _ rfl g (o + k * 10) (cc c) _ rfl _ HL.out under43 rfl size43; kernel_rfl)
          | ((with_reducible refine wpList_execW (.pointer (some ⟨BB, 0, none⟩)) (wr.alloc (.cells z43 62)) ?_ ?_ ?_); exact exec_allocT 62 z43 rfl zero43 _ _ hBB; kernel_rfl)
          | ((with_reducible refine wpList_skipW (wr.alloc (.cells (cc c) 62)) ?_ ?_ ?_); exact exec_fill 62 _ _ rfl (cc c) z43 wr (by rw [hBB]; rfl) rfl size43 rfl (cc_one c); kernel_rfl; unfold cc)
              | (go_at_call 67; refine (CD.out _).mono ?_; rintro e w1 ⟨rfl, hb1⟩; have HB1 := hid hb1; clear hb1))
            have hz1' : BB < w1.heap.size := by have := HB1.out.size; simp at this; omega
            have q0 : w1.cell? ⟨BB, 0, none⟩ = some (.string c.path) := by rw [HB1.out.cell (p := ⟨BB, 0, none⟩) (by simp; omega), ← hBB, new_cell]; rfl
            have q1 : w1.cell? ⟨BB, 1, none⟩ = some (.int .i64 2) := by rw [HB1.out.cell (p := ⟨BB, 1, none⟩) (by simp; omega), ← hBB, new_cell]; rfl
            have q2 : w1.cell? ⟨BB, 2, none⟩ = some (.int .i64 1) := by rw [HB1.out.cell (p := ⟨BB, 2, none⟩) (by simp; omega), ← hBB, new_cell]; rfl
            have q3 : w1.cell? ⟨BB, 3, none⟩ = some (.int .i64 c.mode) := by rw [HB1.out.cell (p := ⟨BB, 3, none⟩) (by simp; omega), ← hBB, new_cell]; rfl
            have HG1 := hid ((G.al wr _).up HB1.out)
            obtain ⟨B1, hB1⟩ : ∃ B1, w1.heap.size = B1 := ⟨_, rfl⟩
            have HSZ := hid (Nat.le_trans HR.out.2.size HG1.out.size)
            have HO : Hid (OwnsI ((w1.alloc (.cells #[.int .i64 ((l5 : Int) + 1), .int .i64 (k : Int), .string c.path, .int .i64 2, .int .i64 0, .int .i64 1, .int .i64 c.mode] 71)).alloc (.cells #[.int .i64 ((l5 : Int) + 1), .int .i64 (k : Int), .string c.path, .int .i64 2, .int .i64 0, .int .i64 1, .int .i64 c.mode] 71)) w.heap.size (.slice a5 l5 c5) (its L B k)) := (HR.out.1.up HG1.out).up ((G.al _ _).up (G.al _ _))
            have hz2' : BB < B1 := by omega
            have hz3' : ¬ BB = B1 := by omega
            clear hz1'
            go_wp2_with (at_builtin; refine wpList_append_lies _ rfl _ _ _ rfl w.heap.size 71 i0 _ 7 64 Tryz.underlying50 hi hz0 hz1 hz2 rfl (by omega) (.slice a5 l5 c5) (its L B k).length (flat ic (its L B k)) rfl HO.out ⟨B1 + 1, 0, none⟩ 1 1 (ic ⟨((its L B k).length : Int) + 1, (k : Int), c.path, 2, 0, 1, c.mode⟩).toList rfl rfl ?c1 ?c2 (by omega) (by unfold maxLen; omega) (by omega) ?c3 (B1 + 2) ?c4 ?_)
            case c1 =>
              intro j u hj
              have hx : ((w1.alloc (.cells #[.int .i64 ((l5 : Int) + 1), .int .i64 (k : Int), .string c.path, .int .i64 2, .int .i64 0, .int .i64 1, .int .i64 c.mode] 71)).alloc (.cells #[.int .i64 ((l5 : Int) + 1), .int .i64 (k : Int), .string c.path, .int .i64 2, .int .i64 0, .int .i64 1, .int .i64 c.mode] 71)).cell? ⟨B1 + 1, 0 + j, none⟩ = (#[.int .i64 ((l5 : Int) + 1), .int .i64 (k : Int), .string c.path, .int .i64 2, .int .i64 0, .int .i64 1, .int .i64 c.mode] : Array Value)[0 + j]? := by
                have := new_cell (w1.alloc (.cells #[.int .i64 ((l5 : Int) + 1), .int .i64 (k : Int), .string c.path, .int .i64 2, .int .i64 0, .int .i64 1, .int .i64 c.mode] 71)) #[.int .i64 ((l5 : Int) + 1), .int .i64 (k : Int), .string c.path, .int .i64 2, .int .i64 0, .int .i64 1, .int .i64 c.mode] 71 (0 + j)
                simpa [hB1] using this
              rw [addr_add]
              refine Eq.trans hx ?_
              rw [Nat.zero_add, ← hj, HL5.out]
              simp [ic]
            case c2 => intro u hu; exact (Array.all_eq_true_iff_forall_mem.1 (ic_one ⟨((its L B k).length : Int) + 1, (k : Int), c.path, 2, 0, 1, c.mode⟩)) u (by simpa using hu)
            case c3 => simp; have := HSZ.out; omega
            case c4 => simp [hB1]
            intro g2 cap2 w2 hown hgr hat hlt2
            have HE : Hid (IS w w2 (.slice (some ⟨g2, 0, none⟩) ((its L B k).length + 1) cap2) (its L B (k + 1))) := by
              rw [HP.out]
              refine ⟨?_, grow_below HR.out.2 (HG1.out.up ((G.al _ _).up (G.al _ _))) (fun b hb => (World.ownsRow.lt HO.out b hb).1) hgr⟩
              unfold OwnsI
              rw [flat_snoc, List.length_append]
              exact hown
            clear hown hgr hat
            go_wp2
            go_roundw
            case rel => exact ⟨k + 1, by omega, by go_num, HE.out⟩
            case measure => simp [intOf]; omega
          · have hmk : mkI (its L B k).length k c = ⟨((its L B k).length : Int) + 1, (k : Int), c.path, 2, 1, 0, c.mode⟩ := by simp [mkI, hs, hw]
            have HP := hid ((its_yes hc hb hd).trans (by rw [hmk]))
            have hcw : cc c = #[.string c.path, .int .i64 2, .int .i64 2, .int .i64 c.mode, .int .i64 c.keep, .int .i64 c.take, .int .i64 c.names, .int .i64 c.bytes, .int .i64 c.hn, .int .i64 c.hb] := by unfold cc; rw [hs, hw]
            rw [hcw] at CD
            clear hmk hcw hd hb hc hl5
            go_upto_region 6 with (first
          | ((with_reducible refine wpList_execW (.agg (cc c)) wr ?_ ?_ ?_); exact exec_load 62 _ rfl g (o + k * 10) (cc c) _ rfl _ HL.out under43 rfl size43; kernel_rfl)
          | ((with_reducible refine wpList_execW (.pointer (some ⟨BB, 0, none⟩)) (wr.alloc (.cells z43 62)) ?_ ?_ ?_); exact exec_allocT 62 z43 rfl zero43 _ _ hBB; kernel_rfl)
          | ((with_reducible refine wpList_skipW (wr.alloc (.cells (cc c) 62)) ?_ ?_ ?_); exact exec_fill 62 _ _ rfl (cc c) z43 wr (by rw [hBB]; rfl) rfl size43 rfl (cc_one c); kernel_rfl; unfold cc)
              | (go_at_call 67; refine (CD.out _).mono ?_; rintro e w1 ⟨rfl, hb1⟩; have HB1 := hid hb1; clear hb1))
            have hz1' : BB < w1.heap.size := by have := HB1.out.size; simp at this; omega
            have q0 : w1.cell? ⟨BB, 0, none⟩ = some (.string c.path) := by rw [HB1.out.cell (p := ⟨BB, 0, none⟩) (by simp; omega), ← hBB, new_cell]; rfl
            have q1 : w1.cell? ⟨BB, 1, none⟩ = some (.int .i64 2) := by rw [HB1.out.cell (p := ⟨BB, 1, none⟩) (by simp; omega), ← hBB, new_cell]; rfl
            have q2 : w1.cell? ⟨BB, 2, none⟩ = some (.int .i64 2) := by rw [HB1.out.cell (p := ⟨BB, 2, none⟩) (by simp; omega), ← hBB, new_cell]; rfl
            have q3 : w1.cell? ⟨BB, 3, none⟩ = some (.int .i64 c.mode) := by rw [HB1.out.cell (p := ⟨BB, 3, none⟩) (by simp; omega), ← hBB, new_cell]; rfl
            have HG1 := hid ((G.al wr _).up HB1.out)
            obtain ⟨B1, hB1⟩ : ∃ B1, w1.heap.size = B1 := ⟨_, rfl⟩
            have HSZ := hid (Nat.le_trans HR.out.2.size HG1.out.size)
            have HO : Hid (OwnsI ((w1.alloc (.cells #[.int .i64 ((l5 : Int) + 1), .int .i64 (k : Int), .string c.path, .int .i64 2, .int .i64 1, .int .i64 0, .int .i64 c.mode] 71)).alloc (.cells #[.int .i64 ((l5 : Int) + 1), .int .i64 (k : Int), .string c.path, .int .i64 2, .int .i64 1, .int .i64 0, .int .i64 c.mode] 71)) w.heap.size (.slice a5 l5 c5) (its L B k)) := (HR.out.1.up HG1.out).up ((G.al _ _).up (G.al _ _))
            have hz2' : BB < B1 := by omega
            have hz3' : ¬ BB = B1 := by omega
            clear hz1'
            go_wp2_with (at_builtin; refine wpList_append_lies _ rfl _ _ _ rfl w.heap.size 71 i0 _ 7 64 Tryz.underlying50 hi hz0 hz1 hz2 rfl (by omega) (.slice a5 l5 c5) (its L B k).length (flat ic (its L B k)) rfl HO.out ⟨B1 + 1, 0, none⟩ 1 1 (ic ⟨((its L B k).length : Int) + 1, (k : Int), c.path, 2, 1, 0, c.mode⟩).toList rfl rfl ?c1 ?c2 (by omega) (by unfold maxLen; omega) (by omega) ?c3 (B1 + 2) ?c4 ?_)
            case c1 =>
              intro j u hj
              have hx : ((w1.alloc (.cells #[.int .i64 ((l5 : Int) + 1), .int .i64 (k : Int), .string c.path, .int .i64 2, .int .i64 1, .int .i64 0, .int .i64 c.mode] 71)).alloc (.cells #[.int .i64 ((l5 : Int) + 1), .int .i64 (k : Int), .string c.path, .int .i64 2, .int .i64 1, .int .i64 0, .int .i64 c.mode] 71)).cell? ⟨B1 + 1, 0 + j, none⟩ = (#[.int .i64 ((l5 : Int) + 1), .int .i64 (k : Int), .string c.path, .int .i64 2, .int .i64 1, .int .i64 0, .int .i64 c.mode] : Array Value)[0 + j]? := by
                have := new_cell (w1.alloc (.cells #[.int .i64 ((l5 : Int) + 1), .int .i64 (k : Int), .string c.path, .int .i64 2, .int .i64 1, .int .i64 0, .int .i64 c.mode] 71)) #[.int .i64 ((l5 : Int) + 1), .int .i64 (k : Int), .string c.path, .int .i64 2, .int .i64 1, .int .i64 0, .int .i64 c.mode] 71 (0 + j)
                simpa [hB1] using this
              rw [addr_add]
              refine Eq.trans hx ?_
              rw [Nat.zero_add, ← hj, HL5.out]
              simp [ic]
            case c2 => intro u hu; exact (Array.all_eq_true_iff_forall_mem.1 (ic_one ⟨((its L B k).length : Int) + 1, (k : Int), c.path, 2, 1, 0, c.mode⟩)) u (by simpa using hu)
            case c3 => simp; have := HSZ.out; omega
            case c4 => simp [hB1]
            intro g2 cap2 w2 hown hgr hat hlt2
            have HE : Hid (IS w w2 (.slice (some ⟨g2, 0, none⟩) ((its L B k).length + 1) cap2) (its L B (k + 1))) := by
              rw [HP.out]
              refine ⟨?_, grow_below HR.out.2 (HG1.out.up ((G.al _ _).up (G.al _ _))) (fun b hb => (World.ownsRow.lt HO.out b hb).1) hgr⟩
              unfold OwnsI
              rw [flat_snoc, List.length_append]
              exact hown
            clear hown hgr hat
            go_wp2
            go_roundw
            case rel => exact ⟨k + 1, by omega, by go_num, HE.out⟩
            case measure => simp [intOf]; omega
    · obtain rfl : k = n := by omega
      clear hl5
      go_wp2
      go_ret
      exact ⟨_, rfl, HR.out⟩
end Go.Proofs.YtpenaeoodfgmpaaGreatDoor
