/-
  THE REFERENCE: the words of a line.
-/
import Derived.Test.YtfigneaaeakbcaaDoorTc
import Derived.Test.YtfigneaaeakbcaaDoorPb
import Derived.Test.YtfigneaaeakbcaaDoorRf
namespace Go.Proofs.YtfigneaaeakbcaaDoor
open Go.RowKit Hm
attribute [local go_sem] Oper.semAt_some

/-- a word of the reference's -/
def rc (x : W) : Array Value := #[.int .i64 ((x.kind + 1 : Nat) : Int), .string ⟨x.text.toArray⟩, .int .i64 (x.pl : Int)]
theorem rc_one (x : W) : (rc x).all (·.oneCell') = true := by simp [rc, Value.oneCell']
theorem ek39 : Ek 39 65 3 := ⟨Tryd.underlying39, by decide, by decide, .agg #[.int .i64 0, .string ⟨#[]⟩, .int .i64 0], 32, by rfl, by decide, by kernel_rfl⟩
/-- a word is put behind those that have come -/
theorem rc_app {w wr : World} {L : List W} {so : Option Addr} {sc n : Nat} (hn : L.length = n) (ho : OwL 65 3 wr w.heap.size (.slice so n sc) (L.map rc)) (hg : G w wr) (x : W) (hb : n ≤ 1000000) :
    ∃ pa pc wg w2, wg = wr.alloc (.cells (rc x) 65) ∧ (Builtin.append_ #[39, 39] 39 #[.slice so n sc, .slice (some ⟨wr.heap.size, 0, none⟩) 1 1]).run Tryd.prog wg = .ok (.slice pa (n + 1) pc) w2 ∧ OwL 65 3 w2 w.heap.size (.slice pa (n + 1) pc) ((L ++ [x]).map rc) ∧ G w w2 := by
  obtain ⟨v', w2, r1, r2, r3, _⟩ := app_one ek39 39 (rc x) rfl (rc_one x) ho hg.size (by simp; omega) wr.heap.size rfl
  obtain ⟨pa, pc, hv'⟩ := r2.form
  have hlenA : (List.map rc L ++ [rc x]).length = n + 1 := by simp; omega
  rw [hlenA] at hv'
  subst hv'
  exact ⟨pa, pc, _, w2, rfl, r1, by rw [List.map_append]; exact r2, hg.grown r3 hg.size (fun k hk => (ho.lt k hk).1)⟩
set_option maxRecDepth 100000 in
set_option maxHeartbeats 16000000 in
theorem words_any (s : ByteArray) (fr : Nat) (w : World) (hs : s.size ≤ 70000) (hf : fr ≤ 100000) : Calls Tryd.prog 15 #[.string s, .int .i64 (fr : Int)] w fun E w' => ∃ v, E = .returned v ∧ OwL 65 3 w' w.heap.size v ((wds (tl s) fr).map rc) ∧ G w w' := by
  have hlen := tl_len s
  have CQ := hid (fun (i : Nat) (W : World) (h : i < s.size) => quoted_any s i W hs h)
  go_enter Tryd.func15, Tryd.ntmps15
  go_upto_region 3 with fail
  go_loopw [5, 6] (fun x5 x6 wr => ∃ (i n : Nat) (so : Option Addr) (sc : Nat), x5 = .slice so n sc ∧ x6 = .int .i64 (i : Int) ∧ n ≤ i ∧ i ≤ s.size ∧ Hid (∃ L f0 s0, L.length = n ∧ OwL 65 3 wr w.heap.size (.slice so n sc) (L.map rc) ∧ G w wr ∧ wOf (tl s) fr ((tl s).drop i) i ⟨0, f0, s0, L⟩ = wds (tl s) fr)) (fun _ x6 _ => s.size - iOf x6)
  case atStart => exact ⟨0, 0, none, 0, rfl, rfl, by omega, by omega, [], 0, [], rfl, OwL.nil _ _ _ _, Below.refl _ _, rfl⟩
  case round =>
    obtain ⟨i, n, so, sc, rfl, rfl, hni, his, HI⟩ := hrel
    obtain ⟨L, f0, s0, hLn, hO, hG, hW⟩ : ∃ L f0 s0, L.length = n ∧ OwL 65 3 wr w.heap.size (.slice so n sc) (L.map rc) ∧ G w wr ∧ wOf (tl s) fr ((tl s).drop i) i ⟨0, f0, s0, L⟩ = wds (tl s) fr := HI.out
    clear HI
    by_cases hi : i < s.size
    · have hiI : (i : Int) < (s.size : Int) := by omega
      obtain ⟨c, hc⟩ : ∃ c, (tl s)[i]? = some c := ⟨(tl s)[i]'(by omega), by simp⟩
      have hcl := c.toNat_lt
      have hw1 : IntKind.i64.wrap ((i : Int) + 1) = ((i + 1 : Nat) : Int) := by rw [IntKind.wrap_i64]; omega
      have hwf : IntKind.i64.wrap ((fr : Int) + (i : Int)) = ((fr + i : Nat) : Int) := by rw [IntKind.wrap_i64]; omega
      by_cases c1 : c.toNat = 32 ∨ c.toNat = 9
      · rw [w_blank hc c1] at hW
        have HH := hid (⟨hLn, hO, hG, hW⟩ : _ ∧ _ ∧ _ ∧ _)
        clear hLn hO hG hW
        by_cases c2 : c.toNat = 32
        · have b1 : ((c.toNat : Int) == 32) = true := by simp; omega
          go_wp2_with (first
            | ((with_reducible refine pl_val 18 (.int .u8 (c.toNat : Int)) wr ?_ ?_ ?_ ?_); rfl; kernel_rfl; exact exec_idx (.tmp 16) (.tmp 17) rfl s i c _ rfl rfl (by omega) hc wr))
          go_roundw
          case rel => exact ⟨i + 1, n, so, sc, rfl, by first | rfl | (congr 1; omega), by omega, by omega, L, f0, s0, HH.out⟩
          case measure => simp; omega
        · have b1 : ((c.toNat : Int) == 32) = false := by simp; omega
          have b2 : ((c.toNat : Int) == 9) = true := by simp; omega
          go_wp2_with (first
            | ((with_reducible refine pl_val 18 (.int .u8 (c.toNat : Int)) wr ?_ ?_ ?_ ?_); rfl; kernel_rfl; exact exec_idx (.tmp 16) (.tmp 17) rfl s i c _ rfl rfl (by omega) hc wr))
          go_roundw
          case rel => exact ⟨i + 1, n, so, sc, rfl, by first | rfl | (congr 1; omega), by omega, by omega, L, f0, s0, HH.out⟩
          case measure => simp; omega
      · have b1 : ((c.toNat : Int) == 32) = false := by simp; omega
        have b2 : ((c.toNat : Int) == 9) = false := by simp; omega
        by_cases c3 : c.toNat = 35
        · have b3 : ((c.toNat : Int) == 35) = true := by simp; omega
          rw [w_hash hc c3] at hW
          have HH := hid (⟨hO, hG, hW⟩ : _ ∧ _ ∧ _)
          clear hLn hO hG hW b1 b2
          go_wp2_with (first
            | ((with_reducible refine pl_val 18 (.int .u8 (c.toNat : Int)) wr ?_ ?_ ?_ ?_); rfl; kernel_rfl; exact exec_idx (.tmp 16) (.tmp 17) rfl s i c _ rfl rfl (by omega) hc wr))
          go_ret
          rw [← HH.out.2.2]
          exact ⟨_, rfl, HH.out.1, HH.out.2.1⟩
        · have b3 : ((c.toNat : Int) == 35) = false := by simp; omega
          by_cases c4 : c.toNat = 34
          · have b4 : ((c.toNat : Int) == 34) = true := by simp; omega
            rw [w_quote hc c4] at hW
            have hQ := q_run (tl s) fr i L _ _ (Nat.le_refl _) (i + 1) [] rfl
            have CQ := CQ.out i wr hi
            cases hq : qR ((tl s).drop (i + 1)) (i + 1) [] with
            | none =>
              rw [hq] at hQ
              simp only at hQ
              rw [hQ] at hW
              have CQ : Hid (Calls Tryd.prog 27 #[.string s, .int .i64 (i : Int)] wr fun E w' => E = .returned (.tuple #[.string ⟨#[]⟩, .int .i64 0, .bool false]) ∧ G wr w') := CQ.mono (by
                rintro E w' ⟨g, q⟩
                rw [hq] at q
                exact ⟨q, g⟩)
              have HH := hid (⟨hLn, hO, hG, hW⟩ : _ ∧ _ ∧ _ ∧ _)
              clear hLn hO hG hW hq hQ b1 b2 b3
              go_wp2_with (first
                | ((with_reducible refine pl_val 18 (.int .u8 (c.toNat : Int)) wr ?_ ?_ ?_ ?_); rfl; kernel_rfl; exact exec_idx (.tmp 16) (.tmp 17) rfl s i c _ rfl rfl (by omega) hc wr)
                | (go_at_call 27; refine CQ.out.mono ?_; rintro E w4 ⟨rfl, g4⟩; obtain ⟨pa, pc, wg, w2, a1, a2, a3, a4⟩ := rc_app HH.out.1 (HH.out.2.1.up g4) (HH.out.2.2.1.tr g4) (⟨fr + i, 2, []⟩ : W) (by omega); have HA := hid (⟨a1, a2, a3, a4⟩ : _ ∧ _ ∧ _ ∧ _); clear a1 a2 a3 a4; clear g4)
                | ((with_reducible refine pl_val 46 (.slice (some ⟨w4.heap.size, 0, none⟩) 1 1) wg ?_ ?_ ?_ ?_); rfl; kernel_rfl; (rw [HA.out.1]; exact exec_slice1 ek39 (.tmp 45) rfl (.agg (rc (⟨fr + i, 2, []⟩ : W))) (rc (⟨fr + i, 2, []⟩ : W)) rfl rfl rfl w4 _ rfl))
                | ((with_reducible refine pl_val 47 (.slice pa (n + 1) pc) w2 ?_ ?_ ?_ ?_); rfl; kernel_rfl; exact exec_app (sT := 39) (s := .tmp 41) (x := .tmp 46) rfl (v := .slice so n sc) (src := .slice (some ⟨w4.heap.size, 0, none⟩) 1 1) rfl rfl HA.out.2.1))
              go_ret
              rw [← HH.out.2.2.2]
              exact ⟨_, rfl, HA.out.2.2.1, HA.out.2.2.2⟩
            | some p =>
              obtain ⟨t, m⟩ := p
              rw [hq] at hQ
              simp only at hQ
              rw [hQ.1] at hW
              have him := hQ.2
              have CQ : Hid (Calls Tryd.prog 27 #[.string s, .int .i64 (i : Int)] wr fun E w' => E = .returned (.tuple #[.string ⟨t.toArray⟩, .int .i64 (m : Int), .bool true]) ∧ G wr w' ∧ m ≤ s.size) := CQ.mono (by
                rintro E w' ⟨g, q⟩
                rw [hq] at q
                exact ⟨q.1, g, q.2⟩)
              have HH := hid (⟨hLn, hO, hG, hW⟩ : _ ∧ _ ∧ _ ∧ _)
              clear hLn hO hG hW hq hQ b1 b2 b3
              go_wp2_with (first
                | ((with_reducible refine pl_val 18 (.int .u8 (c.toNat : Int)) wr ?_ ?_ ?_ ?_); rfl; kernel_rfl; exact exec_idx (.tmp 16) (.tmp 17) rfl s i c _ rfl rfl (by omega) hc wr)
                | (go_at_call 27; refine CQ.out.mono ?_; rintro E w4 ⟨rfl, g4, hm4⟩; have HM := hid hm4; obtain ⟨pa, pc, wg, w2, a1, a2, a3, a4⟩ := rc_app HH.out.1 (HH.out.2.1.up g4) (HH.out.2.2.1.tr g4) (⟨fr + i, 1, t⟩ : W) (by omega); have HA := hid (⟨a1, a2, a3, a4⟩ : _ ∧ _ ∧ _ ∧ _); clear a1 a2 a3 a4; clear g4 hm4)
                | ((with_reducible refine pl_val 54 (.slice (some ⟨w4.heap.size, 0, none⟩) 1 1) wg ?_ ?_ ?_ ?_); rfl; kernel_rfl; (rw [HA.out.1]; exact exec_slice1 ek39 (.tmp 53) rfl (.agg (rc (⟨fr + i, 1, t⟩ : W))) (rc (⟨fr + i, 1, t⟩ : W)) rfl rfl rfl w4 _ rfl))
                | ((with_reducible refine pl_val 55 (.slice pa (n + 1) pc) w2 ?_ ?_ ?_ ?_); rfl; kernel_rfl; exact exec_app (sT := 39) (s := .tmp 48) (x := .tmp 54) rfl (v := .slice so n sc) (src := .slice (some ⟨w4.heap.size, 0, none⟩) 1 1) rfl rfl HA.out.2.1))
              go_roundw
              case rel => exact ⟨m, n + 1, pa, pc, rfl, rfl, by omega, HM.out, L ++ [⟨fr + i, 1, t⟩], i, t, by have := HH.out.1; simp; omega, HA.out.2.2.1, HA.out.2.2.2, HH.out.2.2.2⟩
              case measure => simp; omega
          · have b4 : ((c.toNat : Int) == 34) = false := by simp; omega
            have hns : ¬ spc c.toNat := by unfold spc; omega
            rw [w_bare hc hns] at hW
            have HH := hid (⟨hLn, hO, hG, hW⟩ : _ ∧ _ ∧ _ ∧ _)
            clear hLn hO hG hW
            go_upto_region 16 with (first
              | ((with_reducible refine pl_val 18 (.int .u8 (c.toNat : Int)) wr ?_ ?_ ?_ ?_); rfl; kernel_rfl; exact exec_idx (.tmp 16) (.tmp 17) rfl s i c _ rfl rfl (by omega) hc wr))
            go_loopw [11] (fun x11 w9 => ∃ (k : Nat), x11 = .int .i64 (k : Int) ∧ i ≤ k ∧ k ≤ s.size ∧ w9 = wr ∧ Hid (k = i ∨ (i < k ∧ wOf (tl s) fr ((tl s).drop k) k ⟨1, i, s0, L⟩ = wds (tl s) fr))) (fun x11 _ => s.size - iOf x11)
            case atStart => exact ⟨i, rfl, Nat.le_refl _, his, rfl, Or.inl rfl⟩
            case round =>
              obtain ⟨k, rfl, hik, hks, rfl, HK⟩ := hrel
              by_cases hk : k < s.size
              · have hkI : (k : Int) < (s.size : Int) := by omega
                obtain ⟨d, hd⟩ : ∃ d, (tl s)[k]? = some d := ⟨(tl s)[k]'(by omega), by simp⟩
                have hdl := d.toNat_lt
                have hwk : IntKind.i64.wrap ((k : Int) + 1) = ((k + 1 : Nat) : Int) := by rw [IntKind.wrap_i64]; omega
                have hcd : k = i → d = c := fun e => by rw [e, hc] at hd; exact (Option.some.inj hd).symm
                by_cases hsp : spc d.toNat
                · have hki : k ≠ i := fun e => hns (by rw [← hcd e]; exact hsp)
                  have hend := hid (Or.inr ⟨d, hd, hsp⟩ : k = (tl s).length ∨ ∃ c, (tl s)[k]? = some c ∧ spc c.toNat)
                  clear hcd
                  by_cases d1 : d.toNat = 32
                  · have e1 : ((d.toNat : Int) != 32) = false := by simp; omega
                    obtain ⟨q1, q2, q3, q4⟩ := HH.out
                    have hout : wOf (tl s) fr ((tl s).drop k) k ⟨0, i, s0, L ++ [⟨fr + i, 0, ((tl s).drop i).take (k - i)⟩]⟩ = wds (tl s) fr := by
                      rcases HK.out with e | ⟨e1, e2⟩
                      · exact absurd e hki
                      · rw [← w_out hend.out]; exact e2
                    have htx : ((tl s).drop i).take (k - i) = tl (s.extract i k) := (tl_extract s i k).symm
                    obtain ⟨pa, pc, wg, w2, a1, a2, a3, a4⟩ := rc_app q1 q2 q3 (⟨fr + i, 0, ((tl s).drop i).take (k - i)⟩ : W) (by omega)
                    have hrc : rc (⟨fr + i, 0, ((tl s).drop i).take (k - i)⟩ : W) = #[.int .i64 1, .string (s.extract i k), .int .i64 ((fr + i : Nat) : Int)] := by unfold rc; simp only [htx, txt]; rfl
                    rw [hrc] at a1
                    have HA := hid (⟨a1, a2, a3, a4, hout, q1⟩ : _ ∧ _ ∧ _ ∧ _ ∧ _ ∧ _)
                    have i1 : (i : Int) ≤ (k : Int) := by omega
                    have i2 : (k : Int) ≤ (s.size : Int) := by omega
                    clear a1 a2 a3 a4 hout q1 q2 q3 q4 htx hrc
                    go_wp2_with (first
                      | ((with_reducible refine pl_val 65 (.int .u8 (d.toNat : Int)) wr ?_ ?_ ?_ ?_); rfl; kernel_rfl; exact exec_idx (.tmp 63) (.tmp 64) rfl s k d _ rfl rfl (by omega) hd wr)
                      | ((with_reducible refine pl_val 71 (.int .u8 (d.toNat : Int)) wr ?_ ?_ ?_ ?_); rfl; kernel_rfl; exact exec_idx (.tmp 69) (.tmp 70) rfl s k d _ rfl rfl (by omega) hd wr)
                      | ((with_reducible refine pl_val 77 (.int .u8 (d.toNat : Int)) wr ?_ ?_ ?_ ?_); rfl; kernel_rfl; exact exec_idx (.tmp 75) (.tmp 76) rfl s k d _ rfl rfl (by omega) hd wr)
                      | ((with_reducible refine pl_val 83 (.int .u8 (d.toNat : Int)) wr ?_ ?_ ?_ ?_); rfl; kernel_rfl; exact exec_idx (.tmp 81) (.tmp 82) rfl s k d _ rfl rfl (by omega) hd wr)
                      | ((with_reducible refine pl_val 97 (.slice (some ⟨wr.heap.size, 0, none⟩) 1 1) wg ?_ ?_ ?_ ?_); rfl; kernel_rfl; (rw [HA.out.1]; exact exec_slice1 ek39 (.tmp 96) rfl (.agg #[.int .i64 1, .string (s.extract i k), .int .i64 ((fr + i : Nat) : Int)]) #[.int .i64 1, .string (s.extract i k), .int .i64 ((fr + i : Nat) : Int)] rfl rfl rfl wr _ rfl))
                      | ((with_reducible refine pl_val 98 (.slice pa (n + 1) pc) w2 ?_ ?_ ?_ ?_); rfl; kernel_rfl; exact exec_app (sT := 39) (s := .tmp 88) (x := .tmp 97) rfl (v := .slice so n sc) (src := .slice (some ⟨wr.heap.size, 0, none⟩) 1 1) rfl rfl HA.out.2.1))
                    go_roundw
                    case rel => exact ⟨k, n + 1, pa, pc, rfl, rfl, by omega, by omega, L ++ [⟨fr + i, 0, ((tl s).drop i).take (k - i)⟩], i, s0, by have := HA.out.2.2.2.2.2; simp; omega, HA.out.2.2.1, HA.out.2.2.2.1, HA.out.2.2.2.2.1⟩
                    case measure => simp; omega
                  · have e1 : ((d.toNat : Int) != 32) = true := by simp; omega
                    by_cases d2 : d.toNat = 9
                    · have e2 : ((d.toNat : Int) != 9) = false := by simp; omega
                      obtain ⟨q1, q2, q3, q4⟩ := HH.out
                      have hout : wOf (tl s) fr ((tl s).drop k) k ⟨0, i, s0, L ++ [⟨fr + i, 0, ((tl s).drop i).take (k - i)⟩]⟩ = wds (tl s) fr := by
                        rcases HK.out with e | ⟨e1, e2⟩
                        · exact absurd e hki
                        · rw [← w_out hend.out]; exact e2
                      have htx : ((tl s).drop i).take (k - i) = tl (s.extract i k) := (tl_extract s i k).symm
                      obtain ⟨pa, pc, wg, w2, a1, a2, a3, a4⟩ := rc_app q1 q2 q3 (⟨fr + i, 0, ((tl s).drop i).take (k - i)⟩ : W) (by omega)
                      have hrc : rc (⟨fr + i, 0, ((tl s).drop i).take (k - i)⟩ : W) = #[.int .i64 1, .string (s.extract i k), .int .i64 ((fr + i : Nat) : Int)] := by unfold rc; simp only [htx, txt]; rfl
                      rw [hrc] at a1
                      have HA := hid (⟨a1, a2, a3, a4, hout, q1⟩ : _ ∧ _ ∧ _ ∧ _ ∧ _ ∧ _)
                      have i1 : (i : Int) ≤ (k : Int) := by omega
                      have i2 : (k : Int) ≤ (s.size : Int) := by omega
                      clear a1 a2 a3 a4 hout q1 q2 q3 q4 htx hrc
                      go_wp2_with (first
                        | ((with_reducible refine pl_val 65 (.int .u8 (d.toNat : Int)) wr ?_ ?_ ?_ ?_); rfl; kernel_rfl; exact exec_idx (.tmp 63) (.tmp 64) rfl s k d _ rfl rfl (by omega) hd wr)
                        | ((with_reducible refine pl_val 71 (.int .u8 (d.toNat : Int)) wr ?_ ?_ ?_ ?_); rfl; kernel_rfl; exact exec_idx (.tmp 69) (.tmp 70) rfl s k d _ rfl rfl (by omega) hd wr)
                        | ((with_reducible refine pl_val 77 (.int .u8 (d.toNat : Int)) wr ?_ ?_ ?_ ?_); rfl; kernel_rfl; exact exec_idx (.tmp 75) (.tmp 76) rfl s k d _ rfl rfl (by omega) hd wr)
                        | ((with_reducible refine pl_val 83 (.int .u8 (d.toNat : Int)) wr ?_ ?_ ?_ ?_); rfl; kernel_rfl; exact exec_idx (.tmp 81) (.tmp 82) rfl s k d _ rfl rfl (by omega) hd wr)
                        | ((with_reducible refine pl_val 97 (.slice (some ⟨wr.heap.size, 0, none⟩) 1 1) wg ?_ ?_ ?_ ?_); rfl; kernel_rfl; (rw [HA.out.1]; exact exec_slice1 ek39 (.tmp 96) rfl (.agg #[.int .i64 1, .string (s.extract i k), .int .i64 ((fr + i : Nat) : Int)]) #[.int .i64 1, .string (s.extract i k), .int .i64 ((fr + i : Nat) : Int)] rfl rfl rfl wr _ rfl))
                        | ((with_reducible refine pl_val 98 (.slice pa (n + 1) pc) w2 ?_ ?_ ?_ ?_); rfl; kernel_rfl; exact exec_app (sT := 39) (s := .tmp 88) (x := .tmp 97) rfl (v := .slice so n sc) (src := .slice (some ⟨wr.heap.size, 0, none⟩) 1 1) rfl rfl HA.out.2.1))
                      go_roundw
                      case rel => exact ⟨k, n + 1, pa, pc, rfl, rfl, by omega, by omega, L ++ [⟨fr + i, 0, ((tl s).drop i).take (k - i)⟩], i, s0, by have := HA.out.2.2.2.2.2; simp; omega, HA.out.2.2.1, HA.out.2.2.2.1, HA.out.2.2.2.2.1⟩
                      case measure => simp; omega
                    · have e2 : ((d.toNat : Int) != 9) = true := by simp; omega
                      by_cases d3 : d.toNat = 35
                      · have e3 : ((d.toNat : Int) != 35) = false := by simp; omega
                        obtain ⟨q1, q2, q3, q4⟩ := HH.out
                        have hout : wOf (tl s) fr ((tl s).drop k) k ⟨0, i, s0, L ++ [⟨fr + i, 0, ((tl s).drop i).take (k - i)⟩]⟩ = wds (tl s) fr := by
                          rcases HK.out with e | ⟨e1, e2⟩
                          · exact absurd e hki
                          · rw [← w_out hend.out]; exact e2
                        have htx : ((tl s).drop i).take (k - i) = tl (s.extract i k) := (tl_extract s i k).symm
                        obtain ⟨pa, pc, wg, w2, a1, a2, a3, a4⟩ := rc_app q1 q2 q3 (⟨fr + i, 0, ((tl s).drop i).take (k - i)⟩ : W) (by omega)
                        have hrc : rc (⟨fr + i, 0, ((tl s).drop i).take (k - i)⟩ : W) = #[.int .i64 1, .string (s.extract i k), .int .i64 ((fr + i : Nat) : Int)] := by unfold rc; simp only [htx, txt]; rfl
                        rw [hrc] at a1
                        have HA := hid (⟨a1, a2, a3, a4, hout, q1⟩ : _ ∧ _ ∧ _ ∧ _ ∧ _ ∧ _)
                        have i1 : (i : Int) ≤ (k : Int) := by omega
                        have i2 : (k : Int) ≤ (s.size : Int) := by omega
                        clear a1 a2 a3 a4 hout q1 q2 q3 q4 htx hrc
                        go_wp2_with (first
                          | ((with_reducible refine pl_val 65 (.int .u8 (d.toNat : Int)) wr ?_ ?_ ?_ ?_); rfl; kernel_rfl; exact exec_idx (.tmp 63) (.tmp 64) rfl s k d _ rfl rfl (by omega) hd wr)
                          | ((with_reducible refine pl_val 71 (.int .u8 (d.toNat : Int)) wr ?_ ?_ ?_ ?_); rfl; kernel_rfl; exact exec_idx (.tmp 69) (.tmp 70) rfl s k d _ rfl rfl (by omega) hd wr)
                          | ((with_reducible refine pl_val 77 (.int .u8 (d.toNat : Int)) wr ?_ ?_ ?_ ?_); rfl; kernel_rfl; exact exec_idx (.tmp 75) (.tmp 76) rfl s k d _ rfl rfl (by omega) hd wr)
                          | ((with_reducible refine pl_val 83 (.int .u8 (d.toNat : Int)) wr ?_ ?_ ?_ ?_); rfl; kernel_rfl; exact exec_idx (.tmp 81) (.tmp 82) rfl s k d _ rfl rfl (by omega) hd wr)
                          | ((with_reducible refine pl_val 97 (.slice (some ⟨wr.heap.size, 0, none⟩) 1 1) wg ?_ ?_ ?_ ?_); rfl; kernel_rfl; (rw [HA.out.1]; exact exec_slice1 ek39 (.tmp 96) rfl (.agg #[.int .i64 1, .string (s.extract i k), .int .i64 ((fr + i : Nat) : Int)]) #[.int .i64 1, .string (s.extract i k), .int .i64 ((fr + i : Nat) : Int)] rfl rfl rfl wr _ rfl))
                          | ((with_reducible refine pl_val 98 (.slice pa (n + 1) pc) w2 ?_ ?_ ?_ ?_); rfl; kernel_rfl; exact exec_app (sT := 39) (s := .tmp 88) (x := .tmp 97) rfl (v := .slice so n sc) (src := .slice (some ⟨wr.heap.size, 0, none⟩) 1 1) rfl rfl HA.out.2.1))
                        go_roundw
                        case rel => exact ⟨k, n + 1, pa, pc, rfl, rfl, by omega, by omega, L ++ [⟨fr + i, 0, ((tl s).drop i).take (k - i)⟩], i, s0, by have := HA.out.2.2.2.2.2; simp; omega, HA.out.2.2.1, HA.out.2.2.2.1, HA.out.2.2.2.2.1⟩
                        case measure => simp; omega
                      · have e3 : ((d.toNat : Int) != 35) = true := by simp; omega
                        have d4 : d.toNat = 34 := by unfold spc at hsp; omega
                        have e4 : ((d.toNat : Int) != 34) = false := by simp; omega
                        obtain ⟨q1, q2, q3, q4⟩ := HH.out
                        have hout : wOf (tl s) fr ((tl s).drop k) k ⟨0, i, s0, L ++ [⟨fr + i, 0, ((tl s).drop i).take (k - i)⟩]⟩ = wds (tl s) fr := by
                          rcases HK.out with e | ⟨e1, e2⟩
                          · exact absurd e hki
                          · rw [← w_out hend.out]; exact e2
                        have htx : ((tl s).drop i).take (k - i) = tl (s.extract i k) := (tl_extract s i k).symm
                        obtain ⟨pa, pc, wg, w2, a1, a2, a3, a4⟩ := rc_app q1 q2 q3 (⟨fr + i, 0, ((tl s).drop i).take (k - i)⟩ : W) (by omega)
                        have hrc : rc (⟨fr + i, 0, ((tl s).drop i).take (k - i)⟩ : W) = #[.int .i64 1, .string (s.extract i k), .int .i64 ((fr + i : Nat) : Int)] := by unfold rc; simp only [htx, txt]; rfl
                        rw [hrc] at a1
                        have HA := hid (⟨a1, a2, a3, a4, hout, q1⟩ : _ ∧ _ ∧ _ ∧ _ ∧ _ ∧ _)
                        have i1 : (i : Int) ≤ (k : Int) := by omega
                        have i2 : (k : Int) ≤ (s.size : Int) := by omega
                        clear a1 a2 a3 a4 hout q1 q2 q3 q4 htx hrc
                        go_wp2_with (first
                          | ((with_reducible refine pl_val 65 (.int .u8 (d.toNat : Int)) wr ?_ ?_ ?_ ?_); rfl; kernel_rfl; exact exec_idx (.tmp 63) (.tmp 64) rfl s k d _ rfl rfl (by omega) hd wr)
                          | ((with_reducible refine pl_val 71 (.int .u8 (d.toNat : Int)) wr ?_ ?_ ?_ ?_); rfl; kernel_rfl; exact exec_idx (.tmp 69) (.tmp 70) rfl s k d _ rfl rfl (by omega) hd wr)
                          | ((with_reducible refine pl_val 77 (.int .u8 (d.toNat : Int)) wr ?_ ?_ ?_ ?_); rfl; kernel_rfl; exact exec_idx (.tmp 75) (.tmp 76) rfl s k d _ rfl rfl (by omega) hd wr)
                          | ((with_reducible refine pl_val 83 (.int .u8 (d.toNat : Int)) wr ?_ ?_ ?_ ?_); rfl; kernel_rfl; exact exec_idx (.tmp 81) (.tmp 82) rfl s k d _ rfl rfl (by omega) hd wr)
                          | ((with_reducible refine pl_val 97 (.slice (some ⟨wr.heap.size, 0, none⟩) 1 1) wg ?_ ?_ ?_ ?_); rfl; kernel_rfl; (rw [HA.out.1]; exact exec_slice1 ek39 (.tmp 96) rfl (.agg #[.int .i64 1, .string (s.extract i k), .int .i64 ((fr + i : Nat) : Int)]) #[.int .i64 1, .string (s.extract i k), .int .i64 ((fr + i : Nat) : Int)] rfl rfl rfl wr _ rfl))
                          | ((with_reducible refine pl_val 98 (.slice pa (n + 1) pc) w2 ?_ ?_ ?_ ?_); rfl; kernel_rfl; exact exec_app (sT := 39) (s := .tmp 88) (x := .tmp 97) rfl (v := .slice so n sc) (src := .slice (some ⟨wr.heap.size, 0, none⟩) 1 1) rfl rfl HA.out.2.1))
                        go_roundw
                        case rel => exact ⟨k, n + 1, pa, pc, rfl, rfl, by omega, by omega, L ++ [⟨fr + i, 0, ((tl s).drop i).take (k - i)⟩], i, s0, by have := HA.out.2.2.2.2.2; simp; omega, HA.out.2.2.1, HA.out.2.2.2.1, HA.out.2.2.2.2.1⟩
                        case measure => simp; omega
                · have e1 : ((d.toNat : Int) != 32) = true := by unfold spc at hsp; simp; omega
                  have e2 : ((d.toNat : Int) != 9) = true := by unfold spc at hsp; simp; omega
                  have e3 : ((d.toNat : Int) != 35) = true := by unfold spc at hsp; simp; omega
                  have e4 : ((d.toNat : Int) != 34) = true := by unfold spc at hsp; simp; omega
                  have HK2 : Hid (k + 1 = i ∨ (i < k + 1 ∧ wOf (tl s) fr ((tl s).drop (k + 1)) (k + 1) ⟨1, i, s0, L⟩ = wds (tl s) fr)) := by
                    refine Or.inr ⟨by omega, ?_⟩
                    rcases HK.out with e | ⟨_, e⟩
                    · rw [e]; exact HH.out.2.2.2
                    · rw [← w_in hd hsp]; exact e
                  clear hcd
                  go_wp2_with (first
                    | ((with_reducible refine pl_val 65 (.int .u8 (d.toNat : Int)) wr ?_ ?_ ?_ ?_); rfl; kernel_rfl; exact exec_idx (.tmp 63) (.tmp 64) rfl s k d _ rfl rfl (by omega) hd wr)
                    | ((with_reducible refine pl_val 71 (.int .u8 (d.toNat : Int)) wr ?_ ?_ ?_ ?_); rfl; kernel_rfl; exact exec_idx (.tmp 69) (.tmp 70) rfl s k d _ rfl rfl (by omega) hd wr)
                    | ((with_reducible refine pl_val 77 (.int .u8 (d.toNat : Int)) wr ?_ ?_ ?_ ?_); rfl; kernel_rfl; exact exec_idx (.tmp 75) (.tmp 76) rfl s k d _ rfl rfl (by omega) hd wr)
                    | ((with_reducible refine pl_val 83 (.int .u8 (d.toNat : Int)) wr ?_ ?_ ?_ ?_); rfl; kernel_rfl; exact exec_idx (.tmp 81) (.tmp 82) rfl s k d _ rfl rfl (by omega) hd wr))
                  go_roundw
                  case rel => exact ⟨k + 1, by first | rfl | (congr 1; omega), by omega, by omega, by first | rfl | trivial, HK2.out⟩
                  case measure => simp; omega
              · have hkI : ¬ (k : Int) < (s.size : Int) := by omega
                have hki : k ≠ i := by omega
                have hend := hid (Or.inl (by omega) : k = (tl s).length ∨ ∃ c, (tl s)[k]? = some c ∧ spc c.toNat)
                obtain ⟨q1, q2, q3, q4⟩ := HH.out
                have hout : wOf (tl s) fr ((tl s).drop k) k ⟨0, i, s0, L ++ [⟨fr + i, 0, ((tl s).drop i).take (k - i)⟩]⟩ = wds (tl s) fr := by
                  rcases HK.out with e | ⟨e1, e2⟩
                  · exact absurd e hki
                  · rw [← w_out hend.out]; exact e2
                have htx : ((tl s).drop i).take (k - i) = tl (s.extract i k) := (tl_extract s i k).symm
                obtain ⟨pa, pc, wg, w2, a1, a2, a3, a4⟩ := rc_app q1 q2 q3 (⟨fr + i, 0, ((tl s).drop i).take (k - i)⟩ : W) (by omega)
                have hrc : rc (⟨fr + i, 0, ((tl s).drop i).take (k - i)⟩ : W) = #[.int .i64 1, .string (s.extract i k), .int .i64 ((fr + i : Nat) : Int)] := by unfold rc; simp only [htx, txt]; rfl
                rw [hrc] at a1
                have HA := hid (⟨a1, a2, a3, a4, hout, q1⟩ : _ ∧ _ ∧ _ ∧ _ ∧ _ ∧ _)
                have i1 : (i : Int) ≤ (k : Int) := by omega
                have i2 : (k : Int) ≤ (s.size : Int) := by omega
                clear a1 a2 a3 a4 hout q1 q2 q3 q4 htx hrc
                go_wp2_with (first
                  | ((with_reducible refine pl_val 97 (.slice (some ⟨wr.heap.size, 0, none⟩) 1 1) wg ?_ ?_ ?_ ?_); rfl; kernel_rfl; (rw [HA.out.1]; exact exec_slice1 ek39 (.tmp 96) rfl (.agg #[.int .i64 1, .string (s.extract i k), .int .i64 ((fr + i : Nat) : Int)]) #[.int .i64 1, .string (s.extract i k), .int .i64 ((fr + i : Nat) : Int)] rfl rfl rfl wr _ rfl))
                  | ((with_reducible refine pl_val 98 (.slice pa (n + 1) pc) w2 ?_ ?_ ?_ ?_); rfl; kernel_rfl; exact exec_app (sT := 39) (s := .tmp 88) (x := .tmp 97) rfl (v := .slice so n sc) (src := .slice (some ⟨wr.heap.size, 0, none⟩) 1 1) rfl rfl HA.out.2.1))
                go_roundw
                case rel => exact ⟨k, n + 1, pa, pc, rfl, rfl, by omega, by omega, L ++ [⟨fr + i, 0, ((tl s).drop i).take (k - i)⟩], i, s0, by have := HA.out.2.2.2.2.2; simp; omega, HA.out.2.2.1, HA.out.2.2.2.1, HA.out.2.2.2.2.1⟩
                case measure => simp; omega
    · have hiI : ¬ (i : Int) < (s.size : Int) := by omega
      rw [w_end (by omega)] at hW
      have HH := hid (⟨hO, hG, hW⟩ : _ ∧ _ ∧ _)
      clear hLn hO hG hW
      go_wp2
      go_ret
      rw [← HH.out.2.2]
      exact ⟨_, rfl, HH.out.1, HH.out.2.1⟩
end Go.Proofs.YtfigneaaeakbcaaDoor
