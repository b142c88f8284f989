/-
  The reference's Mirror by contract.
-/
import Derived.Test.YtpngnhpnjkepjaaDoorTPlain
import Derived.Test.YtpngnhpnjkepjaaDoorTParse
import Derived.Deep.Cut
namespace Go.Proofs.YtpngnhpnjkepjaaDoor
open Go.RowKit

set_option maxHeartbeats 4000000 in
set_option maxRecDepth 100000 in
theorem tskip_any (v : Value) (L : List Ru) (q : ByteArray) (w : World) (hv : HasR w v L) (hL : ∀ r ∈ L, r.1 = 1 ∨ r.1 = 2 ∨ r.1 = 3) (hS : ShortR L) (hq : q.size ≤ 1048576) :
    Calls Tryd.prog 15 #[v, .string q] w fun e w' => e = .returned (.bool (skipR L (tl q))) ∧ Below w.heap.size w w' := by
  have HV : Hid (HasR w v L) := hv
  have HL : Hid (∀ r ∈ L, r.1 = 1 ∨ r.1 = 2 ∨ r.1 = 3) := hL
  have HS : Hid (ShortR L) := hS
  obtain ⟨ao, cap, hvf⟩ := hv.form
  have hn := hS.2
  clear hv hL hS
  obtain ⟨N, hN⟩ : ∃ N, L.length = N := ⟨_, rfl⟩
  rw [hN] at hvf hn
  have HN : Hid (L.length = N) := hN
  subst hvf
  clear hN
  have C35 := refSplit_any q w hq
  obtain ⟨B, hB⟩ : ∃ B, skipR L (tl q) = B := ⟨_, rfl⟩
  have HB : Hid (skipR L (tl q) = B) := hB
  rw [hB]
  clear hB
  obtain ⟨E, hE⟩ : ∃ E, splitE (tl q) 64 = E := ⟨_, rfl⟩
  have HE : Hid (splitE (tl q) 64 = E) := hE
  rw [hE] at C35
  clear hE
  by_cases h0 : E = 0
  · subst h0
    have hL0 : splitL (tl q) 64 = pieces (tl q) := if_pos HE.out
    rw [hL0] at C35
    clear hL0
    go_enter Tryd.func15, Tryd.ntmps15
    go_wp2_with (go_at_call 35; refine C35.mono ?_; rintro e w1 ⟨⟨v, X, rfl, hX, hXl⟩, hb1⟩; have HX : Hid (HasT w1 v X ∧ X.map tl = pieces (tl q) ∧ Below w.heap.size w w1) := ⟨hX.has, hXl, hb1⟩; obtain ⟨xo, xc, rfl, hxc⟩ := hX.has.form; clear hX hXl hb1)
    obtain ⟨M, hM⟩ : ∃ M, X.length = M := ⟨_, rfl⟩
    have HM : Hid (X.length = M) := hM
    rw [hM]
    rw [hM] at hxc
    have HXX : Hid (HasT w1 (.slice xo M xc) X ∧ X.map tl = pieces (tl q) ∧ Below w.heap.size w w1) := by rw [← hM]; exact HX
    have hM64 : M ≤ 64 := by
      have h1 := congrArg List.length HX.out.2.1
      rw [List.length_map, hM] at h1
      have h2 := HE.out
      unfold splitE at h2
      by_cases h3 : max (64 : Int) 0 < ((pieces (tl q)).length : Int)
      · rw [if_pos h3] at h2; cases h2
      · omega
    have HPL : Hid ((pieces (tl q)).length = M) := by show _ = _; rw [← HX.out.2.1, List.length_map]; exact hM
    clear HX hM
    have HJ : Hid (∀ n : Nat, (joinL ((pieces (tl q)).take n)).length ≤ q.size) := fun n => by
      by_cases hn : n ≤ (pieces (tl q)).length
      · have := join_take_le hn
        rw [join_pieces, tl_len] at this; exact this
      · rw [List.take_of_length_le (by omega), join_pieces, tl_len]; exact Nat.le_refl _
    go_loopw [7] (fun t7 wr => ∃ (n : Nat), t7 = .int .i64 (n : Int) ∧ 1 ≤ n ∧ n ≤ M + 1 ∧ Hid (Below w1.heap.size w1 wr ∧ ∀ j, j + 1 < n → hits (skipsOf L) (joinL ((pieces (tl q)).take (j + 1))) = false)) (fun t7 wr => M + 1 - iOf t7)
    case atStart => exact ⟨1, rfl, Nat.le_refl _, by omega, Below.refl _ _, fun j h => by omega⟩
    case round =>
      obtain ⟨n, rfl, h1n, hnM, HT⟩ := hrel
      obtain ⟨W, hWW⟩ : ∃ W, W = wr := ⟨_, rfl⟩
      subst hWW
      by_cases hlt : n ≤ M
      · have i1 : (n : Int) ≤ (M : Int) := by omega
        have i2 : (n : Int) ≤ (xc : Int) := by omega
        have hTn : HasT W (.slice xo n xc) (X.take n) := by
          have h := HXX.out.1.below HT.out.1
          by_cases e : n = M
          · subst e; rw [List.take_of_length_le (by rw [HM.out]; exact Nat.le_refl _)]; exact h
          · have hm := HM.out
            rw [← hm] at h
            exact HasT.take h (by omega)
        have hmap : (X.take n).map tl = (pieces (tl q)).take n := by rw [List.map_take, HXX.out.2.1]
        have hjl := HJ.out n
        have C36 := refJoin_any (.slice xo n xc) (X.take n) W hTn (by rw [List.length_take]; omega) (by rw [hmap]; omega)
        rw [hmap] at C36
        obtain ⟨z, hz⟩ : ∃ z, ofL (joinL ((pieces (tl q)).take n)) = z := ⟨_, rfl⟩
        have hzt : tl z = joinL ((pieces (tl q)).take n) := by rw [← hz]; exact tl_ofL _
        have hzs : z.size ≤ 1048576 := by rw [← tl_len, hzt]; omega
        rw [hz] at C36
        have HZ : Hid (tl z = joinL ((pieces (tl q)).take n)) := hzt
        clear hTn hmap hjl hz hzt
        go_wp2_with (go_at_call 36; refine C36.mono ?_; rintro e w2 ⟨rfl, hw2⟩; rw [hw2]; clear hw2)
        go_loopw [9] (fun t9 wr => ∃ (i : Nat), t9 = .int .i64 (i : Int) ∧ i ≤ N ∧ Hid (Below W.heap.size W wr ∧ hits (skipsOf (L.take i)) (tl z) = false)) (fun t9 wr => N - iOf t9)
        case atStart => exact ⟨0, rfl, Nat.zero_le _, Below.refl _ _, by simp [skipsOf, hits]⟩
        case round =>
          obtain ⟨i, rfl, hiN, HI⟩ := hrel
          have HBW : Hid (Below w.heap.size w wr) := Below.up (Below.up HXX.out.2.2 HT.out.1) HI.out.1
          by_cases hlt2 : i < N
          · have i3 : (i : Int) < (N : Int) := by omega
            obtain ⟨r, hr⟩ : ∃ r, L[i]? = some r := ⟨_, List.getElem?_eq_getElem (by rw [HN.out]; exact hlt2)⟩
            obtain ⟨g, rfl, hc⟩ : ∃ g, ao = some ⟨g, 0, none⟩ ∧ ∀ i r, L[i]? = some r → wr.cell? ⟨g, i * 2, none⟩ = some (.int .i64 (r.1 : Int)) ∧ wr.cell? ⟨g, i * 2 + 1, none⟩ = some (.string (ofB r.2)) := by
              rcases HV.out.up HBW.out with ⟨_, h⟩ | ⟨_, g, c2, hv, _, h⟩
              · subst h; simp at hr
              · cases hv; exact ⟨g, rfl, h⟩
            obtain ⟨y0, y1⟩ := hc i r hr
            clear hc
            have hm := List.mem_of_getElem? hr
            have hsn := hits_snoc (L.take i) r (tl z)
            rw [← take_snoc hr, HI.out.2, Bool.false_or] at hsn
            have hk := HL.out r hm
            have hrl := HS.out.1 r hm
            obtain ⟨k, p⟩ := r
            simp only at hsn hk y0 y1 hrl
            have C28 := fun W => refMatch_any (ofB p) z W (by rw [ofB_size]; omega) hzs
            rw [tl_ofB] at C28
            obtain ⟨MM, hMM⟩ : ∃ MM, matchV p (tl z) = MM := ⟨_, rfl⟩
            rw [hMM] at C28 hsn
            obtain ⟨mb, me⟩ := MM
            simp only at C28 hsn
            have HIB : Hid (Below W.heap.size W wr) := HI.out.1
            by_cases hk1 : k = 1
            · subst hk1
              simp only [decide_true, Bool.true_and] at hsn
              cases mb with
              | true =>
                have hBt : B = true := by
                  rw [← HB.out]
                  refine skipR_yes (k := n - 1) HE.out (by rw [HPL.out]; omega) ?_
                  rw [show n - 1 + 1 = n from by omega, ← HZ.out]
                  have h1 : L.take (i + 1) ++ L.drop (i + 1) = L := List.take_append_drop _ _
                  unfold hits skipsOf at hsn ⊢
                  rw [← h1, List.filter_append, List.map_append, List.any_append, hsn, Bool.true_or]
                subst hBt
                clear hsn hk hrl hr hm hMM HI HB
                go_wp2_with (go_at_call 28; refine (C28 _).mono ?_; rintro e w3 ⟨rfl, hg3⟩)
                go_ret
                exact ⟨rfl, Below.up HBW.out hg3⟩
              | false =>
                have HH : Hid (hits (skipsOf (L.take (i + 1))) (tl z) = false) := hsn
                clear hsn hk hrl hr hm hMM HI
                go_wp2_with (go_at_call 28; refine (C28 _).mono ?_; rintro e w3 ⟨rfl, hg3⟩)
                have HI2 : Hid (Below W.heap.size W w3 ∧ hits (skipsOf (L.take (i + 1))) (tl z) = false) := ⟨Below.up HIB.out hg3, HH.out⟩
                go_roundw
                case rel => exact ⟨i + 1, by go_num, by omega, HI2⟩
                case measure => simp; omega
            · have b1 : ((k : Int) == 1) = false := by simp; omega
              have hsn2 : hits (skipsOf (L.take (i + 1))) (tl z) = false := by rw [hsn, decide_eq_false hk1, Bool.false_and]
              have HI2 : Hid (Below W.heap.size W wr ∧ hits (skipsOf (L.take (i + 1))) (tl z) = false) := ⟨HIB.out, hsn2⟩
              clear hsn hsn2 hk hrl hr hm hMM HI C28 hk1
              go_wp2
              go_roundw
              case rel => exact ⟨i + 1, by go_num, by omega, HI2⟩
              case measure => simp; omega
          · have hi2 : i = N := by omega
            subst hi2
            have hz0 := HI.out.2
            rw [List.take_of_length_le (by rw [HN.out]; exact Nat.le_refl _), HZ.out] at hz0
            have HT2 : Hid (Below w1.heap.size w1 wr ∧ ∀ j, j + 1 < n + 1 → hits (skipsOf L) (joinL ((pieces (tl q)).take (j + 1))) = false) := ⟨Below.up HT.out.1 HI.out.1, fun j hj => by
              by_cases e : j + 1 = n
              · rw [e]; exact hz0
              · exact HT.out.2 j (by omega)⟩
            clear hz0 HT HI
            go_wp2
            go_roundw
            case rel => exact ⟨n + 1, by go_num, by omega, by omega, HT2⟩
            case measure => simp; omega
      · have hn2 : n = M + 1 := by omega
        subst hn2
        have hBf : B = false := by
          rw [← HB.out]
          refine skipR_none fun k hk => HT.out.2 k ?_
          rw [HPL.out] at hk; omega
        subst hBf
        have HBW : Hid (Below w.heap.size w W) := Below.up HXX.out.2.2 HT.out.1
        clear HT HB
        go_wp2
        go_ret
        exact ⟨rfl, HBW.out⟩
  · have b0 : (E == 0) = false := by simpa using h0
    have hBf : B = false := by rw [← HB.out]; exact skipR_no (by rw [HE.out]; exact h0)
    subst hBf
    clear HB
    go_enter Tryd.func15, Tryd.ntmps15
    go_wp2_with (go_at_call 35; refine C35.mono ?_; rintro e w1 ⟨⟨v, X, rfl, hX, hXl⟩, hb1⟩; obtain ⟨xo, xc, rfl, hxc⟩ := hX.has.form; clear hX hXl)
    go_ret
    exact ⟨rfl, hb1⟩
end Go.Proofs.YtpngnhpnjkepjaaDoor
namespace Go.Proofs.YtpngnhpnjkepjaaDoor
open Go.RowKit

set_option maxHeartbeats 2000000 in
set_option maxRecDepth 100000 in
theorem tpref_any (v : Value) (L : List Ru) (q : ByteArray) (w : World) (hv : HasR w v L) (hL : ∀ r ∈ L, r.1 = 1 ∨ r.1 = 2 ∨ r.1 = 3) (hS : ShortR L) (hq : q.size ≤ 1048576) :
    Calls Tryd.prog 17 #[v, .string q] w fun e w' => e = .returned (.int .i64 (prefR L (tl q) : Int)) ∧ Below w.heap.size w w' := by
  have HV : Hid (HasR w v L) := hv
  have HL : Hid (∀ r ∈ L, r.1 = 1 ∨ r.1 = 2 ∨ r.1 = 3) := hL
  have HS : Hid (ShortR L) := hS
  obtain ⟨ao, cap, hvf⟩ := hv.form
  have hn := hS.2
  clear hv hL hS
  obtain ⟨N, hN⟩ : ∃ N, L.length = N := ⟨_, rfl⟩
  rw [hN] at hvf hn
  have HN : Hid (L.length = N) := hN
  subst hvf
  clear hN
  go_enter Tryd.func17, Tryd.ntmps17
  go_wp2
  go_loopw [5, 6] (fun t5 t6 wr => ∃ (n sd : Nat), t5 = .int .i64 (sd : Int) ∧ t6 = .int .i64 (n : Int) ∧ n ≤ N ∧ Hid (sd = prefR (L.take n) (tl q)) ∧ Hid (Below w.heap.size w wr)) (fun _ t6 wr => N - iOf t6)
  case atStart => exact ⟨0, 0, rfl, rfl, Nat.zero_le _, by simp only [List.take_zero]; rfl, Below.refl _ _⟩
  case round =>
    obtain ⟨n, sd, rfl, rfl, hnN, HD, HB⟩ := hrel
    by_cases hlt : n < N
    · have i1 : (n : Int) < (N : Int) := by omega
      obtain ⟨r, hr⟩ : ∃ r, L[n]? = some r := ⟨_, List.getElem?_eq_getElem (by rw [HN.out]; exact hlt)⟩
      obtain ⟨g, rfl, hc⟩ : ∃ g, ao = some ⟨g, 0, none⟩ ∧ ∀ i r, L[i]? = some r → wr.cell? ⟨g, i * 2, none⟩ = some (.int .i64 (r.1 : Int)) ∧ wr.cell? ⟨g, i * 2 + 1, none⟩ = some (.string (ofB r.2)) := by
        rcases HV.out.up HB.out with ⟨_, h⟩ | ⟨_, g, c2, hv, _, h⟩
        · subst h; simp at hr
        · cases hv; exact ⟨g, rfl, h⟩
      obtain ⟨y0, y1⟩ := hc n r hr
      clear hc
      have hm := List.mem_of_getElem? hr
      have hsn := prefR_snoc (L.take n) r (tl q) (HL.out r hm)
      rw [← take_snoc hr, ← HD.out] at hsn
      have hk := HL.out r hm
      have hrl := HS.out.1 r hm
      obtain ⟨k, p⟩ := r
      simp only at hsn hk y0 y1 hrl
      have C28 := fun W => refMatch_any (ofB p) q W (by rw [ofB_size]; omega) hq
      rw [tl_ofB] at C28
      obtain ⟨M, hM⟩ : ∃ M, matchV p (tl q) = M := ⟨_, rfl⟩
      rw [hM] at C28 hsn
      obtain ⟨mb, me⟩ := M
      simp only at C28 hsn
      clear hr hm hM HD
      by_cases h1 : k = 1
      · subst h1
        rw [if_pos rfl] at hsn
        have HD2 : Hid (sd = prefR (L.take (n + 1)) (tl q)) := hsn.symm
        clear hsn C28 hk hrl
        go_wp2
        go_roundw
        case rel => exact ⟨n + 1, sd, rfl, by go_num, by omega, HD2, HB⟩
        case measure => simp; omega
      · rw [if_neg h1] at hsn
        have b1 : ((k : Int) == 1) = false := by simp; omega
        have k2 : 2 ≤ k ∧ k ≤ 3 := by omega
        cases mb with
        | true =>
          rw [if_pos rfl] at hsn
          have HD2 : Hid (k - 1 = prefR (L.take (n + 1)) (tl q)) := hsn.symm
          clear hsn hk hrl h1
          have hkk : (k : Int) - 1 = ((k - 1 : Nat) : Int) := by omega
          go_wp2_with (go_at_call 28; refine (C28 _).mono ?_; rintro e w2 ⟨rfl, hg2⟩; have z0 := ((hg2.cell (p := ⟨g, n * 2, none⟩) (World.block_lt_of_cell? _ _ y0)).trans y0))
          have HB2 : Hid (Below w.heap.size w w2) := Below.up HB.out hg2
          go_roundw
          case rel => exact ⟨n + 1, k - 1, by rw [← hkk], by go_num, by omega, HD2, HB2⟩
          case measure => simp; omega
        | false =>
          rw [if_neg (by simp)] at hsn
          have HD2 : Hid (sd = prefR (L.take (n + 1)) (tl q)) := hsn.symm
          clear hsn hk hrl h1
          go_wp2_with (go_at_call 28; refine (C28 _).mono ?_; rintro e w2 ⟨rfl, hg2⟩)
          have HB2 : Hid (Below w.heap.size w w2) := Below.up HB.out hg2
          go_roundw
          case rel => exact ⟨n + 1, sd, rfl, by go_num, by omega, HD2, HB2⟩
          case measure => simp; omega
    · have hn2 : n = N := by omega
      subst hn2
      have hD := HD.out
      rw [List.take_of_length_le (by rw [HN.out]; exact Nat.le_refl _)] at hD
      subst hD
      clear HD
      go_wp2
      go_ret
      exact ⟨rfl, HB.out⟩
end Go.Proofs.YtpngnhpnjkepjaaDoor
namespace Go.Proofs.YtpngnhpnjkepjaaDoor
open Go.RowKit

set_option maxHeartbeats 2000000 in
set_option maxRecDepth 100000 in
theorem tmir_any (v : Value) (L : List Ru) (w : World) (hv : HasR w v L) (hL : ∀ r ∈ L, r.1 = 1 ∨ r.1 = 2 ∨ r.1 = 3) (hn : L.length ≤ 64) :
    Calls Tryd.prog 18 #[v] w fun e w' => ∃ v', e = .returned v' ∧ HasR w' v' (mirR L) ∧ Below w.heap.size w w' := by
  obtain ⟨i0, hi, hz0, hz1, hz2⟩ := info_parts Tryd.info54
  have HV : Hid (HasR w v L) := hv
  have HL : Hid (∀ r ∈ L, r.1 = 1 ∨ r.1 = 2 ∨ r.1 = 3) := hL
  obtain ⟨ao, cap, hvf⟩ := hv.form
  clear hv hL
  obtain ⟨N, hN⟩ : ∃ N, L.length = N := ⟨_, rfl⟩
  rw [hN] at hvf hn
  have HN : Hid (L.length = N) := hN
  subst hvf
  clear hN
  go_enter Tryd.func18, Tryd.ntmps18
  go_wp2
  go_loopw [3, 4] (fun t3 t4 wr => ∃ (n : Nat) (so : Option Addr) (sc : Nat), t3 = .slice so n sc ∧ t4 = .int .i64 (n : Int) ∧ n ≤ N ∧ Hid (OwnsR wr w.heap.size (.slice so n sc) (mirR (L.take n)) ∧ (n = 0 → Value.slice so n sc = .slice none 0 0)) ∧ Hid (Below w.heap.size w wr)) (fun _ t4 wr => N - iOf t4)
  case atStart => exact ⟨0, none, 0, rfl, rfl, Nat.zero_le _, ⟨World.ownsRow_nil _ _ _ _, fun _ => rfl⟩, Below.refl _ _⟩
  case round =>
    obtain ⟨n, so, sc, rfl, rfl, hnN, HO, HB⟩ := hrel
    by_cases hlt : n < N
    · have i1 : (n : Int) < (N : Int) := by omega
      obtain ⟨r, hr⟩ : ∃ r, L[n]? = some r := ⟨_, List.getElem?_eq_getElem (by rw [HN.out]; exact hlt)⟩
      obtain ⟨g, rfl, hc⟩ : ∃ g, ao = some ⟨g, 0, none⟩ ∧ ∀ i r, L[i]? = some r → wr.cell? ⟨g, i * 2, none⟩ = some (.int .i64 (r.1 : Int)) ∧ wr.cell? ⟨g, i * 2 + 1, none⟩ = some (.string (ofB r.2)) := by
        rcases HV.out.up HB.out with ⟨_, h⟩ | ⟨_, g, c2, hv, _, h⟩
        · subst h; simp at hr
        · cases hv; exact ⟨g, rfl, h⟩
      obtain ⟨y0, y1⟩ := hc n r hr
      clear hc
      have hm := List.mem_of_getElem? hr
      have hk := HL.out r hm
      obtain ⟨k, p⟩ := r
      simp only at hk y0 y1
      have hlen : (mirR (L.take n)).length = n := by rw [mirR_len, List.length_take, HN.out]; omega
      have hown : wr.ownsRow w.heap.size 54 2 (.slice so n sc) n (rcs (mirR (L.take n))) := by have := HO.out.1; unfold OwnsR at this; rw [hlen] at this; exact this
      have HW : Hid (∀ (W w4 : World) v' , World.ownsRow w4 w.heap.size 54 2 v' (n + 1) (rcs (mirR (L.take n)) ++ [.int .i64 (mirK k : Int), .string (ofB p)]) → OwnsR w4 w.heap.size v' (mirR (L.take (n + 1)))) := fun W w4 v' h => by
        rw [take_snoc hr, mirR_snoc]
        unfold OwnsR
        rw [rcs_app, List.length_append, hlen]
        exact h
      have hown' : Hid (wr.ownsRow w.heap.size 54 2 (.slice so n sc) n (rcs (mirR (L.take n)))) := hown
      clear hr hm hlen HO hown
      rcases hk with rfl | rfl | rfl
      · have HW2 := fun w4 v' => HW.out wr w4 v'
        rw [show ((mirK 1 : Nat) : Int) = 1 from rfl] at HW2
        have HW3 : Hid (∀ (w4 : World) v', World.ownsRow w4 w.heap.size 54 2 v' (n + 1) (rcs (mirR (L.take n)) ++ [.int .i64 1, .string (ofB p)]) → OwnsR w4 w.heap.size v' (mirR (L.take (n + 1)))) := HW2
        clear HW HW2
        go_wp2_with (at_builtin; refine wpList_append_own _ rfl _ _ 28 rfl w.heap.size 54 i0 (.agg #[.int .i64 0, .string ⟨#[]⟩]) 2 24 Tryd.underlying28 hi hz0 hz1 hz2 rfl (by decide) _ _ _ rfl (World.ownsRow.alloc (World.ownsRow.alloc hown'.out _) _) ⟨wr.heap.size + 1, 0, none⟩ 1 1 [.int .i64 1, .string (ofB p)] rfl rfl ?c1 ?c2 ?c3 ?c4 ?c5 ?_)
        case c1 => have := two_new_at (w := wr.alloc (.cells #[.int .i64 1, .string (ofB p)] 54)) (a := .int .i64 1) (b := .string (ofB p)) (T := 54); simpa only [World.size_alloc] using this
        case c2 => exact one2 rfl rfl
        case c3 => unfold maxLen; omega
        case c4 => omega
        case c5 => have := HB.out.size; simp; omega
        intro v' w4 hown4 hgrow _
        have R2 : Below w.heap.size w w4 := by
          have h1 := HB.out
          have h2 := h1.size
          exact ((h1.alloc h2 _).alloc (by simp; omega) _).grown hgrow (by simp; omega) fun k hk => (World.ownsRow.lt hown'.out k hk).1
        have R1 := HW3.out w4 v' hown4
        obtain ⟨vo, vc, rfl⟩ := owns_form hown4
        have HO2 : Hid (OwnsR w4 w.heap.size (.slice vo (n + 1) vc) (mirR (L.take (n + 1))) ∧ (n + 1 = 0 → Value.slice vo (n + 1) vc = .slice none 0 0)) := ⟨R1, fun h => by omega⟩
        have HB2 : Hid (Below w.heap.size w w4) := R2
        clear hown4 hgrow R1 R2 HW3 hown'
        go_wp2
        go_roundw
        case rel => exact ⟨n + 1, vo, vc, rfl, by go_num, by omega, HO2, HB2⟩
        case measure => simp; omega
      · have HW2 := fun w4 v' => HW.out wr w4 v'
        rw [show ((mirK 2 : Nat) : Int) = 3 from rfl] at HW2
        have HW3 : Hid (∀ (w4 : World) v', World.ownsRow w4 w.heap.size 54 2 v' (n + 1) (rcs (mirR (L.take n)) ++ [.int .i64 3, .string (ofB p)]) → OwnsR w4 w.heap.size v' (mirR (L.take (n + 1)))) := HW2
        clear HW HW2
        go_wp2_with (at_builtin; refine wpList_append_own _ rfl _ _ 28 rfl w.heap.size 54 i0 (.agg #[.int .i64 0, .string ⟨#[]⟩]) 2 24 Tryd.underlying28 hi hz0 hz1 hz2 rfl (by decide) _ _ _ rfl (World.ownsRow.alloc (World.ownsRow.alloc hown'.out _) _) ⟨wr.heap.size + 1, 0, none⟩ 1 1 [.int .i64 3, .string (ofB p)] rfl rfl ?c1 ?c2 ?c3 ?c4 ?c5 ?_)
        case c1 => have := two_new_at (w := wr.alloc (.cells #[.int .i64 3, .string (ofB p)] 54)) (a := .int .i64 3) (b := .string (ofB p)) (T := 54); simpa only [World.size_alloc] using this
        case c2 => exact one2 rfl rfl
        case c3 => unfold maxLen; omega
        case c4 => omega
        case c5 => have := HB.out.size; simp; omega
        intro v' w4 hown4 hgrow _
        have R2 : Below w.heap.size w w4 := by
          have h1 := HB.out
          have h2 := h1.size
          exact ((h1.alloc h2 _).alloc (by simp; omega) _).grown hgrow (by simp; omega) fun k hk => (World.ownsRow.lt hown'.out k hk).1
        have R1 := HW3.out w4 v' hown4
        obtain ⟨vo, vc, rfl⟩ := owns_form hown4
        have HO2 : Hid (OwnsR w4 w.heap.size (.slice vo (n + 1) vc) (mirR (L.take (n + 1))) ∧ (n + 1 = 0 → Value.slice vo (n + 1) vc = .slice none 0 0)) := ⟨R1, fun h => by omega⟩
        have HB2 : Hid (Below w.heap.size w w4) := R2
        clear hown4 hgrow R1 R2 HW3 hown'
        go_wp2
        go_roundw
        case rel => exact ⟨n + 1, vo, vc, rfl, by go_num, by omega, HO2, HB2⟩
        case measure => simp; omega
      · have HW2 := fun w4 v' => HW.out wr w4 v'
        rw [show ((mirK 3 : Nat) : Int) = 2 from rfl] at HW2
        have HW3 : Hid (∀ (w4 : World) v', World.ownsRow w4 w.heap.size 54 2 v' (n + 1) (rcs (mirR (L.take n)) ++ [.int .i64 2, .string (ofB p)]) → OwnsR w4 w.heap.size v' (mirR (L.take (n + 1)))) := HW2
        clear HW HW2
        go_wp2_with (at_builtin; refine wpList_append_own _ rfl _ _ 28 rfl w.heap.size 54 i0 (.agg #[.int .i64 0, .string ⟨#[]⟩]) 2 24 Tryd.underlying28 hi hz0 hz1 hz2 rfl (by decide) _ _ _ rfl (World.ownsRow.alloc (World.ownsRow.alloc hown'.out _) _) ⟨wr.heap.size + 1, 0, none⟩ 1 1 [.int .i64 2, .string (ofB p)] rfl rfl ?c1 ?c2 ?c3 ?c4 ?c5 ?_)
        case c1 => have := two_new_at (w := wr.alloc (.cells #[.int .i64 2, .string (ofB p)] 54)) (a := .int .i64 2) (b := .string (ofB p)) (T := 54); simpa only [World.size_alloc] using this
        case c2 => exact one2 rfl rfl
        case c3 => unfold maxLen; omega
        case c4 => omega
        case c5 => have := HB.out.size; simp; omega
        intro v' w4 hown4 hgrow _
        have R2 : Below w.heap.size w w4 := by
          have h1 := HB.out
          have h2 := h1.size
          exact ((h1.alloc h2 _).alloc (by simp; omega) _).grown hgrow (by simp; omega) fun k hk => (World.ownsRow.lt hown'.out k hk).1
        have R1 := HW3.out w4 v' hown4
        obtain ⟨vo, vc, rfl⟩ := owns_form hown4
        have HO2 : Hid (OwnsR w4 w.heap.size (.slice vo (n + 1) vc) (mirR (L.take (n + 1))) ∧ (n + 1 = 0 → Value.slice vo (n + 1) vc = .slice none 0 0)) := ⟨R1, fun h => by omega⟩
        have HB2 : Hid (Below w.heap.size w w4) := R2
        clear hown4 hgrow R1 R2 HW3 hown'
        go_wp2
        go_roundw
        case rel => exact ⟨n + 1, vo, vc, rfl, by go_num, by omega, HO2, HB2⟩
        case measure => simp; omega
    · have hn2 : n = N := by omega
      subst hn2
      have hR : HasR wr (.slice so n sc) (mirR L) := by
        have e : L.take n = L := List.take_of_length_le (by rw [HN.out]; exact Nat.le_refl _)
        have h := HO.out
        rw [e] at h
        refine h.1.has fun q => h.2 ?_
        have := congrArg List.length q
        rw [mirR_len, HN.out] at this
        exact this
      have HR : Hid (HasR wr (.slice so n sc) (mirR L)) := hR
      clear hR HO
      go_wp2
      go_ret
      exact ⟨_, rfl, HR.out, HB.out⟩
end Go.Proofs.YtpngnhpnjkepjaaDoor
