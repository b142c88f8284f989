/-
  The reference's Parse by contract.
-/
import Derived.Test.YtpngnhpnjkepjaaGreatDoorTRul
import Derived.Test.YtpngnhpnjkepjaaGreatDoorRefMatch
import Derived.Deep.Cut
namespace Go.Proofs.YtpngnhpnjkepjaaGreatDoor
open Go.RowKit

/-- what the reference's Parse answers -/
def TParseRes (w : World) (l : By) (e : Ending) (w' : World) : Prop :=
  match parseR l with
  | (none, k, er) => e = .returned (.tuple #[.slice none 0 0, .int .i64 (k : Int), .int .i64 er]) ∧ Below w.heap.size w w'
  | (some L, _, _) => ∃ v, e = .returned (.tuple #[v, .int .i64 0, .int .i64 0]) ∧ (HasR w' v L ∧ ∀ b, v.ownBlock = some b → w.heap.size ≤ b) ∧ Below w.heap.size w w'
set_option maxHeartbeats 4000000 in
set_option maxRecDepth 100000 in
theorem tparse_any (s : ByteArray) (w : World) (hs : s.size ≤ 9223372036854775807) : Calls Tryz.prog 4 #[.string s] w (TParseRes w (tl s)) := by
  have hlen := tl_len s
  by_cases h4 : 4000 < s.size
  · have e : parseR (tl s) = (none, 0, 110) := by unfold parseR; rw [if_pos (by omega)]
    have i1 : (4000 : Int) < (s.size : Int) := by omega
    unfold TParseRes
    rw [e]
    go_enter Tryz.func4, Tryz.ntmps4
    go_wp2
    go_ret3
    exact ⟨rfl, Below.refl _ _⟩
  · obtain ⟨i0, hi, hz0, hz1, hz2⟩ := info_parts Tryz.info57
    obtain ⟨P, hP⟩ : ∃ P, parseR (tl s) = P := ⟨_, rfl⟩
    have HP : Hid (parseL (linesR (tl s)) 0 [] = P) := by rw [← hP]; unfold parseR; rw [if_neg (by omega)]; rfl
    unfold TParseRes
    rw [hP]
    clear hP
    have i1 : (s.size : Int) ≤ 4000 := by omega
    have C26 := tlines_any s w (by omega)
    go_enter Tryz.func4, Tryz.ntmps4
    go_wp2_with (go_at_call 11; refine C26.mono ?_; rintro e w1 ⟨v, X, rfl, hX, hXl, hb1⟩; have HX : Hid (HasT w1 v X ∧ X.map tl = linesR (tl s) ∧ Below w.heap.size w w1) := ⟨hX, hXl, hb1⟩; obtain ⟨ao, cap, rfl, _⟩ := hX.form; clear hX hXl hb1)
    obtain ⟨N, hN⟩ : ∃ N, X.length = N := ⟨_, rfl⟩
    have HN : Hid (X.length = N) := hN
    rw [hN]
    have HXX : Hid (HasT w1 (.slice ao N cap) X ∧ X.map tl = linesR (tl s) ∧ Below w.heap.size w w1) := by rw [← hN]; exact HX
    have HSZ : Hid (N ≤ 4001) := by
      show N ≤ 4001
      have h1 := congrArg List.length HX.out.2.1
      rw [List.length_map, hN] at h1
      have h2 := linesR_wt (tl s)
      have h3 : (linesR (tl s)).length ≤ wt (linesR (tl s)) := by
        generalize linesR (tl s) = q
        induction q with
        | nil => simp
        | cons x q ih => simp [wt] at ih ⊢; omega
      omega
    clear HX hN
    go_loopw [6, 7] (fun t6 k wr => ∃ (n : Nat) (acc : List Ru) (so : Option Addr) (sc : Nat), t6 = .slice so acc.length sc ∧ k = .int .i64 (n : Int) ∧ n ≤ N ∧ Hid (PaS w1 wr t6 acc (X.map tl) n P)) (fun t6 k wr => N - iOf k)
    case atStart =>
      refine ⟨0, [], none, 0, rfl, rfl, Nat.zero_le _, World.ownsRow_nil _ _ _ _, fun _ => rfl, Below.refl _ _, ?_, by simp, by simp⟩
      rw [List.drop_zero, HXX.out.2.1]; exact HP.out
    case round =>
      obtain ⟨n, acc, so, sc, rfl, rfl, hnN, HS⟩ := hrel
      have hSZ : N ≤ 4001 := HSZ.out
      by_cases hlt : n < N
      · have i1 : (n : Int) < (N : Int) := by omega
        obtain ⟨x, hx⟩ : ∃ x, X[n]? = some x := ⟨_, List.getElem?_eq_getElem (by rw [HN.out]; exact hlt)⟩
        have hvw := HXX.out.1.below (HS.out.be)
        obtain ⟨a, cp, e, hcx⟩ := hvw.at hx
        cases e
        have hdr : (X.map tl).drop n = tl x :: (X.map tl).drop (n + 1) := by
          have hl : n < (X.map tl).length := by rw [List.length_map, HN.out]; exact hlt
          rw [List.drop_eq_getElem_cons hl]
          congr 1
          rw [List.getElem_map]
          congr 1
          exact Option.some.inj ((List.getElem?_eq_getElem (by rw [HN.out]; exact hlt)).symm.trans hx)
        have hxs : x.size ≤ 4000 := by
          have h1 : tl x ∈ linesR (tl s) := by rw [← HXX.out.2.1]; exact List.mem_map.2 ⟨x, List.mem_of_getElem? hx, rfl⟩
          have h2 := linesR_wt (tl s)
          have h3 : (tl x).length + 1 ≤ wt (linesR (tl s)) := by
            generalize linesR (tl s) = q at h1
            induction q with
            | nil => cases h1
            | cons y q ih =>
              rcases List.mem_cons.1 h1 with rfl | h1
              · simp [wt]
              · have := ih h1; simp [wt] at this ⊢; omega
          rw [tl_len] at h3; omega
        have hlf := HS.out.left
        rw [hdr] at hlf
        unfold parseL at hlf
        have HS0 := HS
        clear hvw hdr hx
        by_cases c1 : tl x = []
        · rw [if_pos (.inl c1)] at hlf
          have b1 : x.toList.isEmpty = true := by rw [show x.toList = tl x from rfl, c1]; rfl
          have HS2 : Hid (PaS w1 wr (.slice so acc.length sc) acc (X.map tl) (n + 1) P) := ⟨HS0.out.own, HS0.out.nil, HS0.out.be, hlf, HS0.out.good, HS0.out.few⟩
          clear hlf c1 HS HS0
          go_wp2
          go_roundw
          case rel => exact ⟨n + 1, acc, so, sc, rfl, by go_num, by omega, HS2⟩
          case measure => simp; omega
        · have hx1 : 0 < x.size := by
            rw [← tl_len]
            exact List.length_pos_iff.2 c1
          have b1 : x.toList.isEmpty = false := by
            cases h : x.toList with
            | nil => exact absurd h c1
            | cons _ _ => rfl
          have hhd : (tl x).head? = some (x[0]'hx1) := by
            have := tl_at x 0 hx1
            rw [← List.head?_eq_getElem?] at this
            exact this
          by_cases c2 : x[0]'hx1 = 35
          · rw [if_pos (.inr (by rw [hhd, c2]))] at hlf
            have b2 : (((x[0]'hx1).toNat : Int) == 35) = true := by rw [c2]; rfl
            have HS2 : Hid (PaS w1 wr (.slice so acc.length sc) acc (X.map tl) (n + 1) P) := ⟨HS0.out.own, HS0.out.nil, HS0.out.be, hlf, HS0.out.good, HS0.out.few⟩
            clear hlf c1 HS HS0 c2 hhd
            go_wp2
            go_roundw
            case rel => exact ⟨n + 1, acc, so, sc, rfl, by go_num, by omega, HS2⟩
            case measure => simp; omega
          · have b2 : (((x[0]'hx1).toNat : Int) == 35) = false := by
              simp
              intro q; exact c2 (UInt8.toNat_inj.1 (by show (x[0]'hx1).toNat = 35; omega))
            rw [if_neg (by rintro (q | q); exact c1 q; rw [hhd] at q; exact c2 (Option.some.inj q))] at hlf
            have hfew := HS0.out.few
            have C27 := fun W => trule_any x W hxs
            have HB : Hid (Below w.heap.size w wr) := HXX.out.2.2.trans (HS0.out.be.mono HXX.out.2.2.size)
            cases hcut : cutR (tl x) with
            | none =>
              have hR : readR (tl x) acc.length = ((0, []), 112) := by unfold readR; rw [hcut]
              rw [hR, if_pos (by decide)] at hlf
              subst hlf
              rw [hcut] at C27
              clear c1 c2 hhd HS HS0 hR HP hcut
              go_wp2_with (go_at_call 12; refine (C27 _).mono ?_; rintro e w2 ⟨rfl, hg2⟩; unfold cutV rv)
              go_ret3
              refine ⟨by simp, ?_⟩
              exact (Below.up HB.out hg2).alloc (by have := (Below.up HB.out hg2).size; omega) _
            | some r =>
              rw [hcut] at C27
              obtain ⟨k, p⟩ := r
              have hpl : p.length ≤ 4000 := by have := cutR_size hcut; rw [tl_len] at this; exact Nat.le_trans this hxs
              by_cases h64 : acc.length = 64
              · have hR : readR (tl x) acc.length = ((0, []), 111) := by unfold readR; rw [hcut]; simp only; rw [if_pos (by omega)]
                rw [hR, if_pos (by decide)] at hlf
                subst hlf
                have b3 : ((acc.length : Int) == 64) = true := by rw [h64]; rfl
                clear c1 c2 hhd HS HS0 hR HP hcut
                go_wp2_with (go_at_call 12; refine (C27 _).mono ?_; rintro e w2 ⟨rfl, hg2⟩; unfold cutV rv)
                go_ret3
                refine ⟨by simp, ?_⟩
                exact (Below.up HB.out hg2).alloc (by have := (Below.up HB.out hg2).size; omega) _
              · have b3 : ((acc.length : Int) == 64) = false := by simp; omega
                have C28 := fun W => refMatch_any (ofB p) ⟨#[]⟩ W (by rw [ofB_size]; omega) (by decide)
                rw [tl_ofB, show tl ⟨#[]⟩ = [] from tl_ofB [], matchV_root] at C28
                by_cases hpat : patOK p = true
                · have hR : readR (tl x) acc.length = ((k, p), 0) := by unfold readR; rw [hcut]; simp only; rw [if_neg (by omega), if_pos hpat]
                  rw [hR, if_neg (by simp)] at hlf
                  rw [if_pos hpat] at C28
                  have hgr := (cutR_some hcut).2
                  have hgd : ∀ y ∈ acc ++ [(k, p)], y.1 = 1 ∨ y.1 = 2 ∨ y.1 = 3 := fun y hy => by
                    rcases List.mem_append.1 hy with hy | hy
                    · exact HS0.out.good y hy
                    · simp at hy; subst hy; exact hgr
                  have HS2 : Hid (∀ v' W, OwnsR W w1.heap.size v' (acc ++ [(k, p)]) → Below w1.heap.size w1 W → PaS w1 W v' (acc ++ [(k, p)]) (X.map tl) (n + 1) P) := fun v' W h1 h2 => ⟨h1, fun q => by simp at q, h2, hlf, hgd, by simp; omega⟩
                  clear hlf c1 c2 hhd HS hR hgr hgd hcut hpat HB h64
                  have hbe := HS0.out.be
                  have hown := HS0.out.own
                  clear HS0
                  have HO : Hid (OwnsR wr w1.heap.size (.slice so acc.length sc) acc) := hown
                  clear hown
                  go_wp2_with (first
                    | (go_at_call 12; refine (C27 _).mono ?_; rintro e w2 ⟨rfl, hg2⟩; unfold cutV rv)
                    | (go_at_call 13; refine (C28 _).mono ?_; rintro e w3 ⟨rfl, hg3⟩; obtain ⟨d0, d1, f0, f1⟩ := two_heap (two_new hg3); have HO3 := owns_same (w' := w3) (World.ownsRow.alloc (owns_same (w' := w2) HO.out fun k _ hk => hg2.block k hk) (.cells #[.int .i64 (k : Int), .string (ofB p)] 57)) (fun k _ hk => hg3.block k hk))
                    | (at_builtin; refine wpList_append_own _ rfl _ _ 22 rfl w1.heap.size 57 i0 (.agg #[.int .i64 0, .string ⟨#[]⟩]) 2 24 Tryz.underlying22 hi hz0 hz1 hz2 rfl (by decide) _ _ _ rfl (World.ownsRow.alloc HO3 _) ⟨w3.heap.size, 0, none⟩ 1 1 [.int .i64 (k : Int), .string (ofB p)] rfl rfl ?c1 ?c2 ?c3 ?c4 ?c5 ?_))
                  case c1 => exact two_new_at
                  case c2 => exact one2 rfl rfl
                  case c3 => unfold maxLen; omega
                  case c4 => omega
                  case c5 => have := hbe.size; have := hg2.size; have := hg3.size; simp at this; simp; omega
                  intro v' w4 hown' hgrow _
                  have R1 : OwnsR w4 w1.heap.size v' (acc ++ [(k, p)]) := by
                    unfold OwnsR
                    rw [rcs_app, List.length_append]
                    exact hown'
                  have R2 : Below w1.heap.size w1 w4 := by
                    have h1 : Below w1.heap.size w1 w2 := hbe.trans (hg2.mono hbe.size)
                    have h2 := h1.size
                    have h3 : Below w1.heap.size w1 w3 := (h1.alloc h2 _).trans (hg3.mono (by simp; omega))
                    have h4 := h3.size
                    exact (h3.alloc h4 _).grown hgrow (by simp; omega) fun k hk => (World.ownsRow.lt HO.out k hk).1
                  obtain ⟨vo, vc, rfl⟩ := owns_form hown'
                  have HS3 := HS2.out _ w4 R1 R2
                  have HS4 : Hid (PaS w1 w4 (.slice vo (acc.length + 1) vc) (acc ++ [(k, p)]) (X.map tl) (n + 1) P) := HS3
                  clear hown' hgrow R1 R2 HS3 HO HO3
                  go_wp2
                  go_roundw
                  case rel => exact ⟨n + 1, acc ++ [(k, p)], vo, vc, by simp, by go_num, by omega, HS4⟩
                  case measure => simp; omega
                · have hR : readR (tl x) acc.length = ((0, []), 113) := by unfold readR; rw [hcut]; simp only; rw [if_neg (by omega), if_neg hpat]
                  rw [hR, if_pos (by decide)] at hlf
                  subst hlf
                  rw [if_neg hpat] at C28
                  clear c1 c2 hhd HS HS0 hR HP hcut hpat
                  go_wp2_with (first
                    | (go_at_call 12; refine (C27 _).mono ?_; rintro e w2 ⟨rfl, hg2⟩; unfold cutV rv)
                    | (go_at_call 13; refine (C28 _).mono ?_; rintro e w3 ⟨rfl, hg3⟩))
                  go_ret3
                  refine ⟨by simp, ?_⟩
                  have hb2 := Below.up HB.out hg2
                  exact (hb2.alloc (by have := hb2.size; omega) _).trans (hg3.mono (by have := hb2.size; simp; omega))
      · have hnN2 : n = N := by omega
        subst hnN2
        have hlf := HS.out.left
        rw [List.drop_of_length_le (by rw [List.length_map, HN.out]; exact Nat.le_refl _)] at hlf
        unfold parseL at hlf
        subst hlf
        have HR : Hid ((HasR wr (.slice so acc.length sc) acc ∧ ∀ b, (Value.slice so acc.length sc).ownBlock = some b → w.heap.size ≤ b) ∧ Below w.heap.size w wr) := ⟨⟨HS.out.own.has HS.out.nil, fun b hb => Nat.le_trans HXX.out.2.2.size (World.ownsRow.lt HS.out.own b hb).1⟩, HXX.out.2.2.trans (HS.out.be.mono HXX.out.2.2.size)⟩
        clear HS HP
        go_wp2
        go_ret3
        exact ⟨_, rfl, HR.out.1, HR.out.2⟩
end Go.Proofs.YtpngnhpnjkepjaaGreatDoor
