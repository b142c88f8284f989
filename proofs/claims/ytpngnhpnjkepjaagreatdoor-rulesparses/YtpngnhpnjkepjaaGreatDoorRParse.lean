/-
  Parse by contract.
-/
import Derived.Test.YtpngnhpnjkepjaaGreatDoorROfW
namespace Go.Proofs.YtpngnhpnjkepjaaGreatDoor
open Go.RowKit

theorem two_new_at {w : World} {a b : Value} {T : TypeId} : ∀ (j : Nat) (u : Value), [a, b][j]? = some u → (w.alloc (Obj.cells #[a, b] T)).cell? ((⟨w.heap.size, 0, none⟩ : Addr).add j) = some u := by
  intro j u hj
  match j, hj with
  | 0, hj => simp at hj; subst hj; simp [Addr.add]
  | 1, hj => simp at hj; subst hj; simp [Addr.add]
theorem one2 {a b : Value} (ha : a.oneCell' = true) (hb : b.oneCell' = true) : ∀ u ∈ [a, b], u.oneCell' = true := by
  intro u hu
  simp at hu
  rcases hu with rfl | rfl <;> assumption
/-- so far -/
structure PaS (w1 wr : World) (v : Value) (acc : List Ru) (xs : List By) (n : Nat) (P : Option (List Ru) × Nat × Int) : Prop where
  own : OwnsR wr w1.heap.size v acc
  nil : acc = [] → v = .slice none 0 0
  be : Below w1.heap.size w1 wr
  left : parseL (xs.drop n) n acc = P
  good : ∀ r ∈ acc, r.1 = 1 ∨ r.1 = 2 ∨ r.1 = 3
  few : acc.length ≤ 64
/-- what Parse answers -/
def ParseRes (w : World) (l : By) (e : Ending) (w' : World) : Prop :=
  match parseR l with
  | (none, k, er) => e = .returned (.tuple #[.pointer none, .int .i64 (k : Int), .int .i64 er]) ∧ Below w.heap.size w w'
  | (some L, _, _) => ∃ p, e = .returned (.tuple #[.pointer (some ⟨p, 0, none⟩), .int .i64 0, .int .i64 0]) ∧ IsNew w.heap.size w' p L ∧ Below w.heap.size w w'
set_option maxHeartbeats 4000000 in
set_option maxRecDepth 100000 in
theorem parse_any (s : ByteArray) (w : World) (hs : s.size ≤ 9223372036854775807) : Calls Tryz.prog 7 #[.string s] w (ParseRes w (tl s)) := by
  have hlen := tl_len s
  by_cases h4 : 4000 < s.size
  · have e : parseR (tl s) = (none, 0, 110) := by unfold parseR; rw [if_pos (by omega)]
    have i1 : (4000 : Int) < (s.size : Int) := by omega
    unfold ParseRes
    rw [e]
    go_enter Tryz.func7, Tryz.ntmps7
    go_wp2
    go_ret3
    exact ⟨rfl, Below.refl _ _⟩
  · obtain ⟨i0, hi, hz0, hz1, hz2⟩ := info_parts Tryz.info57
    obtain ⟨P, hP⟩ : ∃ P, parseR (tl s) = P := ⟨_, rfl⟩
    have HP : Hid (parseL (linesR (tl s)) 0 [] = P) := by rw [← hP]; unfold parseR; rw [if_neg (by omega)]; rfl
    unfold ParseRes
    rw [hP]
    clear hP
    have i1 : (s.size : Int) ≤ 4000 := by omega
    have C29 := split10_any s w (by omega)
    go_enter Tryz.func7, Tryz.ntmps7
    go_wp2_with (go_at_call 20; refine C29.mono ?_; rintro e w1 ⟨v, X, rfl, hX, hXl, hb1⟩; have HX : Hid (HasT w1 v X ∧ X.map tl = linesR (tl s) ∧ Below w.heap.size w w1) := ⟨hX, hXl, hb1⟩; obtain ⟨ao, cap, rfl, _⟩ := hX.form; clear hX hXl hb1)
    obtain ⟨N, hN⟩ : ∃ N, X.length = N := ⟨_, rfl⟩
    have HN : Hid (X.length = N) := hN
    rw [hN]
    have HXX : Hid (HasT w1 (.slice ao N cap) X ∧ X.map tl = linesR (tl s) ∧ Below w.heap.size w w1) := by rw [← hN]; exact HX
    have HSZ : Hid (N ≤ 4001) := by
      show N ≤ 4001
      have h1 := congrArg List.length HX.out.2.1
      rw [List.length_map, hN] at h1
      have h2 := linesR_wt (tl s)
      have h3 : (linesR (tl s)).length ≤ wt (linesR (tl s)) := by
        generalize linesR (tl s) = q
        induction q with
        | nil => simp
        | cons x q ih => simp [wt] at ih ⊢; omega
      omega
    clear HX hN
    go_loopw [5, 16] (fun t5 k wr => ∃ (n : Nat) (acc : List Ru) (so : Option Addr) (sc : Nat), t5 = .slice so acc.length sc ∧ k = .int .i64 (n : Int) ∧ n ≤ N ∧ Hid (PaS w1 wr t5 acc (X.map tl) n P)) (fun t5 k wr => N - iOf k)
    case atStart =>
      refine ⟨0, [], none, 0, rfl, rfl, Nat.zero_le _, World.ownsRow_nil _ _ _ _, fun _ => rfl, Below.refl _ _, ?_, by simp, by simp⟩
      rw [List.drop_zero, HXX.out.2.1]; exact HP.out
    case round =>
      obtain ⟨n, acc, so, sc, rfl, rfl, hnN, HS⟩ := hrel
      have hSZ : N ≤ 4001 := HSZ.out
      by_cases hlt : n < N
      · have i1 : (n : Int) < (N : Int) := by omega
        obtain ⟨x, hx⟩ : ∃ x, X[n]? = some x := ⟨_, List.getElem?_eq_getElem (by rw [HN.out]; exact hlt)⟩
        have hvw := HXX.out.1.below (HS.out.be)
        obtain ⟨a, cp, e, hcx⟩ := hvw.at hx
        cases e
        have hdr : (X.map tl).drop n = tl x :: (X.map tl).drop (n + 1) := by
          have hl : n < (X.map tl).length := by rw [List.length_map, HN.out]; exact hlt
          rw [List.drop_eq_getElem_cons hl]
          congr 1
          rw [List.getElem_map]
          congr 1
          exact Option.some.inj ((List.getElem?_eq_getElem (by rw [HN.out]; exact hlt)).symm.trans hx)
        have hxs : x.size ≤ 4000 := by
          have h1 : tl x ∈ linesR (tl s) := by rw [← HXX.out.2.1]; exact List.mem_map.2 ⟨x, List.mem_of_getElem? hx, rfl⟩
          have h2 := linesR_wt (tl s)
          have h3 : (tl x).length + 1 ≤ wt (linesR (tl s)) := by
            generalize linesR (tl s) = q at h1
            induction q with
            | nil => cases h1
            | cons y q ih =>
              rcases List.mem_cons.1 h1 with rfl | h1
              · simp [wt]
              · have := ih h1; simp [wt] at this ⊢; omega
          rw [tl_len] at h3; omega
        have hlf := HS.out.left
        rw [hdr] at hlf
        unfold parseL at hlf
        have HS0 := HS
        clear hvw hdr hx
        by_cases c1 : tl x = []
        · rw [if_pos (.inl c1)] at hlf
          have b1 : x.toList.isEmpty = true := by rw [show x.toList = tl x from rfl, c1]; rfl
          have HS2 : Hid (PaS w1 wr (.slice so acc.length sc) acc (X.map tl) (n + 1) P) := ⟨HS0.out.own, HS0.out.nil, HS0.out.be, hlf, HS0.out.good, HS0.out.few⟩
          clear hlf c1 HS HS0
          go_wp2
          go_roundw
          case rel => exact ⟨n + 1, acc, so, sc, rfl, by go_num, by omega, HS2⟩
          case measure => simp; omega
        · have hx1 : 0 < x.size := by
            rw [← tl_len]
            exact List.length_pos_iff.2 c1
          have b1 : x.toList.isEmpty = false := by
            cases h : x.toList with
            | nil => exact absurd h c1
            | cons _ _ => rfl
          have hhd : (tl x).head? = some (x[0]'hx1) := by
            have := tl_at x 0 hx1
            rw [← List.head?_eq_getElem?] at this
            exact this
          by_cases c2 : x[0]'hx1 = 35
          · rw [if_pos (.inr (by rw [hhd, c2]))] at hlf
            have b2 : (((x[0]'hx1).toNat : Int) == 35) = true := by rw [c2]; rfl
            have HS2 : Hid (PaS w1 wr (.slice so acc.length sc) acc (X.map tl) (n + 1) P) := ⟨HS0.out.own, HS0.out.nil, HS0.out.be, hlf, HS0.out.good, HS0.out.few⟩
            clear hlf c1 HS HS0 c2 hhd
            go_wp2
            go_roundw
            case rel => exact ⟨n + 1, acc, so, sc, rfl, by go_num, by omega, HS2⟩
            case measure => simp; omega
          · have b2 : (((x[0]'hx1).toNat : Int) == 35) = false := by
              simp
              intro q; exact c2 (UInt8.toNat_inj.1 (by show (x[0]'hx1).toNat = 35; omega))
            rw [if_neg (by rintro (q | q); exact c1 q; rw [hhd] at q; exact c2 (Option.some.inj q))] at hlf
            have hfew := HS0.out.few
            have C30 := fun W => read_any x acc.length W hxs (by omega)
            obtain ⟨R, hR⟩ : ∃ R, readR (tl x) acc.length = R := ⟨_, rfl⟩
            rw [hR] at hlf C30
            obtain ⟨r, er⟩ := R
            simp only at hlf C30
            by_cases c3 : er = 0
            · subst c3
              rw [if_neg (by simp)] at hlf
              have h0 := readR_ok (l := tl x) (n := acc.length) (by rw [hR])
              rw [hR] at h0
              obtain ⟨g1, g2, _⟩ := h0
              have hgr := (cutR_some g1).2
              have hgd : ∀ y ∈ acc ++ [r], y.1 = 1 ∨ y.1 = 2 ∨ y.1 = 3 := fun y hy => by
                rcases List.mem_append.1 hy with hy | hy
                · exact HS0.out.good y hy
                · simp at hy; subst hy; exact hgr
              have HS2 : Hid (∀ v' W, OwnsR W w1.heap.size v' (acc ++ [r]) → Below w1.heap.size w1 W → PaS w1 W v' (acc ++ [r]) (X.map tl) (n + 1) P) := fun v' W h1 h2 => ⟨h1, fun q => by simp at q, h2, hlf, hgd, by simp; omega⟩
              clear hlf c1 c2 hhd HS hR g1 hgr hgd
              have hbe := HS0.out.be
              have hown := HS0.out.own
              clear HS0
              have HO : Hid (OwnsR wr w1.heap.size (.slice so acc.length sc) acc) := hown
              clear hown
              obtain ⟨k, p⟩ := r
              go_wp2_with (first
                | (go_at_call 21; refine (C30 _).mono ?_; rintro e w2 ⟨rfl, hg2⟩; unfold rv)
                | (at_builtin; refine wpList_append_own _ rfl _ _ 22 rfl w1.heap.size 57 i0 (.agg #[.int .i64 0, .string ⟨#[]⟩]) 2 24 Tryz.underlying22 hi hz0 hz1 hz2 rfl (by decide) _ _ _ rfl (World.ownsRow.alloc (World.ownsRow.alloc (owns_same (w' := w2) HO.out fun k _ hk => hg2.block k hk) _) _) ⟨w2.heap.size + 1, 0, none⟩ 1 1 [.int .i64 (k : Int), .string (ofB p)] rfl rfl ?c1 ?c2 ?c3 ?c4 ?c5 ?_))
              case c1 => have := two_new_at (w := w2.alloc (.cells #[.int .i64 (k : Int), .string (ofB p)] 57)) (a := .int .i64 (k : Int)) (b := .string (ofB p)) (T := 57); simpa only [World.size_alloc] using this
              case c2 => exact one2 rfl rfl
              case c3 => unfold maxLen; omega
              case c4 => omega
              case c5 => have := hbe.size; have := hg2.size; simp; omega
              intro v' w3 hown' hgrow _
              have R1 : OwnsR w3 w1.heap.size v' (acc ++ [(k, p)]) := by
                unfold OwnsR
                rw [rcs_app, List.length_append]
                exact hown'
              have R2 : Below w1.heap.size w1 w3 := by
                have h1 : Below w1.heap.size w1 w2 := hbe.trans (hg2.mono hbe.size)
                have h2 := h1.size
                exact ((h1.alloc h2 _).alloc (by simp; omega) _).grown hgrow (by simp; omega) fun k hk => (World.ownsRow.lt HO.out k hk).1
              obtain ⟨vo, vc, rfl⟩ := owns_form hown'
              have HS3 := HS2.out _ w3 R1 R2
              have HS4 : Hid (PaS w1 w3 (.slice vo (acc.length + 1) vc) (acc ++ [(k, p)]) (X.map tl) (n + 1) P) := HS3
              clear hown' hgrow R1 R2 HS3 HO
              go_wp2
              go_roundw
              case rel => exact ⟨n + 1, acc ++ [(k, p)], vo, vc, by simp, by go_num, by omega, HS4⟩
              case measure => simp; omega
            · rw [if_pos c3] at hlf
              have hP : P = (none, n + 1, er) := hlf.symm
              subst hP
              have HB : Hid (Below w.heap.size w wr) := HXX.out.2.2.trans (HS0.out.be.mono HXX.out.2.2.size)
              have b3 : (er == 0) = false := by simpa using c3
              clear hlf c1 c2 hhd HS HS0 hR HP
              go_wp2_with (go_at_call 21; refine (C30 _).mono ?_; rintro e w2 ⟨rfl, hg2⟩; unfold rv)
              go_ret3
              refine ⟨by simp, ?_⟩
              exact (Below.up HB.out hg2).alloc (by have := (Below.up HB.out hg2).size; omega) _
      · have hnN2 : n = N := by omega
        subst hnN2
        have hlf := HS.out.left
        rw [List.drop_of_length_le (by rw [List.length_map, HN.out]; exact Nat.le_refl _)] at hlf
        unfold parseL at hlf
        subst hlf
        have C31 := fun W h => of_any (.slice so acc.length sc) acc W h HS.out.good (by have := HS.out.few; omega)
        have HR : Hid (HasR wr (.slice so acc.length sc) acc ∧ Below w.heap.size w wr ∧ ∀ b, (Value.slice so acc.length sc).ownBlock = some b → w.heap.size ≤ b) := ⟨HS.out.own.has HS.out.nil, HXX.out.2.2.trans (HS.out.be.mono HXX.out.2.2.size), fun b hb => Nat.le_trans HXX.out.2.2.size (World.ownsRow.lt HS.out.own b hb).1⟩
        clear HS HP
        go_wp2_with (go_at_call 14; refine (C31 _ HR.out.1).mono ?_; rintro e w2 ⟨p, rfl, hp, hg2⟩)
        go_ret3
        obtain ⟨_, ⟨sv, pv, hb⟩, hge⟩ := hp
        exact ⟨p, rfl, ⟨_, sv, pv, hb, HR.out.1.up hg2, Nat.le_trans HR.out.2.1.size hge, HR.out.2.2⟩, Below.up HR.out.2.1 hg2⟩
end Go.Proofs.YtpngnhpnjkepjaaGreatDoor
