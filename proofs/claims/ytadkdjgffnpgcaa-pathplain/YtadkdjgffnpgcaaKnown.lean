/-
  known: the chapter's examples.
-/
import Derived.Test.YtadkdjgffnpgcaaMatch
import Derived.Test.YtadkdjgffnpgcaaOrder
namespace Go.Proofs.Ytadkdjgffnpgcaa
open Go.RowKit

theorem all_take {α : Type} {a b : List α} (h : a.length = b.length) (ht : a.take a.length = b.take a.length) : a = b := by
  rw [List.take_length, h, List.take_length] at ht; exact ht

set_option maxHeartbeats 1000000 in
set_option maxRecDepth 100000 in
theorem same_any (va vb : Value) (A B : List ByteArray) (w : World) (ha : HasT w va A) (hb : HasT w vb B) (hal : A.length ≤ 1048577) (_hbl : B.length ≤ 1048577) :
    Calls Try.prog 24 #[va, vb] w fun e w' => e = .returned (.bool (decide (A.map tl = B.map tl))) ∧ Drew w w' := by
  have HA : Hid (HasT w va A) := ha
  have HB : Hid (HasT w vb B) := hb
  obtain ⟨ao, ca, rfl, _⟩ := ha.form
  obtain ⟨bo, cb, rfl, _⟩ := hb.form
  clear ha hb
  obtain ⟨q, hq⟩ : ∃ q, decide (A.map tl = B.map tl) = q := ⟨_, rfl⟩
  have HQ : Hid (decide (A.map tl = B.map tl) = q) := hq
  rw [hq]
  clear hq
  by_cases hl : A.length = B.length
  · have HL : Hid (A.length = B.length) := hl
    have hlb : ((A.length : Int) != (B.length : Int)) = false := by simp; omega
    clear hl
    go_enter Try.func24, Try.ntmps24
    go_wp2
    go_loopw [5] (fun i wr => ∃ k : Nat, Hid (Drew w wr) ∧ k ≤ A.length ∧ i = .int .i64 k ∧ Hid ((A.map tl).take k = (B.map tl).take k)) (fun i _ => A.length - iOf i)
    case atStart => exact ⟨0, Drew.refl _, Nat.zero_le _, rfl, by show _ = _; simp⟩
    case round =>
      obtain ⟨k, HW, hk, rfl, HT⟩ := hrel
      by_cases hlt : k < A.length
      · have hlt2 : k < B.length := by have := HL.out; omega
        have i1 : (k : Int) < (A.length : Int) := by omega
        have i2 : (k : Int) < (B.length : Int) := by omega
        obtain ⟨x, hx⟩ : ∃ x, A[k]? = some x := ⟨_, List.getElem?_eq_getElem hlt⟩
        obtain ⟨y, hy⟩ : ∃ y, B[k]? = some y := ⟨_, List.getElem?_eq_getElem hlt2⟩
        have fx : (A.map tl)[k]? = some (tl x) := by simp [hx]
        have fy : (B.map tl)[k]? = some (tl y) := by simp [hy]
        obtain ⟨a0, _, hva, hca⟩ := (HA.out.drew HW.out).at hx
        obtain ⟨b0, _, hvb, hcb⟩ := (HB.out.drew HW.out).at hy
        simp at hva hvb
        obtain ⟨rfl, rfl⟩ := hva
        obtain ⟨rfl, rfl⟩ := hvb
        by_cases hxy : x.toList = y.toList
        · have hq : (x.toList == y.toList) = true := by simpa using hxy
          have T2 : Hid ((A.map tl).take (k + 1) = (B.map tl).take (k + 1)) := take_more HT.out fx (by rw [show tl x = tl y from hxy]; exact fy)
          clear hxy fx fy hx hy
          go_wp2_with fail
          go_quiet (fail)
          go_wp2
          go_roundw
          case rel => exact ⟨k + 1, HW.out.more _, by omega, by go_num, T2⟩
          case measure => simp; omega
        · have hq : (x.toList == y.toList) = false := by simpa using hxy
          have HF : Hid (q = false) := by
            show _ = _
            rw [← HQ.out]
            refine decide_eq_false (fun e => hxy ?_)
            rw [e, fy] at fx
            exact (Option.some.inj fx).symm
          clear hxy fx fy hx hy
          go_wp2_with fail
          go_quiet (fail)
          go_wp2
          go_ret
          exact ⟨by rw [HF.out]; rfl, HW.out.more _⟩
      · have i1 : ¬ ((k : Int) < (A.length : Int)) := by omega
        have HF : Hid (q = true) := by
          show _ = _
          rw [← HQ.out]
          refine decide_eq_true (all_take (by simp only [List.length_map]; exact HL.out) ?_)
          have := HT.out
          rw [show k = A.length from by omega] at this
          rw [List.length_map]; exact this
        go_wp2
        go_ret
        exact ⟨by rw [HF.out]; rfl, HW.out⟩
  · have hlb : ((A.length : Int) != (B.length : Int)) = true := by simp; omega
    have HF : Hid (q = false) := by
      show _ = _
      rw [← HQ.out]
      exact decide_eq_false (fun e => hl (by have := congrArg List.length e; simpa using this))
    go_enter Try.func24, Try.ntmps24
    go_wp2
    go_ret
    exact ⟨by rw [HF.out]; rfl, Drew.refl _⟩

theorem tl_mk (l : List UInt8) : tl ⟨l.toArray⟩ = l := by simp [tl]
theorem k1 : splitE [97, 47, 98] 2 = 0 := by decide
theorem k2 : splitL [97, 47, 98] 2 = [[97], [98]] := by decide
theorem k3 : splitE [97, 47, 47, 98] 9 = 30 := by decide
theorem k4 : matchV [100, 47, 42, 42] [100, 47, 120, 47, 121] = (true, 0) := by decide
theorem k5 : matchV [47, 42, 46, 116, 109, 112] [100, 47, 120, 46, 116, 109, 112] = (false, 0) := by decide
theorem k6 : cmpL [97, 47, 98] [97, 46, 98] = -1 := by decide
theorem k7 : underB [97, 47, 98] [97] = true := underB_iff.2 (.inr (.inr ⟨[98], rfl⟩))
theorem k8 : nameB [46, 46] = false := by decide
theorem k9 : nameB [46, 46, 46] = true := by decide

theorem two_new (w : World) : HasT (w.alloc (.cells #[.string ⟨#[97]⟩, .string ⟨#[98]⟩] 9)) (.slice (some ⟨w.heap.size, 0, none⟩) 2 2) [⟨#[97]⟩, ⟨#[98]⟩] := by
  refine .inr ⟨⟨w.heap.size, 0, none⟩, 2, rfl, Nat.le_refl _, fun i s hi => ?_⟩
  match i, hi with
  | 0, hi => simp at hi; subst hi; simp [Addr.add]
  | 1, hi => simp at hi; subst hi; simp [Addr.add]

set_option maxHeartbeats 2000000 in
set_option maxRecDepth 100000 in
theorem known_any (w : World) : Calls Try.prog 18 #[] w fun e w' => e = .returned (.bool true) ∧ Below w.heap.size w w' := by
  have C1 := split_any ⟨#[97, 47, 98]⟩ 2 w (by decide)
  have C2 := fun W => split_any ⟨#[97, 47, 47, 98]⟩ 9 W (by decide)
  have C3 := fun W => match_any ⟨#[100, 47, 42, 42]⟩ ⟨#[100, 47, 120, 47, 121]⟩ W (by decide) (by decide)
  have C4 := fun W => match_any ⟨#[47, 42, 46, 116, 109, 112]⟩ ⟨#[100, 47, 120, 46, 116, 109, 112]⟩ W (by decide) (by decide)
  have C5 := fun W => compare_any ⟨#[97, 47, 98]⟩ ⟨#[97, 46, 98]⟩ W (by decide) (by decide)
  have C6 := fun W => under_any ⟨#[97, 47, 98]⟩ ⟨#[97]⟩ W (by decide) (by decide)
  have C7 := fun W => check_any ⟨#[46, 46]⟩ W (by decide)
  have C8 := fun W => check_any ⟨#[46, 46, 46]⟩ W (by decide)
  have CN := fun n W => num_any n W
  rw [show tl ⟨#[97, 47, 98]⟩ = [97, 47, 98] from tl_mk [97, 47, 98], k1, k2] at C1
  rw [show tl ⟨#[97, 47, 47, 98]⟩ = [97, 47, 47, 98] from tl_mk [97, 47, 47, 98], k3] at C2
  rw [show tl ⟨#[100, 47, 42, 42]⟩ = [100, 47, 42, 42] from tl_mk [100, 47, 42, 42], show tl ⟨#[100, 47, 120, 47, 121]⟩ = [100, 47, 120, 47, 121] from tl_mk [100, 47, 120, 47, 121], k4] at C3
  rw [show tl ⟨#[47, 42, 46, 116, 109, 112]⟩ = [47, 42, 46, 116, 109, 112] from tl_mk [47, 42, 46, 116, 109, 112], show tl ⟨#[100, 47, 120, 46, 116, 109, 112]⟩ = [100, 47, 120, 46, 116, 109, 112] from tl_mk [100, 47, 120, 46, 116, 109, 112], k5] at C4
  rw [show tl ⟨#[97, 47, 98]⟩ = [97, 47, 98] from tl_mk [97, 47, 98], show tl ⟨#[97, 46, 98]⟩ = [97, 46, 98] from tl_mk [97, 46, 98], k6] at C5
  rw [show tl ⟨#[97, 47, 98]⟩ = [97, 47, 98] from tl_mk [97, 47, 98], show tl ⟨#[97]⟩ = [97] from tl_mk [97], k7] at C6
  rw [show tl ⟨#[46, 46]⟩ = [46, 46] from tl_mk [46, 46], k8, show eno false = 30 from rfl] at C7
  rw [show tl ⟨#[46, 46, 46]⟩ = [46, 46, 46] from tl_mk [46, 46, 46], k9, show eno true = 0 from rfl] at C8
  go_enter Try.func18, Try.ntmps18
  go_wp2_with fail
  refine C1.mono ?_
  rintro e w1 ⟨⟨v, L, rfl, own1, hL⟩, b1⟩
  have H1 : Hid (HasT w1 v L) := own1.has
  have HL : Hid (L.map tl = [[97], [98]]) := hL
  obtain ⟨ao, cap, hv, _⟩ := own1.has.form
  subst hv
  have hl2 : L.length = 2 := by have := congrArg List.length hL; simpa using this
  have B1 : Hid (Below w.heap.size w w1) := b1
  rw [hl2] at H1 ⊢
  have HL2 : Hid (L.length = 2) := hl2
  clear own1 hL b1 C1 hl2
  go_wp2_with fail
  refine (C2 _).mono ?_
  rintro e w2 ⟨⟨v2, L2, rfl, own2, _⟩, b2⟩
  obtain ⟨ao2, cap2, hv2, _⟩ := own2.has.form
  subst hv2
  have H2 : Hid (HasT w2 (.slice ao 2 cap) L) := H1.out.below b2
  have B2 : Hid (Below w.heap.size w w2) := Below.up B1.out b2
  clear own2 b2 C2 H1 B1
  go_wp2_with fail
  refine (C3 _).mono ?_
  rintro e w3 ⟨rfl, b3⟩
  have H3 : Hid (HasT w3 (.slice ao 2 cap) L) := H2.out.below b3
  have B3 : Hid (Below w.heap.size w w3) := Below.up B2.out b3
  clear b3 C3 H2 B2
  go_wp2_with fail
  refine (C4 _).mono ?_
  rintro e w4 ⟨rfl, b4⟩
  have H4 : Hid (HasT w4 (.slice ao 2 cap) L) := H3.out.below b4
  have B4 : Hid (Below w.heap.size w w4) := Below.up B3.out b4
  clear b4 C4 H3 B3
  have CS := same_any (.slice ao 2 cap) (.slice (some ⟨w4.heap.size, 0, none⟩) 2 2) L [⟨#[97]⟩, ⟨#[98]⟩] (w4.alloc (.cells #[.string ⟨#[97]⟩, .string ⟨#[98]⟩] 9)) (H4.out.below ((Below.refl _ _).alloc (Nat.le_refl _) _)) (two_new w4) (by have := HL2.out; omega) (by decide)
  rw [HL.out, decide_eq_true (by simp only [List.map_cons, List.map_nil]; rw [show tl ⟨#[97]⟩ = [97] from tl_mk [97], show tl ⟨#[98]⟩ = [98] from tl_mk [98]])] at CS
  have B4' : Hid (Below w.heap.size w (w4.alloc (.cells #[.string ⟨#[97]⟩, .string ⟨#[98]⟩] 9))) := B4.out.alloc B4.out.size _
  clear H4 HL HL2
  go_wp2_with (first
    | (go_at_call 9; refine (CN _ _).mono ?_; rintro e w5 ⟨rfl, e5⟩; subst e5)
    | (go_at_call 24; refine CS.mono ?_; rintro e w6 ⟨rfl, d6⟩; have B6 : Hid (Below w.heap.size w w6) := Below.drews B4'.out d6; clear d6)
    | (go_at_call 14; refine (C5 _).mono ?_; rintro e w7 ⟨rfl, d7⟩; have B7 : Hid (Below w.heap.size w w7) := Below.drews B6.out d7; clear d7)
    | (go_at_call 16; refine (C6 _).mono ?_; rintro e w8 ⟨rfl, e8⟩; have B8 : Hid (Below w.heap.size w w8) := by rw [e8]; exact B7.out
       clear e8)
    | (go_at_call_of 10 (Value.string ⟨#[46, 46]⟩); refine (C7 _).mono ?_; rintro e w9 ⟨rfl, b9⟩; have B9 : Hid (Below w.heap.size w w9) := Below.up B8.out b9; clear b9)
    | (go_at_call 10; refine (C8 _).mono ?_; rintro e wa ⟨rfl, ba⟩; have BA : Hid (Below w.heap.size w wa) := Below.up B9.out ba; clear ba))
  go_ret
  exact ⟨rfl, BA.out⟩
end Go.Proofs.Ytadkdjgffnpgcaa
