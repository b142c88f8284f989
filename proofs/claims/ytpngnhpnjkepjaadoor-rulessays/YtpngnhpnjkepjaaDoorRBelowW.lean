/-
  RulesBelow's walk.
-/
import Derived.Test.YtpngnhpnjkepjaaDoorRMirL
import Derived.Test.YtpngnhpnjkepjaaDoorRBackW
namespace Go.Proofs.YtpngnhpnjkepjaaDoor
open Go.RowKit

def ThreeQ (w W : World) (p q r : Nat) (L : List Ru) : Prop := IsRules W p L ∧ IsRules W q (mirR L) ∧ IsRules W r L ∧ Below w.heap.size w W
theorem ThreeQ.up {w W W' : World} {p q r : Nat} {L : List Ru} (h : Hid (ThreeQ w W p q r L)) (hg : Below W.heap.size W W') : Hid (ThreeQ w W' p q r L) := ⟨h.out.1.up hg, h.out.2.1.up hg, h.out.2.2.1.up hg, Below.up h.out.2.2.2 hg⟩
theorem mir_short {L : List Ru} (h : ShortR L) : ShortR (mirR L) := by
  refine ⟨fun r hr => ?_, by rw [mirR_len]; exact h.2⟩
  obtain ⟨x, hx, rfl⟩ := List.mem_map.1 hr
  exact h.1 x hx
theorem join2 (a b : ByteArray) (W : World) (ha : a.size ≤ 16384) (hb : b.size ≤ 16384) :
    Calls Tryd.prog 23 #[.slice (some ⟨W.heap.size, 0, none⟩) 2 2] (W.alloc (.cells #[.string a, .string b] 9)) fun e w' => e = .returned (.string (ofB (joinL [tl a, tl b]))) ∧ Below W.heap.size W w' := by
  have hT : HasT (W.alloc (.cells #[.string a, .string b] 9)) (.slice (some ⟨W.heap.size, 0, none⟩) 2 2) [a, b] := by
    refine .inr ⟨⟨W.heap.size, 0, none⟩, 2, rfl, Nat.le_refl _, fun i s hi => ?_⟩
    match i, hi with
    | 0, hi => simp at hi; subst hi; simp [Addr.add]
    | 1, hi => simp at hi; subst hi; simp [Addr.add]
  have hl : (joinL ([a, b].map tl)).length ≤ 1048576 := by
    show (tl a ++ 47 :: tl b).length ≤ _
    rw [List.length_append, List.length_cons, tl_len, tl_len]; omega
  refine (join_any _ [a, b] _ hT (by simp) hl).mono fun e w' h => ⟨h.1, ?_⟩
  exact ((Below.refl _ W).alloc (Nat.le_refl _) _).trans (h.2.mono (by simp))
set_option maxHeartbeats 8000000 in
set_option maxRecDepth 100000 in
theorem below_short (s a b : ByteArray) (w : World) (hs : s.size ≤ 16384) (ha : a.size ≤ 16384) (hb : b.size ≤ 16384) : Calls Tryd.prog 5 #[.string s, .string a, .string b] w fun e w' => e = .returned (.bool true) ∧ Below w.heap.size w w' := by
  have i0 : (s.size : Int) ≤ 16384 := by omega
  have i1 : (a.size : Int) ≤ 16384 := by omega
  have i2 : (b.size : Int) ≤ 16384 := by omega
  have C19 := known_any w
  have C11 := fun W => parse_cases s W (by omega)
  go_enter Tryd.func5, Tryd.ntmps5
  go_upto_region 5 with (go_at_call 19; refine C19.mono ?_; rintro e w1 ⟨rfl, h1⟩)
  rcases C11 w1 with ⟨k, er, hp, he, CP⟩ | ⟨L, hp, CP⟩
  · have b0 : (er == 0) = false := by simpa using he
    have HB : Hid (Below w.heap.size w w1) := h1
    clear C19 C11 hp he h1
    go_wp2_with (go_at_call 11; refine CP.mono ?_; rintro e w2 ⟨rfl, hg⟩)
    go_ret
    exact ⟨rfl, Below.up HB.out hg⟩
  · have HB : Hid (Below w.heap.size w w1) := h1
    obtain ⟨g1, _, _, _, _⟩ := parseR_good hp
    have hsh := good_short hp
    have hsh2 := mir_short hsh
    have hgd := fun r hr => (g1.1 r hr).1
    have CM1 := fun W p h => mirror_any p L W h hgd g1.2
    have CM2 := fun W p h => mirror_any p (mirR L) W h (mirR_good hgd) (by rw [mirR_len]; exact g1.2)
    rw [mirR_mirR] at CM2
    have CJ := fun W => join2 a b W ha hb
    obtain ⟨q, hq⟩ : ∃ q, ofB (joinL [tl a, tl b]) = q := ⟨_, rfl⟩
    rw [hq] at CJ
    have hqt : tl q = joinL [tl a, tl b] := by rw [← hq]; exact tl_ofB _
    have hqs : q.size ≤ 1048576 := by
      rw [← tl_len, hqt]
      show (tl a ++ 47 :: tl b).length ≤ _
      rw [List.length_append, List.length_cons, tl_len, tl_len]; omega
    have CSp := fun W => split_any q 64 W hqs
    obtain ⟨E, hE⟩ : ∃ E, splitE (tl q) 64 = E := ⟨_, rfl⟩
    rw [hE] at CSp
    obtain ⟨SK, hSK⟩ : ∃ SK : ByteArray → Bool, SK = fun x => skipR L (tl x) := ⟨_, rfl⟩
    obtain ⟨PR, hPR⟩ : ∃ PR : ByteArray → Nat, PR = fun x => prefR L (tl x) := ⟨_, rfl⟩
    obtain ⟨PM, hPM⟩ : ∃ PM : ByteArray → Nat, PM = fun x => prefR (mirR L) (tl x) := ⟨_, rfl⟩
    have S1 : ∀ W p x, IsRules W p L → x.size ≤ 1048576 → Calls Tryd.prog 14 #[.pointer (some ⟨p, 0, none⟩), .string x] W fun e w' => e = .returned (.bool (SK x)) ∧ Below W.heap.size W w' := fun W p x h hx => by rw [hSK]; exact skip_any p L x W h hsh hx
    have S2 : ∀ W p x, IsRules W p (mirR L) → x.size ≤ 1048576 → Calls Tryd.prog 14 #[.pointer (some ⟨p, 0, none⟩), .string x] W fun e w' => e = .returned (.bool (SK x)) ∧ Below W.heap.size W w' := fun W p x h hx => by
      have h2 := skip_any p (mirR L) x W h hsh2 hx
      rw [skipR_mir] at h2
      rw [hSK]; exact h2
    have Q1 : ∀ W p x, IsRules W p L → x.size ≤ 1048576 → Calls Tryd.prog 16 #[.pointer (some ⟨p, 0, none⟩), .string x] W fun e w' => e = .returned (.int .i64 (PR x : Int)) ∧ Below W.heap.size W w' := fun W p x h hx => by rw [hPR]; exact prefer_any p L x W h hsh hx
    have Q2 : ∀ W p x, IsRules W p (mirR L) → x.size ≤ 1048576 → Calls Tryd.prog 16 #[.pointer (some ⟨p, 0, none⟩), .string x] W fun e w' => e = .returned (.int .i64 (PM x : Int)) ∧ Below W.heap.size W w' := fun W p x h hx => by rw [hPM]; exact prefer_any p (mirR L) x W h hsh2 hx
    have SU : ∀ (W : World) (p m v u : Nat) (x : ByteArray), Hid (ThreeQ w W p m v L) → (u = p ∨ u = m ∨ u = v) → x.size ≤ 1048576 → Calls Tryd.prog 14 #[.pointer (some ⟨u, 0, none⟩), .string x] W fun e w' => e = .returned (.bool (SK x)) ∧ Hid (ThreeQ w w' p m v L) := fun W p m v u x h hu hx => by
      rcases hu with rfl | rfl | rfl
      · exact (S1 W _ x h.out.1 hx).mono fun _ _ k => ⟨k.1, ThreeQ.up h k.2⟩
      · exact (S2 W _ x h.out.2.1 hx).mono fun _ _ k => ⟨k.1, ThreeQ.up h k.2⟩
      · exact (S1 W _ x h.out.2.2.1 hx).mono fun _ _ k => ⟨k.1, ThreeQ.up h k.2⟩
    have QU : ∀ (W : World) (p m v u : Nat) (x : ByteArray), Hid (ThreeQ w W p m v L) → (u = p ∨ u = v) → x.size ≤ 1048576 → Calls Tryd.prog 16 #[.pointer (some ⟨u, 0, none⟩), .string x] W fun e w' => e = .returned (.int .i64 (PR x : Int)) ∧ Hid (ThreeQ w w' p m v L) := fun W p m v u x h hu hx => by
      rcases hu with rfl | rfl
      · exact (Q1 W _ x h.out.1 hx).mono fun _ _ k => ⟨k.1, ThreeQ.up h k.2⟩
      · exact (Q1 W _ x h.out.2.2.1 hx).mono fun _ _ k => ⟨k.1, ThreeQ.up h k.2⟩
    have QM : ∀ (W : World) (p m v u : Nat) (x : ByteArray), Hid (ThreeQ w W p m v L) → u = m → x.size ≤ 1048576 → Calls Tryd.prog 16 #[.pointer (some ⟨u, 0, none⟩), .string x] W fun e w' => e = .returned (.int .i64 (PM x : Int)) ∧ Hid (ThreeQ w w' p m v L) := fun W p m v u x h hu hx => by
      subst hu
      exact (Q2 W _ x h.out.2.1 hx).mono fun _ _ k => ⟨k.1, ThreeQ.up h k.2⟩
    have r1 : SK ⟨#[]⟩ = false := by rw [hSK]; show skipR L (tl ⟨#[]⟩) = false; rw [show tl ⟨#[]⟩ = [] from tl_ofB []]; exact skipR_root L
    have r2 : ((PR ⟨#[]⟩ : Nat) : Int) = 0 := by rw [hPR]; show ((prefR L (tl ⟨#[]⟩) : Nat) : Int) = 0; rw [show tl ⟨#[]⟩ = [] from tl_ofB [], prefR_root]; rfl
    have HF : Hid ((E = 0 → tl a ≠ [] → SK a = true → SK q = true) ∧ ((PR a = 0 ∧ PM a = 0) ∨ (PR a = 1 ∧ PM a = 2) ∨ (PR a = 2 ∧ PM a = 1))) := by
      refine ⟨fun h0 h1 h2 => ?_, ?_⟩
      · rw [hSK] at h2 ⊢
        show skipR L (tl q) = true
        rw [hqt]
        exact skipR_below h1 h2 (by rw [← hqt, hE]; exact h0)
      · have := prefR_mir hgd (tl a)
        rw [hPR, hPM]
        show (prefR L (tl a) = 0 ∧ prefR (mirR L) (tl a) = 0) ∨ _
        simp only
        omega
    have ha2 : a.size ≤ 1048576 := by omega
    clear C19 C11 hp h1 g1 hsh hsh2 hgd hq hqt hE hSK hPR hPM S1 S2 Q1 Q2
    go_upto_region 8 with (go_at_call 11; refine CP.mono ?_; rintro e w2 ⟨p, rfl, HQ⟩)
    go_upto_region 9 with (go_at_call 13; refine (CM1 _ _ HQ.out.1).mono ?_; rintro e w3 ⟨m, rfl, hm, hg⟩; have HQ2 : Hid (TwoQ w w3 p m L (mirR L)) := ⟨HQ.out.1.up hg, hm, Below.up (Below.up HB.out HQ.out.2) hg⟩; clear hm hg HQ)
    go_upto_region 10 with (go_at_call 13; refine (CM2 _ _ HQ2.out.2.1).mono ?_; rintro e w4 ⟨v, rfl, hv, hg⟩; have HT : Hid (ThreeQ w w4 p m v L) := ⟨HQ2.out.1.up hg, HQ2.out.2.1.up hg, hv, Below.up HQ2.out.2.2 hg⟩; clear hv hg HQ2)
    go_upto_region 11 with (go_at_call 23; refine (CJ _).mono ?_; rintro e w5 ⟨rfl, hg⟩; replace HT := ThreeQ.up HT hg; clear hg)
    go_upto_region 12 with (go_at_call 24; refine (CSp _).mono ?_; rintro e w6 ⟨⟨x, X, rfl, hX, _⟩, hg⟩; obtain ⟨xo, xc, rfl, _⟩ := hX.has.form; replace HT := ThreeQ.up HT hg; clear hg; clear hX)
    clear CM1 CM2 CJ CSp CP
    obtain ⟨x, hx⟩ : ∃ x : Nat, PR a = x := ⟨_, rfl⟩
    obtain ⟨y, hy⟩ : ∃ y : Nat, PM a = y := ⟨_, rfl⟩
    obtain ⟨A, hA⟩ : ∃ A, SK a = A := ⟨_, rfl⟩
    obtain ⟨QQ, hQ⟩ : ∃ QQ, SK q = QQ := ⟨_, rfl⟩
    have HC := HF.out
    rw [hx, hy, hA, hQ] at HC
    clear HF
    have b12 : (E = 0 ∧ tl a ≠ [] ∧ A = true ∧ QQ = true) ∨ (E = 0 ∧ tl a ≠ [] ∧ A = false) ∨ (E = 0 ∧ tl a = []) ∨ E ≠ 0 := by
      by_cases h0 : E = 0
      · by_cases h1 : tl a = []
        · exact .inr (.inr (.inl ⟨h0, h1⟩))
        · cases A with
          | true => exact .inl ⟨h0, h1, rfl, HC.1 h0 h1 rfl⟩
          | false => exact .inr (.inl ⟨h0, h1, rfl⟩)
      · exact .inr (.inr (.inr h0))
    rcases b12 with ⟨rfl, h1, rfl, rfl⟩ | ⟨rfl, h1, rfl⟩ | ⟨rfl, h1⟩ | h0
    · have b1 : a.toList.isEmpty = false := by
        cases h : a.toList with
        | nil => exact absurd h h1
        | cons _ _ => rfl
      clear h1
      go_upto_region 14 with (go_at_call 14; refine (SU _ p m v _ _ HT (by first | exact .inl rfl | exact .inr (.inl rfl) | exact .inr (.inr rfl)) (by first | exact ha2 | exact hqs | decide)).mono ?_; rintro e w7 ⟨rfl, HT2⟩; clear HT; rename Hid (ThreeQ _ _ _ _ _ _) => HT; first | rw [hA] | rw [hQ] | rw [r1])
      rcases HC.2 with ⟨rfl, rfl⟩ | ⟨rfl, rfl⟩ | ⟨rfl, rfl⟩
      · have hX : ((PR a : Nat) : Int) = 0 := by rw [hx]; rfl
        have hY : ((PM a : Nat) : Int) = 0 := by rw [hy]; rfl
        clear hx hy HC
        go_wp2_with (first
          | (go_at_call 14; refine (SU _ p m v _ _ HT (by first | exact .inl rfl | exact .inr (.inl rfl) | exact .inr (.inr rfl)) (by first | exact ha2 | exact hqs | decide)).mono ?_; rintro e w7 ⟨rfl, HT2⟩; clear HT; rename Hid (ThreeQ _ _ _ _ _ _) => HT; first | rw [hA] | rw [hQ] | rw [r1])
          | (go_at_call 16; refine (QU _ p m v _ _ HT (by first | exact .inl rfl | exact .inr rfl) (by first | exact ha2 | decide)).mono ?_; rintro e w7 ⟨rfl, HT2⟩; clear HT; rename Hid (ThreeQ _ _ _ _ _ _) => HT; first | rw [hX] | rw [r2])
          | (go_at_call 16; refine (QM _ p m v _ _ HT rfl ha2).mono ?_; rintro e w7 ⟨rfl, HT2⟩; clear HT; rename Hid (ThreeQ _ _ _ _ _ _) => HT; rw [hY]))
        go_ret
        exact ⟨rfl, HT.out.2.2.2⟩
      · have hX : ((PR a : Nat) : Int) = 1 := by rw [hx]; rfl
        have hY : ((PM a : Nat) : Int) = 2 := by rw [hy]; rfl
        clear hx hy HC
        go_wp2_with (first
          | (go_at_call 14; refine (SU _ p m v _ _ HT (by first | exact .inl rfl | exact .inr (.inl rfl) | exact .inr (.inr rfl)) (by first | exact ha2 | exact hqs | decide)).mono ?_; rintro e w7 ⟨rfl, HT2⟩; clear HT; rename Hid (ThreeQ _ _ _ _ _ _) => HT; first | rw [hA] | rw [hQ] | rw [r1])
          | (go_at_call 16; refine (QU _ p m v _ _ HT (by first | exact .inl rfl | exact .inr rfl) (by first | exact ha2 | decide)).mono ?_; rintro e w7 ⟨rfl, HT2⟩; clear HT; rename Hid (ThreeQ _ _ _ _ _ _) => HT; first | rw [hX] | rw [r2])
          | (go_at_call 16; refine (QM _ p m v _ _ HT rfl ha2).mono ?_; rintro e w7 ⟨rfl, HT2⟩; clear HT; rename Hid (ThreeQ _ _ _ _ _ _) => HT; rw [hY]))
        go_ret
        exact ⟨rfl, HT.out.2.2.2⟩
      · have hX : ((PR a : Nat) : Int) = 2 := by rw [hx]; rfl
        have hY : ((PM a : Nat) : Int) = 1 := by rw [hy]; rfl
        clear hx hy HC
        go_wp2_with (first
          | (go_at_call 14; refine (SU _ p m v _ _ HT (by first | exact .inl rfl | exact .inr (.inl rfl) | exact .inr (.inr rfl)) (by first | exact ha2 | exact hqs | decide)).mono ?_; rintro e w7 ⟨rfl, HT2⟩; clear HT; rename Hid (ThreeQ _ _ _ _ _ _) => HT; first | rw [hA] | rw [hQ] | rw [r1])
          | (go_at_call 16; refine (QU _ p m v _ _ HT (by first | exact .inl rfl | exact .inr rfl) (by first | exact ha2 | decide)).mono ?_; rintro e w7 ⟨rfl, HT2⟩; clear HT; rename Hid (ThreeQ _ _ _ _ _ _) => HT; first | rw [hX] | rw [r2])
          | (go_at_call 16; refine (QM _ p m v _ _ HT rfl ha2).mono ?_; rintro e w7 ⟨rfl, HT2⟩; clear HT; rename Hid (ThreeQ _ _ _ _ _ _) => HT; rw [hY]))
        go_ret
        exact ⟨rfl, HT.out.2.2.2⟩
    · have b1 : a.toList.isEmpty = false := by
        cases h : a.toList with
        | nil => exact absurd h h1
        | cons _ _ => rfl
      clear h1
      go_upto_region 14 with (go_at_call 14; refine (SU _ p m v _ _ HT (by first | exact .inl rfl | exact .inr (.inl rfl) | exact .inr (.inr rfl)) (by first | exact ha2 | exact hqs | decide)).mono ?_; rintro e w7 ⟨rfl, HT2⟩; clear HT; rename Hid (ThreeQ _ _ _ _ _ _) => HT; first | rw [hA] | rw [hQ] | rw [r1])
      rcases HC.2 with ⟨rfl, rfl⟩ | ⟨rfl, rfl⟩ | ⟨rfl, rfl⟩
      · have hX : ((PR a : Nat) : Int) = 0 := by rw [hx]; rfl
        have hY : ((PM a : Nat) : Int) = 0 := by rw [hy]; rfl
        clear hx hy HC
        go_wp2_with (first
          | (go_at_call 14; refine (SU _ p m v _ _ HT (by first | exact .inl rfl | exact .inr (.inl rfl) | exact .inr (.inr rfl)) (by first | exact ha2 | exact hqs | decide)).mono ?_; rintro e w7 ⟨rfl, HT2⟩; clear HT; rename Hid (ThreeQ _ _ _ _ _ _) => HT; first | rw [hA] | rw [hQ] | rw [r1])
          | (go_at_call 16; refine (QU _ p m v _ _ HT (by first | exact .inl rfl | exact .inr rfl) (by first | exact ha2 | decide)).mono ?_; rintro e w7 ⟨rfl, HT2⟩; clear HT; rename Hid (ThreeQ _ _ _ _ _ _) => HT; first | rw [hX] | rw [r2])
          | (go_at_call 16; refine (QM _ p m v _ _ HT rfl ha2).mono ?_; rintro e w7 ⟨rfl, HT2⟩; clear HT; rename Hid (ThreeQ _ _ _ _ _ _) => HT; rw [hY]))
        go_ret
        exact ⟨rfl, HT.out.2.2.2⟩
      · have hX : ((PR a : Nat) : Int) = 1 := by rw [hx]; rfl
        have hY : ((PM a : Nat) : Int) = 2 := by rw [hy]; rfl
        clear hx hy HC
        go_wp2_with (first
          | (go_at_call 14; refine (SU _ p m v _ _ HT (by first | exact .inl rfl | exact .inr (.inl rfl) | exact .inr (.inr rfl)) (by first | exact ha2 | exact hqs | decide)).mono ?_; rintro e w7 ⟨rfl, HT2⟩; clear HT; rename Hid (ThreeQ _ _ _ _ _ _) => HT; first | rw [hA] | rw [hQ] | rw [r1])
          | (go_at_call 16; refine (QU _ p m v _ _ HT (by first | exact .inl rfl | exact .inr rfl) (by first | exact ha2 | decide)).mono ?_; rintro e w7 ⟨rfl, HT2⟩; clear HT; rename Hid (ThreeQ _ _ _ _ _ _) => HT; first | rw [hX] | rw [r2])
          | (go_at_call 16; refine (QM _ p m v _ _ HT rfl ha2).mono ?_; rintro e w7 ⟨rfl, HT2⟩; clear HT; rename Hid (ThreeQ _ _ _ _ _ _) => HT; rw [hY]))
        go_ret
        exact ⟨rfl, HT.out.2.2.2⟩
      · have hX : ((PR a : Nat) : Int) = 2 := by rw [hx]; rfl
        have hY : ((PM a : Nat) : Int) = 1 := by rw [hy]; rfl
        clear hx hy HC
        go_wp2_with (first
          | (go_at_call 14; refine (SU _ p m v _ _ HT (by first | exact .inl rfl | exact .inr (.inl rfl) | exact .inr (.inr rfl)) (by first | exact ha2 | exact hqs | decide)).mono ?_; rintro e w7 ⟨rfl, HT2⟩; clear HT; rename Hid (ThreeQ _ _ _ _ _ _) => HT; first | rw [hA] | rw [hQ] | rw [r1])
          | (go_at_call 16; refine (QU _ p m v _ _ HT (by first | exact .inl rfl | exact .inr rfl) (by first | exact ha2 | decide)).mono ?_; rintro e w7 ⟨rfl, HT2⟩; clear HT; rename Hid (ThreeQ _ _ _ _ _ _) => HT; first | rw [hX] | rw [r2])
          | (go_at_call 16; refine (QM _ p m v _ _ HT rfl ha2).mono ?_; rintro e w7 ⟨rfl, HT2⟩; clear HT; rename Hid (ThreeQ _ _ _ _ _ _) => HT; rw [hY]))
        go_ret
        exact ⟨rfl, HT.out.2.2.2⟩
    · have b1 : a.toList.isEmpty = true := by rw [show a.toList = tl a from rfl, h1]; rfl
      clear h1
      go_upto_region 14 with fail
      rcases HC.2 with ⟨rfl, rfl⟩ | ⟨rfl, rfl⟩ | ⟨rfl, rfl⟩
      · have hX : ((PR a : Nat) : Int) = 0 := by rw [hx]; rfl
        have hY : ((PM a : Nat) : Int) = 0 := by rw [hy]; rfl
        clear hx hy HC
        go_wp2_with (first
          | (go_at_call 14; refine (SU _ p m v _ _ HT (by first | exact .inl rfl | exact .inr (.inl rfl) | exact .inr (.inr rfl)) (by first | exact ha2 | exact hqs | decide)).mono ?_; rintro e w7 ⟨rfl, HT2⟩; clear HT; rename Hid (ThreeQ _ _ _ _ _ _) => HT; first | rw [hA] | rw [hQ] | rw [r1])
          | (go_at_call 16; refine (QU _ p m v _ _ HT (by first | exact .inl rfl | exact .inr rfl) (by first | exact ha2 | decide)).mono ?_; rintro e w7 ⟨rfl, HT2⟩; clear HT; rename Hid (ThreeQ _ _ _ _ _ _) => HT; first | rw [hX] | rw [r2])
          | (go_at_call 16; refine (QM _ p m v _ _ HT rfl ha2).mono ?_; rintro e w7 ⟨rfl, HT2⟩; clear HT; rename Hid (ThreeQ _ _ _ _ _ _) => HT; rw [hY]))
        go_ret
        exact ⟨rfl, HT.out.2.2.2⟩
      · have hX : ((PR a : Nat) : Int) = 1 := by rw [hx]; rfl
        have hY : ((PM a : Nat) : Int) = 2 := by rw [hy]; rfl
        clear hx hy HC
        go_wp2_with (first
          | (go_at_call 14; refine (SU _ p m v _ _ HT (by first | exact .inl rfl | exact .inr (.inl rfl) | exact .inr (.inr rfl)) (by first | exact ha2 | exact hqs | decide)).mono ?_; rintro e w7 ⟨rfl, HT2⟩; clear HT; rename Hid (ThreeQ _ _ _ _ _ _) => HT; first | rw [hA] | rw [hQ] | rw [r1])
          | (go_at_call 16; refine (QU _ p m v _ _ HT (by first | exact .inl rfl | exact .inr rfl) (by first | exact ha2 | decide)).mono ?_; rintro e w7 ⟨rfl, HT2⟩; clear HT; rename Hid (ThreeQ _ _ _ _ _ _) => HT; first | rw [hX] | rw [r2])
          | (go_at_call 16; refine (QM _ p m v _ _ HT rfl ha2).mono ?_; rintro e w7 ⟨rfl, HT2⟩; clear HT; rename Hid (ThreeQ _ _ _ _ _ _) => HT; rw [hY]))
        go_ret
        exact ⟨rfl, HT.out.2.2.2⟩
      · have hX : ((PR a : Nat) : Int) = 2 := by rw [hx]; rfl
        have hY : ((PM a : Nat) : Int) = 1 := by rw [hy]; rfl
        clear hx hy HC
        go_wp2_with (first
          | (go_at_call 14; refine (SU _ p m v _ _ HT (by first | exact .inl rfl | exact .inr (.inl rfl) | exact .inr (.inr rfl)) (by first | exact ha2 | exact hqs | decide)).mono ?_; rintro e w7 ⟨rfl, HT2⟩; clear HT; rename Hid (ThreeQ _ _ _ _ _ _) => HT; first | rw [hA] | rw [hQ] | rw [r1])
          | (go_at_call 16; refine (QU _ p m v _ _ HT (by first | exact .inl rfl | exact .inr rfl) (by first | exact ha2 | decide)).mono ?_; rintro e w7 ⟨rfl, HT2⟩; clear HT; rename Hid (ThreeQ _ _ _ _ _ _) => HT; first | rw [hX] | rw [r2])
          | (go_at_call 16; refine (QM _ p m v _ _ HT rfl ha2).mono ?_; rintro e w7 ⟨rfl, HT2⟩; clear HT; rename Hid (ThreeQ _ _ _ _ _ _) => HT; rw [hY]))
        go_ret
        exact ⟨rfl, HT.out.2.2.2⟩
    · have b0 : (E == 0) = false := by simpa using h0
      clear h0
      go_upto_region 14 with fail
      rcases HC.2 with ⟨rfl, rfl⟩ | ⟨rfl, rfl⟩ | ⟨rfl, rfl⟩
      · have hX : ((PR a : Nat) : Int) = 0 := by rw [hx]; rfl
        have hY : ((PM a : Nat) : Int) = 0 := by rw [hy]; rfl
        clear hx hy HC
        go_wp2_with (first
          | (go_at_call 14; refine (SU _ p m v _ _ HT (by first | exact .inl rfl | exact .inr (.inl rfl) | exact .inr (.inr rfl)) (by first | exact ha2 | exact hqs | decide)).mono ?_; rintro e w7 ⟨rfl, HT2⟩; clear HT; rename Hid (ThreeQ _ _ _ _ _ _) => HT; first | rw [hA] | rw [hQ] | rw [r1])
          | (go_at_call 16; refine (QU _ p m v _ _ HT (by first | exact .inl rfl | exact .inr rfl) (by first | exact ha2 | decide)).mono ?_; rintro e w7 ⟨rfl, HT2⟩; clear HT; rename Hid (ThreeQ _ _ _ _ _ _) => HT; first | rw [hX] | rw [r2])
          | (go_at_call 16; refine (QM _ p m v _ _ HT rfl ha2).mono ?_; rintro e w7 ⟨rfl, HT2⟩; clear HT; rename Hid (ThreeQ _ _ _ _ _ _) => HT; rw [hY]))
        go_ret
        exact ⟨rfl, HT.out.2.2.2⟩
      · have hX : ((PR a : Nat) : Int) = 1 := by rw [hx]; rfl
        have hY : ((PM a : Nat) : Int) = 2 := by rw [hy]; rfl
        clear hx hy HC
        go_wp2_with (first
          | (go_at_call 14; refine (SU _ p m v _ _ HT (by first | exact .inl rfl | exact .inr (.inl rfl) | exact .inr (.inr rfl)) (by first | exact ha2 | exact hqs | decide)).mono ?_; rintro e w7 ⟨rfl, HT2⟩; clear HT; rename Hid (ThreeQ _ _ _ _ _ _) => HT; first | rw [hA] | rw [hQ] | rw [r1])
          | (go_at_call 16; refine (QU _ p m v _ _ HT (by first | exact .inl rfl | exact .inr rfl) (by first | exact ha2 | decide)).mono ?_; rintro e w7 ⟨rfl, HT2⟩; clear HT; rename Hid (ThreeQ _ _ _ _ _ _) => HT; first | rw [hX] | rw [r2])
          | (go_at_call 16; refine (QM _ p m v _ _ HT rfl ha2).mono ?_; rintro e w7 ⟨rfl, HT2⟩; clear HT; rename Hid (ThreeQ _ _ _ _ _ _) => HT; rw [hY]))
        go_ret
        exact ⟨rfl, HT.out.2.2.2⟩
      · have hX : ((PR a : Nat) : Int) = 2 := by rw [hx]; rfl
        have hY : ((PM a : Nat) : Int) = 1 := by rw [hy]; rfl
        clear hx hy HC
        go_wp2_with (first
          | (go_at_call 14; refine (SU _ p m v _ _ HT (by first | exact .inl rfl | exact .inr (.inl rfl) | exact .inr (.inr rfl)) (by first | exact ha2 | exact hqs | decide)).mono ?_; rintro e w7 ⟨rfl, HT2⟩; clear HT; rename Hid (ThreeQ _ _ _ _ _ _) => HT; first | rw [hA] | rw [hQ] | rw [r1])
          | (go_at_call 16; refine (QU _ p m v _ _ HT (by first | exact .inl rfl | exact .inr rfl) (by first | exact ha2 | decide)).mono ?_; rintro e w7 ⟨rfl, HT2⟩; clear HT; rename Hid (ThreeQ _ _ _ _ _ _) => HT; first | rw [hX] | rw [r2])
          | (go_at_call 16; refine (QM _ p m v _ _ HT rfl ha2).mono ?_; rintro e w7 ⟨rfl, HT2⟩; clear HT; rename Hid (ThreeQ _ _ _ _ _ _) => HT; rw [hY]))
        go_ret
        exact ⟨rfl, HT.out.2.2.2⟩
end Go.Proofs.YtpngnhpnjkepjaaDoor
