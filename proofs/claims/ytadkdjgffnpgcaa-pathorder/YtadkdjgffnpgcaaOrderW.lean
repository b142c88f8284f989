/-
  PathOrder: the walk, and the row.
-/
import Derived.Test.YtadkdjgffnpgcaaFrame
import Derived.Test.YtadkdjgffnpgcaaKnown
namespace Go.Proofs.Ytadkdjgffnpgcaa.OrderR
open Go.ChangeShapes Go.WideShapes Go.ChangeAt Go.RowKit
open Go.ChangeMaps (open_string shut_string)

set_option maxHeartbeats 2000000 in
set_option maxRecDepth 100000 in
theorem short (a b c : ByteArray) (w : World) (ha : a.size ≤ 20000) (hb : b.size ≤ 20000) (hc : c.size ≤ 20000) :
    Calls Try.prog 5 #[.string a, .string b, .string c] w fun e w' => e = .returned (.bool true) ∧ Below w.heap.size w w' := by
  have i1 : ¬ ((20000 : Int) < (a.size : Int)) := by omega
  have i2 : ¬ ((20000 : Int) < (b.size : Int)) := by omega
  have i3 : ¬ ((20000 : Int) < (c.size : Int)) := by omega
  have CK := known_any w
  have Cab := fun W => compare_any a b W (by omega) (by omega)
  have Cbc := fun W => compare_any b c W (by omega) (by omega)
  have Cac := fun W => compare_any a c W (by omega) (by omega)
  have Cba := fun W => compare_any b a W (by omega) (by omega)
  have Caa := fun W => compare_any a a W (by omega) (by omega)
  have Uca := fun W => under_any c a W (by omega) (by omega)
  have Uba := fun W => under_any b a W (by omega) (by omega)
  have Uab := fun W => under_any a b W (by omega) (by omega)
  rw [cmpL_self] at Caa
  rw [cmpL_neg (tl a) (tl b)] at Cba
  have h3 := cmpL_three (tl a) (tl b)
  have h0 := cmpL_zero (tl a) (tl b)
  have ht := cmpL_trans (tl a) (tl b) (tl c)
  have hu1 : underB (tl c) (tl a) = true → cmpL (tl a) (tl b) = -1 → cmpL (tl b) (tl c) = -1 → underB (tl b) (tl a) = true := fun q1 q2 q3 => underB_iff.2 (under_between (underB_iff.1 q1) q2 q3)
  have hu2 : underB (tl a) (tl b) = true → 0 ≤ cmpL (tl a) (tl b) := fun q => by have := under_cmp (underB_iff.1 q); rw [cmpL_neg (tl a) (tl b)] at this; omega
  have hab : (a.toList == b.toList) = decide (cmpL (tl a) (tl b) = 0) := by
    by_cases h : cmpL (tl a) (tl b) = 0
    · rw [decide_eq_true h]; simpa using h0.1 h
    · rw [decide_eq_false h]; simpa using fun e => h (h0.2 e)
  clear h0
  generalize cmpL (tl a) (tl b) = x at *
  generalize cmpL (tl b) (tl c) = y at *
  generalize cmpL (tl a) (tl c) = z at *
  generalize underB (tl c) (tl a) = q1 at *
  generalize underB (tl b) (tl a) = q2 at *
  generalize underB (tl a) (tl b) = q3 at *
  have hz : x ≤ 0 ∧ y ≤ 0 ∧ z ≤ 0 ∨ ¬ x ≤ 0 ∨ ¬ y ≤ 0 := by
    by_cases e1 : x ≤ 0
    · by_cases e2 : y ≤ 0
      · exact .inl ⟨e1, e2, ht e1 e2⟩
      · exact .inr (.inr e2)
    · exact .inr (.inl e1)
  clear ht
  have HZ : Hid (x ≤ 0 ∧ y ≤ 0 ∧ z ≤ 0 ∨ ¬ x ≤ 0 ∨ ¬ y ≤ 0) := hz
  have HU1 : Hid (q1 = true → x = -1 → y = -1 → q2 = true) := hu1
  have HU2 : Hid (q3 = true → 0 ≤ x) := hu2
  clear hz hu1 hu2
  go_enter Try.func5, Try.ntmps5
  go_wp2_with fail
  refine CK.mono ?_
  rintro e w1 ⟨rfl, b1⟩
  have B1 : Hid (Below w.heap.size w w1) := b1
  clear b1 CK
  go_wp2_with fail
  refine (Cab _).mono ?_
  rintro e w2 ⟨rfl, d2⟩
  have B2 : Hid (Below w.heap.size w w2) := Below.drews B1.out d2
  clear d2 Cab
  go_wp2_with fail
  refine (Cbc _).mono ?_
  rintro e w3 ⟨rfl, d3⟩
  have B3 : Hid (Below w.heap.size w w3) := Below.drews B2.out d3
  clear d3 Cbc
  go_wp2_with fail
  refine (Cac _).mono ?_
  rintro e w4 ⟨rfl, d4⟩
  have B4 : Hid (Below w.heap.size w w4) := Below.drews B3.out d4
  clear d4 Cac
  rcases h3 with rfl | rfl | rfl
  · have e3 : q3 = false := by
      cases q3 with
      | false => rfl
      | true => have := HU2.out rfl; omega
    subst e3
    have hab2 : (a.toList == b.toList) = false := by rw [hab]; rfl
    clear HU2 hab
    by_cases hy : y ≤ 0
    · have hz : ¬ (0 < z) := by have := HZ.out; omega
      by_cases hy1 : y = -1
      · subst hy1
        cases q1 with
        | true =>
          obtain rfl := HU1.out rfl rfl rfl
          clear HU1 HZ
          go_wp2_with (first
            | (go_at_call_of 14 (Value.string b); refine (Cba _).mono ?_; rintro e w5 ⟨rfl, d5⟩; replace B4 : Hid (Below w.heap.size w w5) := Below.drews B4.out d5; clear d5)
            | (go_at_call 14; refine (Caa _).mono ?_; rintro e w5 ⟨rfl, d5⟩; replace B4 : Hid (Below w.heap.size w w5) := Below.drews B4.out d5; clear d5)
            | (go_at_call_of 16 (Value.string c); refine (Uca _).mono ?_; rintro e w6 ⟨rfl, e6⟩; replace B4 : Hid (Below w.heap.size w w6) := by rw [e6]; exact B4.out
               clear e6))
          refine (Uba _).mono ?_
          rintro e w7 ⟨rfl, e7⟩
          replace B4 : Hid (Below w.heap.size w w7) := by rw [e7]; exact B4.out
          clear e7
          go_wp2_with fail
          refine (Uab _).mono ?_
          rintro e w8 ⟨rfl, e8⟩
          replace B4 : Hid (Below w.heap.size w w8) := by rw [e8]; exact B4.out
          clear e8
          go_wp2_with (first
            | (go_at_call_of 14 (Value.string b); refine (Cba _).mono ?_; rintro e w5 ⟨rfl, d5⟩; replace B4 : Hid (Below w.heap.size w w5) := Below.drews B4.out d5; clear d5)
            | (go_at_call 14; refine (Caa _).mono ?_; rintro e w5 ⟨rfl, d5⟩; replace B4 : Hid (Below w.heap.size w w5) := Below.drews B4.out d5; clear d5)
            | (go_at_call_of 16 (Value.string c); refine (Uca _).mono ?_; rintro e w6 ⟨rfl, e6⟩; replace B4 : Hid (Below w.heap.size w w6) := by rw [e6]; exact B4.out
               clear e6))
          go_ret
          exact ⟨rfl, B4.out⟩
        | false =>
          clear HU1 HZ
          go_wp2_with (first
            | (go_at_call_of 14 (Value.string b); refine (Cba _).mono ?_; rintro e w5 ⟨rfl, d5⟩; replace B4 : Hid (Below w.heap.size w w5) := Below.drews B4.out d5; clear d5)
            | (go_at_call 14; refine (Caa _).mono ?_; rintro e w5 ⟨rfl, d5⟩; replace B4 : Hid (Below w.heap.size w w5) := Below.drews B4.out d5; clear d5)
            | (go_at_call_of 16 (Value.string c); refine (Uca _).mono ?_; rintro e w6 ⟨rfl, e6⟩; replace B4 : Hid (Below w.heap.size w w6) := by rw [e6]; exact B4.out
               clear e6))
          refine (Uab _).mono ?_
          rintro e w8 ⟨rfl, e8⟩
          replace B4 : Hid (Below w.heap.size w w8) := by rw [e8]; exact B4.out
          clear e8
          go_wp2_with (first
            | (go_at_call_of 14 (Value.string b); refine (Cba _).mono ?_; rintro e w5 ⟨rfl, d5⟩; replace B4 : Hid (Below w.heap.size w w5) := Below.drews B4.out d5; clear d5)
            | (go_at_call 14; refine (Caa _).mono ?_; rintro e w5 ⟨rfl, d5⟩; replace B4 : Hid (Below w.heap.size w w5) := Below.drews B4.out d5; clear d5)
            | (go_at_call_of 16 (Value.string c); refine (Uca _).mono ?_; rintro e w6 ⟨rfl, e6⟩; replace B4 : Hid (Below w.heap.size w w6) := by rw [e6]; exact B4.out
               clear e6))
          go_ret
          exact ⟨rfl, B4.out⟩
      · have hy2 : (y == -1) = false := by simpa using hy1
        clear HU1 HZ hy1
        cases q1 with
        | true =>
          go_wp2_with (first
            | (go_at_call_of 14 (Value.string b); refine (Cba _).mono ?_; rintro e w5 ⟨rfl, d5⟩; replace B4 : Hid (Below w.heap.size w w5) := Below.drews B4.out d5; clear d5)
            | (go_at_call 14; refine (Caa _).mono ?_; rintro e w5 ⟨rfl, d5⟩; replace B4 : Hid (Below w.heap.size w w5) := Below.drews B4.out d5; clear d5)
            | (go_at_call_of 16 (Value.string c); refine (Uca _).mono ?_; rintro e w6 ⟨rfl, e6⟩; replace B4 : Hid (Below w.heap.size w w6) := by rw [e6]; exact B4.out
               clear e6))
          refine (Uab _).mono ?_
          rintro e w8 ⟨rfl, e8⟩
          replace B4 : Hid (Below w.heap.size w w8) := by rw [e8]; exact B4.out
          clear e8
          go_wp2_with (first
            | (go_at_call_of 14 (Value.string b); refine (Cba _).mono ?_; rintro e w5 ⟨rfl, d5⟩; replace B4 : Hid (Below w.heap.size w w5) := Below.drews B4.out d5; clear d5)
            | (go_at_call 14; refine (Caa _).mono ?_; rintro e w5 ⟨rfl, d5⟩; replace B4 : Hid (Below w.heap.size w w5) := Below.drews B4.out d5; clear d5)
            | (go_at_call_of 16 (Value.string c); refine (Uca _).mono ?_; rintro e w6 ⟨rfl, e6⟩; replace B4 : Hid (Below w.heap.size w w6) := by rw [e6]; exact B4.out
               clear e6))
          go_ret
          exact ⟨rfl, B4.out⟩
        | false =>
          go_wp2_with (first
            | (go_at_call_of 14 (Value.string b); refine (Cba _).mono ?_; rintro e w5 ⟨rfl, d5⟩; replace B4 : Hid (Below w.heap.size w w5) := Below.drews B4.out d5; clear d5)
            | (go_at_call 14; refine (Caa _).mono ?_; rintro e w5 ⟨rfl, d5⟩; replace B4 : Hid (Below w.heap.size w w5) := Below.drews B4.out d5; clear d5)
            | (go_at_call_of 16 (Value.string c); refine (Uca _).mono ?_; rintro e w6 ⟨rfl, e6⟩; replace B4 : Hid (Below w.heap.size w w6) := by rw [e6]; exact B4.out
               clear e6))
          refine (Uab _).mono ?_
          rintro e w8 ⟨rfl, e8⟩
          replace B4 : Hid (Below w.heap.size w w8) := by rw [e8]; exact B4.out
          clear e8
          go_wp2_with (first
            | (go_at_call_of 14 (Value.string b); refine (Cba _).mono ?_; rintro e w5 ⟨rfl, d5⟩; replace B4 : Hid (Below w.heap.size w w5) := Below.drews B4.out d5; clear d5)
            | (go_at_call 14; refine (Caa _).mono ?_; rintro e w5 ⟨rfl, d5⟩; replace B4 : Hid (Below w.heap.size w w5) := Below.drews B4.out d5; clear d5)
            | (go_at_call_of 16 (Value.string c); refine (Uca _).mono ?_; rintro e w6 ⟨rfl, e6⟩; replace B4 : Hid (Below w.heap.size w w6) := by rw [e6]; exact B4.out
               clear e6))
          go_ret
          exact ⟨rfl, B4.out⟩
    · have hy2 : (y == -1) = false := by simp; omega
      clear HU1 HZ
      cases q1 with
      | true =>
        go_wp2_with (first
          | (go_at_call_of 14 (Value.string b); refine (Cba _).mono ?_; rintro e w5 ⟨rfl, d5⟩; replace B4 : Hid (Below w.heap.size w w5) := Below.drews B4.out d5; clear d5)
          | (go_at_call 14; refine (Caa _).mono ?_; rintro e w5 ⟨rfl, d5⟩; replace B4 : Hid (Below w.heap.size w w5) := Below.drews B4.out d5; clear d5)
          | (go_at_call_of 16 (Value.string c); refine (Uca _).mono ?_; rintro e w6 ⟨rfl, e6⟩; replace B4 : Hid (Below w.heap.size w w6) := by rw [e6]; exact B4.out
             clear e6))
        refine (Uab _).mono ?_
        rintro e w8 ⟨rfl, e8⟩
        replace B4 : Hid (Below w.heap.size w w8) := by rw [e8]; exact B4.out
        clear e8
        go_wp2_with (first
          | (go_at_call_of 14 (Value.string b); refine (Cba _).mono ?_; rintro e w5 ⟨rfl, d5⟩; replace B4 : Hid (Below w.heap.size w w5) := Below.drews B4.out d5; clear d5)
          | (go_at_call 14; refine (Caa _).mono ?_; rintro e w5 ⟨rfl, d5⟩; replace B4 : Hid (Below w.heap.size w w5) := Below.drews B4.out d5; clear d5)
          | (go_at_call_of 16 (Value.string c); refine (Uca _).mono ?_; rintro e w6 ⟨rfl, e6⟩; replace B4 : Hid (Below w.heap.size w w6) := by rw [e6]; exact B4.out
             clear e6))
        go_ret
        exact ⟨rfl, B4.out⟩
      | false =>
        go_wp2_with (first
          | (go_at_call_of 14 (Value.string b); refine (Cba _).mono ?_; rintro e w5 ⟨rfl, d5⟩; replace B4 : Hid (Below w.heap.size w w5) := Below.drews B4.out d5; clear d5)
          | (go_at_call 14; refine (Caa _).mono ?_; rintro e w5 ⟨rfl, d5⟩; replace B4 : Hid (Below w.heap.size w w5) := Below.drews B4.out d5; clear d5)
          | (go_at_call_of 16 (Value.string c); refine (Uca _).mono ?_; rintro e w6 ⟨rfl, e6⟩; replace B4 : Hid (Below w.heap.size w w6) := by rw [e6]; exact B4.out
             clear e6))
        refine (Uab _).mono ?_
        rintro e w8 ⟨rfl, e8⟩
        replace B4 : Hid (Below w.heap.size w w8) := by rw [e8]; exact B4.out
        clear e8
        go_wp2_with (first
          | (go_at_call_of 14 (Value.string b); refine (Cba _).mono ?_; rintro e w5 ⟨rfl, d5⟩; replace B4 : Hid (Below w.heap.size w w5) := Below.drews B4.out d5; clear d5)
          | (go_at_call 14; refine (Caa _).mono ?_; rintro e w5 ⟨rfl, d5⟩; replace B4 : Hid (Below w.heap.size w w5) := Below.drews B4.out d5; clear d5)
          | (go_at_call_of 16 (Value.string c); refine (Uca _).mono ?_; rintro e w6 ⟨rfl, e6⟩; replace B4 : Hid (Below w.heap.size w w6) := by rw [e6]; exact B4.out
             clear e6))
        go_ret
        exact ⟨rfl, B4.out⟩
  · have hab2 : (a.toList == b.toList) = true := by rw [hab]; rfl
    clear HU2 hab HU1
    by_cases hy : y ≤ 0
    · have hz : ¬ (0 < z) := by have := HZ.out; omega
      clear HZ
      cases q1 with
      | true =>
        cases q3 with
        | true =>
          go_wp2_with (first
            | (go_at_call_of 14 (Value.string b); refine (Cba _).mono ?_; rintro e w5 ⟨rfl, d5⟩; replace B4 : Hid (Below w.heap.size w w5) := Below.drews B4.out d5; clear d5)
            | (go_at_call 14; refine (Caa _).mono ?_; rintro e w5 ⟨rfl, d5⟩; replace B4 : Hid (Below w.heap.size w w5) := Below.drews B4.out d5; clear d5)
            | (go_at_call_of 16 (Value.string c); refine (Uca _).mono ?_; rintro e w6 ⟨rfl, e6⟩; replace B4 : Hid (Below w.heap.size w w6) := by rw [e6]; exact B4.out
               clear e6))
          refine (Uab _).mono ?_
          rintro e w8 ⟨rfl, e8⟩
          replace B4 : Hid (Below w.heap.size w w8) := by rw [e8]; exact B4.out
          clear e8
          go_wp2_with (first
            | (go_at_call_of 14 (Value.string b); refine (Cba _).mono ?_; rintro e w5 ⟨rfl, d5⟩; replace B4 : Hid (Below w.heap.size w w5) := Below.drews B4.out d5; clear d5)
            | (go_at_call 14; refine (Caa _).mono ?_; rintro e w5 ⟨rfl, d5⟩; replace B4 : Hid (Below w.heap.size w w5) := Below.drews B4.out d5; clear d5)
            | (go_at_call_of 16 (Value.string c); refine (Uca _).mono ?_; rintro e w6 ⟨rfl, e6⟩; replace B4 : Hid (Below w.heap.size w w6) := by rw [e6]; exact B4.out
               clear e6))
          go_ret
          exact ⟨rfl, B4.out⟩
        | false =>
          go_wp2_with (first
            | (go_at_call_of 14 (Value.string b); refine (Cba _).mono ?_; rintro e w5 ⟨rfl, d5⟩; replace B4 : Hid (Below w.heap.size w w5) := Below.drews B4.out d5; clear d5)
            | (go_at_call 14; refine (Caa _).mono ?_; rintro e w5 ⟨rfl, d5⟩; replace B4 : Hid (Below w.heap.size w w5) := Below.drews B4.out d5; clear d5)
            | (go_at_call_of 16 (Value.string c); refine (Uca _).mono ?_; rintro e w6 ⟨rfl, e6⟩; replace B4 : Hid (Below w.heap.size w w6) := by rw [e6]; exact B4.out
               clear e6))
          refine (Uab _).mono ?_
          rintro e w8 ⟨rfl, e8⟩
          replace B4 : Hid (Below w.heap.size w w8) := by rw [e8]; exact B4.out
          clear e8
          go_wp2_with (first
            | (go_at_call_of 14 (Value.string b); refine (Cba _).mono ?_; rintro e w5 ⟨rfl, d5⟩; replace B4 : Hid (Below w.heap.size w w5) := Below.drews B4.out d5; clear d5)
            | (go_at_call 14; refine (Caa _).mono ?_; rintro e w5 ⟨rfl, d5⟩; replace B4 : Hid (Below w.heap.size w w5) := Below.drews B4.out d5; clear d5)
            | (go_at_call_of 16 (Value.string c); refine (Uca _).mono ?_; rintro e w6 ⟨rfl, e6⟩; replace B4 : Hid (Below w.heap.size w w6) := by rw [e6]; exact B4.out
               clear e6))
          go_ret
          exact ⟨rfl, B4.out⟩
      | false =>
        cases q3 with
        | true =>
          go_wp2_with (first
            | (go_at_call_of 14 (Value.string b); refine (Cba _).mono ?_; rintro e w5 ⟨rfl, d5⟩; replace B4 : Hid (Below w.heap.size w w5) := Below.drews B4.out d5; clear d5)
            | (go_at_call 14; refine (Caa _).mono ?_; rintro e w5 ⟨rfl, d5⟩; replace B4 : Hid (Below w.heap.size w w5) := Below.drews B4.out d5; clear d5)
            | (go_at_call_of 16 (Value.string c); refine (Uca _).mono ?_; rintro e w6 ⟨rfl, e6⟩; replace B4 : Hid (Below w.heap.size w w6) := by rw [e6]; exact B4.out
               clear e6))
          refine (Uab _).mono ?_
          rintro e w8 ⟨rfl, e8⟩
          replace B4 : Hid (Below w.heap.size w w8) := by rw [e8]; exact B4.out
          clear e8
          go_wp2_with (first
            | (go_at_call_of 14 (Value.string b); refine (Cba _).mono ?_; rintro e w5 ⟨rfl, d5⟩; replace B4 : Hid (Below w.heap.size w w5) := Below.drews B4.out d5; clear d5)
            | (go_at_call 14; refine (Caa _).mono ?_; rintro e w5 ⟨rfl, d5⟩; replace B4 : Hid (Below w.heap.size w w5) := Below.drews B4.out d5; clear d5)
            | (go_at_call_of 16 (Value.string c); refine (Uca _).mono ?_; rintro e w6 ⟨rfl, e6⟩; replace B4 : Hid (Below w.heap.size w w6) := by rw [e6]; exact B4.out
               clear e6))
          go_ret
          exact ⟨rfl, B4.out⟩
        | false =>
          go_wp2_with (first
            | (go_at_call_of 14 (Value.string b); refine (Cba _).mono ?_; rintro e w5 ⟨rfl, d5⟩; replace B4 : Hid (Below w.heap.size w w5) := Below.drews B4.out d5; clear d5)
            | (go_at_call 14; refine (Caa _).mono ?_; rintro e w5 ⟨rfl, d5⟩; replace B4 : Hid (Below w.heap.size w w5) := Below.drews B4.out d5; clear d5)
            | (go_at_call_of 16 (Value.string c); refine (Uca _).mono ?_; rintro e w6 ⟨rfl, e6⟩; replace B4 : Hid (Below w.heap.size w w6) := by rw [e6]; exact B4.out
               clear e6))
          refine (Uab _).mono ?_
          rintro e w8 ⟨rfl, e8⟩
          replace B4 : Hid (Below w.heap.size w w8) := by rw [e8]; exact B4.out
          clear e8
          go_wp2_with (first
            | (go_at_call_of 14 (Value.string b); refine (Cba _).mono ?_; rintro e w5 ⟨rfl, d5⟩; replace B4 : Hid (Below w.heap.size w w5) := Below.drews B4.out d5; clear d5)
            | (go_at_call 14; refine (Caa _).mono ?_; rintro e w5 ⟨rfl, d5⟩; replace B4 : Hid (Below w.heap.size w w5) := Below.drews B4.out d5; clear d5)
            | (go_at_call_of 16 (Value.string c); refine (Uca _).mono ?_; rintro e w6 ⟨rfl, e6⟩; replace B4 : Hid (Below w.heap.size w w6) := by rw [e6]; exact B4.out
               clear e6))
          go_ret
          exact ⟨rfl, B4.out⟩
    · clear HZ
      cases q1 with
      | true =>
        cases q3 with
        | true =>
          go_wp2_with (first
            | (go_at_call_of 14 (Value.string b); refine (Cba _).mono ?_; rintro e w5 ⟨rfl, d5⟩; replace B4 : Hid (Below w.heap.size w w5) := Below.drews B4.out d5; clear d5)
            | (go_at_call 14; refine (Caa _).mono ?_; rintro e w5 ⟨rfl, d5⟩; replace B4 : Hid (Below w.heap.size w w5) := Below.drews B4.out d5; clear d5)
            | (go_at_call_of 16 (Value.string c); refine (Uca _).mono ?_; rintro e w6 ⟨rfl, e6⟩; replace B4 : Hid (Below w.heap.size w w6) := by rw [e6]; exact B4.out
               clear e6))
          refine (Uab _).mono ?_
          rintro e w8 ⟨rfl, e8⟩
          replace B4 : Hid (Below w.heap.size w w8) := by rw [e8]; exact B4.out
          clear e8
          go_wp2_with (first
            | (go_at_call_of 14 (Value.string b); refine (Cba _).mono ?_; rintro e w5 ⟨rfl, d5⟩; replace B4 : Hid (Below w.heap.size w w5) := Below.drews B4.out d5; clear d5)
            | (go_at_call 14; refine (Caa _).mono ?_; rintro e w5 ⟨rfl, d5⟩; replace B4 : Hid (Below w.heap.size w w5) := Below.drews B4.out d5; clear d5)
            | (go_at_call_of 16 (Value.string c); refine (Uca _).mono ?_; rintro e w6 ⟨rfl, e6⟩; replace B4 : Hid (Below w.heap.size w w6) := by rw [e6]; exact B4.out
               clear e6))
          go_ret
          exact ⟨rfl, B4.out⟩
        | false =>
          go_wp2_with (first
            | (go_at_call_of 14 (Value.string b); refine (Cba _).mono ?_; rintro e w5 ⟨rfl, d5⟩; replace B4 : Hid (Below w.heap.size w w5) := Below.drews B4.out d5; clear d5)
            | (go_at_call 14; refine (Caa _).mono ?_; rintro e w5 ⟨rfl, d5⟩; replace B4 : Hid (Below w.heap.size w w5) := Below.drews B4.out d5; clear d5)
            | (go_at_call_of 16 (Value.string c); refine (Uca _).mono ?_; rintro e w6 ⟨rfl, e6⟩; replace B4 : Hid (Below w.heap.size w w6) := by rw [e6]; exact B4.out
               clear e6))
          refine (Uab _).mono ?_
          rintro e w8 ⟨rfl, e8⟩
          replace B4 : Hid (Below w.heap.size w w8) := by rw [e8]; exact B4.out
          clear e8
          go_wp2_with (first
            | (go_at_call_of 14 (Value.string b); refine (Cba _).mono ?_; rintro e w5 ⟨rfl, d5⟩; replace B4 : Hid (Below w.heap.size w w5) := Below.drews B4.out d5; clear d5)
            | (go_at_call 14; refine (Caa _).mono ?_; rintro e w5 ⟨rfl, d5⟩; replace B4 : Hid (Below w.heap.size w w5) := Below.drews B4.out d5; clear d5)
            | (go_at_call_of 16 (Value.string c); refine (Uca _).mono ?_; rintro e w6 ⟨rfl, e6⟩; replace B4 : Hid (Below w.heap.size w w6) := by rw [e6]; exact B4.out
               clear e6))
          go_ret
          exact ⟨rfl, B4.out⟩
      | false =>
        cases q3 with
        | true =>
          go_wp2_with (first
            | (go_at_call_of 14 (Value.string b); refine (Cba _).mono ?_; rintro e w5 ⟨rfl, d5⟩; replace B4 : Hid (Below w.heap.size w w5) := Below.drews B4.out d5; clear d5)
            | (go_at_call 14; refine (Caa _).mono ?_; rintro e w5 ⟨rfl, d5⟩; replace B4 : Hid (Below w.heap.size w w5) := Below.drews B4.out d5; clear d5)
            | (go_at_call_of 16 (Value.string c); refine (Uca _).mono ?_; rintro e w6 ⟨rfl, e6⟩; replace B4 : Hid (Below w.heap.size w w6) := by rw [e6]; exact B4.out
               clear e6))
          refine (Uab _).mono ?_
          rintro e w8 ⟨rfl, e8⟩
          replace B4 : Hid (Below w.heap.size w w8) := by rw [e8]; exact B4.out
          clear e8
          go_wp2_with (first
            | (go_at_call_of 14 (Value.string b); refine (Cba _).mono ?_; rintro e w5 ⟨rfl, d5⟩; replace B4 : Hid (Below w.heap.size w w5) := Below.drews B4.out d5; clear d5)
            | (go_at_call 14; refine (Caa _).mono ?_; rintro e w5 ⟨rfl, d5⟩; replace B4 : Hid (Below w.heap.size w w5) := Below.drews B4.out d5; clear d5)
            | (go_at_call_of 16 (Value.string c); refine (Uca _).mono ?_; rintro e w6 ⟨rfl, e6⟩; replace B4 : Hid (Below w.heap.size w w6) := by rw [e6]; exact B4.out
               clear e6))
          go_ret
          exact ⟨rfl, B4.out⟩
        | false =>
          go_wp2_with (first
            | (go_at_call_of 14 (Value.string b); refine (Cba _).mono ?_; rintro e w5 ⟨rfl, d5⟩; replace B4 : Hid (Below w.heap.size w w5) := Below.drews B4.out d5; clear d5)
            | (go_at_call 14; refine (Caa _).mono ?_; rintro e w5 ⟨rfl, d5⟩; replace B4 : Hid (Below w.heap.size w w5) := Below.drews B4.out d5; clear d5)
            | (go_at_call_of 16 (Value.string c); refine (Uca _).mono ?_; rintro e w6 ⟨rfl, e6⟩; replace B4 : Hid (Below w.heap.size w w6) := by rw [e6]; exact B4.out
               clear e6))
          refine (Uab _).mono ?_
          rintro e w8 ⟨rfl, e8⟩
          replace B4 : Hid (Below w.heap.size w w8) := by rw [e8]; exact B4.out
          clear e8
          go_wp2_with (first
            | (go_at_call_of 14 (Value.string b); refine (Cba _).mono ?_; rintro e w5 ⟨rfl, d5⟩; replace B4 : Hid (Below w.heap.size w w5) := Below.drews B4.out d5; clear d5)
            | (go_at_call 14; refine (Caa _).mono ?_; rintro e w5 ⟨rfl, d5⟩; replace B4 : Hid (Below w.heap.size w w5) := Below.drews B4.out d5; clear d5)
            | (go_at_call_of 16 (Value.string c); refine (Uca _).mono ?_; rintro e w6 ⟨rfl, e6⟩; replace B4 : Hid (Below w.heap.size w w6) := by rw [e6]; exact B4.out
               clear e6))
          go_ret
          exact ⟨rfl, B4.out⟩
  · have hab2 : (a.toList == b.toList) = false := by rw [hab]; rfl
    clear HU2 hab HU1 HZ
    cases q1 with
    | true =>
      cases q3 with
      | true =>
        go_wp2_with (first
          | (go_at_call_of 14 (Value.string b); refine (Cba _).mono ?_; rintro e w5 ⟨rfl, d5⟩; replace B4 : Hid (Below w.heap.size w w5) := Below.drews B4.out d5; clear d5)
          | (go_at_call 14; refine (Caa _).mono ?_; rintro e w5 ⟨rfl, d5⟩; replace B4 : Hid (Below w.heap.size w w5) := Below.drews B4.out d5; clear d5)
          | (go_at_call_of 16 (Value.string c); refine (Uca _).mono ?_; rintro e w6 ⟨rfl, e6⟩; replace B4 : Hid (Below w.heap.size w w6) := by rw [e6]; exact B4.out
             clear e6))
        refine (Uab _).mono ?_
        rintro e w8 ⟨rfl, e8⟩
        replace B4 : Hid (Below w.heap.size w w8) := by rw [e8]; exact B4.out
        clear e8
        go_wp2_with (first
          | (go_at_call_of 14 (Value.string b); refine (Cba _).mono ?_; rintro e w5 ⟨rfl, d5⟩; replace B4 : Hid (Below w.heap.size w w5) := Below.drews B4.out d5; clear d5)
          | (go_at_call 14; refine (Caa _).mono ?_; rintro e w5 ⟨rfl, d5⟩; replace B4 : Hid (Below w.heap.size w w5) := Below.drews B4.out d5; clear d5)
          | (go_at_call_of 16 (Value.string c); refine (Uca _).mono ?_; rintro e w6 ⟨rfl, e6⟩; replace B4 : Hid (Below w.heap.size w w6) := by rw [e6]; exact B4.out
             clear e6))
        go_ret
        exact ⟨rfl, B4.out⟩
      | false =>
        go_wp2_with (first
          | (go_at_call_of 14 (Value.string b); refine (Cba _).mono ?_; rintro e w5 ⟨rfl, d5⟩; replace B4 : Hid (Below w.heap.size w w5) := Below.drews B4.out d5; clear d5)
          | (go_at_call 14; refine (Caa _).mono ?_; rintro e w5 ⟨rfl, d5⟩; replace B4 : Hid (Below w.heap.size w w5) := Below.drews B4.out d5; clear d5)
          | (go_at_call_of 16 (Value.string c); refine (Uca _).mono ?_; rintro e w6 ⟨rfl, e6⟩; replace B4 : Hid (Below w.heap.size w w6) := by rw [e6]; exact B4.out
             clear e6))
        refine (Uab _).mono ?_
        rintro e w8 ⟨rfl, e8⟩
        replace B4 : Hid (Below w.heap.size w w8) := by rw [e8]; exact B4.out
        clear e8
        go_wp2_with (first
          | (go_at_call_of 14 (Value.string b); refine (Cba _).mono ?_; rintro e w5 ⟨rfl, d5⟩; replace B4 : Hid (Below w.heap.size w w5) := Below.drews B4.out d5; clear d5)
          | (go_at_call 14; refine (Caa _).mono ?_; rintro e w5 ⟨rfl, d5⟩; replace B4 : Hid (Below w.heap.size w w5) := Below.drews B4.out d5; clear d5)
          | (go_at_call_of 16 (Value.string c); refine (Uca _).mono ?_; rintro e w6 ⟨rfl, e6⟩; replace B4 : Hid (Below w.heap.size w w6) := by rw [e6]; exact B4.out
             clear e6))
        go_ret
        exact ⟨rfl, B4.out⟩
    | false =>
      cases q3 with
      | true =>
        go_wp2_with (first
          | (go_at_call_of 14 (Value.string b); refine (Cba _).mono ?_; rintro e w5 ⟨rfl, d5⟩; replace B4 : Hid (Below w.heap.size w w5) := Below.drews B4.out d5; clear d5)
          | (go_at_call 14; refine (Caa _).mono ?_; rintro e w5 ⟨rfl, d5⟩; replace B4 : Hid (Below w.heap.size w w5) := Below.drews B4.out d5; clear d5)
          | (go_at_call_of 16 (Value.string c); refine (Uca _).mono ?_; rintro e w6 ⟨rfl, e6⟩; replace B4 : Hid (Below w.heap.size w w6) := by rw [e6]; exact B4.out
             clear e6))
        refine (Uab _).mono ?_
        rintro e w8 ⟨rfl, e8⟩
        replace B4 : Hid (Below w.heap.size w w8) := by rw [e8]; exact B4.out
        clear e8
        go_wp2_with (first
          | (go_at_call_of 14 (Value.string b); refine (Cba _).mono ?_; rintro e w5 ⟨rfl, d5⟩; replace B4 : Hid (Below w.heap.size w w5) := Below.drews B4.out d5; clear d5)
          | (go_at_call 14; refine (Caa _).mono ?_; rintro e w5 ⟨rfl, d5⟩; replace B4 : Hid (Below w.heap.size w w5) := Below.drews B4.out d5; clear d5)
          | (go_at_call_of 16 (Value.string c); refine (Uca _).mono ?_; rintro e w6 ⟨rfl, e6⟩; replace B4 : Hid (Below w.heap.size w w6) := by rw [e6]; exact B4.out
             clear e6))
        go_ret
        exact ⟨rfl, B4.out⟩
      | false =>
        go_wp2_with (first
          | (go_at_call_of 14 (Value.string b); refine (Cba _).mono ?_; rintro e w5 ⟨rfl, d5⟩; replace B4 : Hid (Below w.heap.size w w5) := Below.drews B4.out d5; clear d5)
          | (go_at_call 14; refine (Caa _).mono ?_; rintro e w5 ⟨rfl, d5⟩; replace B4 : Hid (Below w.heap.size w w5) := Below.drews B4.out d5; clear d5)
          | (go_at_call_of 16 (Value.string c); refine (Uca _).mono ?_; rintro e w6 ⟨rfl, e6⟩; replace B4 : Hid (Below w.heap.size w w6) := by rw [e6]; exact B4.out
             clear e6))
        refine (Uab _).mono ?_
        rintro e w8 ⟨rfl, e8⟩
        replace B4 : Hid (Below w.heap.size w w8) := by rw [e8]; exact B4.out
        clear e8
        go_wp2_with (first
          | (go_at_call_of 14 (Value.string b); refine (Cba _).mono ?_; rintro e w5 ⟨rfl, d5⟩; replace B4 : Hid (Below w.heap.size w w5) := Below.drews B4.out d5; clear d5)
          | (go_at_call 14; refine (Caa _).mono ?_; rintro e w5 ⟨rfl, d5⟩; replace B4 : Hid (Below w.heap.size w w5) := Below.drews B4.out d5; clear d5)
          | (go_at_call_of 16 (Value.string c); refine (Uca _).mono ?_; rintro e w6 ⟨rfl, e6⟩; replace B4 : Hid (Below w.heap.size w w6) := by rw [e6]; exact B4.out
             clear e6))
        go_ret
        exact ⟨rfl, B4.out⟩

set_option maxHeartbeats 400000 in
set_option maxRecDepth 100000 in
theorem long (a b c : ByteArray) (w : World) (h : 20000 < a.size ∨ 20000 < b.size ∨ 20000 < c.size) :
    Calls Try.prog 5 #[.string a, .string b, .string c] w fun e w' => e = .returned (.bool true) ∧ Below w.heap.size w w' := by
  have CK := known_any w
  by_cases h1 : 20000 < a.size
  · have i1 : (20000 : Int) < (a.size : Int) := by omega
    go_enter Try.func5, Try.ntmps5
    go_wp2_with (go_at_call 18; refine CK.mono ?_; rintro e w1 ⟨rfl, b1⟩)
    go_ret
    exact ⟨rfl, b1⟩
  · have i1 : ¬ ((20000 : Int) < (a.size : Int)) := by omega
    by_cases h2 : 20000 < b.size
    · have i2 : (20000 : Int) < (b.size : Int) := by omega
      go_enter Try.func5, Try.ntmps5
      go_wp2_with (go_at_call 18; refine CK.mono ?_; rintro e w1 ⟨rfl, b1⟩)
      go_ret
      exact ⟨rfl, b1⟩
    · have i2 : ¬ ((20000 : Int) < (b.size : Int)) := by omega
      have i3 : (20000 : Int) < (c.size : Int) := by omega
      go_enter Try.func5, Try.ntmps5
      go_wp2_with (go_at_call 18; refine CK.mono ?_; rintro e w1 ⟨rfl, b1⟩)
      go_ret
      exact ⟨rfl, b1⟩

theorem walk (a b c : ByteArray) (w : World) (_ : a.size ≤ maxLen) (_ : b.size ≤ maxLen) (_ : c.size ≤ maxLen) :
    Calls Try.prog 5 #[.string a, .string b, .string c] w fun e w' => e = .returned (.bool true) ∧ Below w.heap.size w w' := by
  by_cases h : 20000 < a.size ∨ 20000 < b.size ∨ 20000 < c.size
  · exact long a b c w h
  · exact short a b c w (by omega) (by omega) (by omega)
set_option maxRecDepth 100000 in
theorem contract (H : Type) (enc : TypeId × Value → H) (W : World) (base : Nat) (args : Array Value) (ds gs : List (DataW H)) (before : List MemPlace)
    (hval : ∀ (j : Nat) t v, Try.f5.params[j]? = some t → args[j]? = some v → Value.okWide Try.prog W .any base t v)
    (hW : DataW.Whole enc Try.prog Try.f5.params.toList Rows.pathOrderSpec.vars false W args.toList ds gs before) :
    Calls Try.prog 5 args W fun e W' => ∃ v, e = .returned v ∧ Rows.pathOrderSpec.post enc Try.prog Try.f5 false true false false W args v W' := by
  have hW' := hW
  obtain ⟨p, q, hA0, hV, rfl, hfz, hnd⟩ := hW
  have hA : DataW.TrodAll enc Try.prog W 0 (fun _ => true) true Try.f5.params.toList args.toList ds p := hA0
  rw [Try.params5] at hA hval
  obtain ⟨v0, vs0, d0, ds0, p0, q0, hargs, rfl, rfl, h0, r0⟩ := trodAll_cons hA
  obtain ⟨v1, vs1, d1, ds1, p1, q1, rfl, rfl, rfl, h1, r1⟩ := trodAll_cons r0
  obtain ⟨v2, vs2, d2, ds2, p2, q2, rfl, rfl, rfl, h2, r2⟩ := trodAll_cons r1
  obtain ⟨rfl, rfl, rfl⟩ := trodAll_nil r2
  obtain rfl : args = #[v0, v1, v2] := by cases args; simp_all
  obtain ⟨rfl, rfl⟩ := trodVars_none hV
  obtain ⟨a0, rfl, rfl, rfl, w0⟩ := open_string Try.underlying9 (hval 0 9 v0 rfl rfl) h0
  obtain ⟨a1, rfl, rfl, rfl, w1⟩ := open_string Try.underlying9 (hval 1 9 v1 rfl rfl) h1
  obtain ⟨a2, rfl, rfl, rfl, w2⟩ := open_string Try.underlying9 (hval 2 9 v2 rfl rfl) h2
  clear hA0
  refine (walk a0 a1 a2 W w0 w1 w2).mono fun e W' ⟨he, bel⟩ => ?_
  subst he
  exact ⟨_, rfl, _, _, _, [], _, [], hW', trodAll_mk1 (shut_bool Try.underlying4 _), (trodAll_cons_mk (shut_string Try.underlying9 w0) (trodAll_cons_mk (shut_string Try.underlying9 w1) (trodAll_cons_mk (shut_string Try.underlying9 w2) trodAll_mk0))), rfl, bel.frame _, fun h => by cases h⟩

noncomputable def aWorld (os : Os) : World := World.holding Try.prog os ⟨#[], #[], []⟩
theorem laid_met (os : Os) : laidMetH Try.prog Rows.pathOrderRow.laid ((aWorld os).forCall (fun _ _ => 0) ⟨#[], #[.string ByteArray.empty, .string ByteArray.empty, .string ByteArray.empty], []⟩).memory :=
  laidMetH_of_parts (laidMet_nil _ _) (by kernel_rfl)
theorem reads (os : Os) {H : Type} (enc : TypeId × Value → H) : ∃ places, DataW.whole enc Try.prog ((aWorld os).forCall (fun _ _ => 0) ⟨#[], #[.string ByteArray.empty, .string ByteArray.empty, .string ByteArray.empty], []⟩).memory Try.f5.params.toList Rows.pathOrderSpec.vars false #[Value.string ByteArray.empty, .string ByteArray.empty, .string ByteArray.empty].toList 8 = some ([.lit (.string []), .lit (.string []), .lit (.string [])], [], places) :=
  ⟨[], by kernel_rfl⟩

set_option maxRecDepth 100000 in
theorem lifted (os : Os) (started : os.Started) (H : Type) (enc : TypeId × Value → H) (F : Stop.Interp) :
    ReturnsInHanded {} Try.checked os 5 .any ((OpenSpec.ofChange Rows.pathOrderSpec).preRow enc Try.prog Try.f5 Rows.pathOrderRow.domain false Rows.pathOrderRow.laid) (((OpenSpec.ofChange Rows.pathOrderSpec).at F).post enc Try.prog Try.f5 false true false false) := by
  obtain ⟨places, hx⟩ := reads os enc
  refine returnsInHanded_of_row (C := Try.checked) (s := OpenSpec.ofChange Rows.pathOrderSpec) own started (by kernel_rfl) Try.func5
    (witness_row_at (enc := enc) (C := Try.checked) false (aWorld os) #[.string ByteArray.empty, .string ByteArray.empty, .string ByteArray.empty] rfl (by kernel_rfl) (by kernel_rfl) (by kernel_rfl)
      (OpenSpec.preRow_of_cond 8 hx (by kernel_rfl) (fun k hk => by cases hk) (by kernel_rfl) (laid_met os))) ?_
  intro W base args ds gs before hval hW _ _ _ hL _ _
  exact contract H enc W base args ds gs before hval hW

theorem said : Rows.PathOrderSaid :=
  OpenClaim.holds_of_cond 5 Try.f5 rfl rfl rfl rfl rfl rfl rfl ⟨rfl, rfl, rfl, rfl, rfl⟩ rfl rfl rfl rfl rfl (by kernel_rfl) Try.func5 (by kernel_rfl)
    (of_decide_eq_true (by kernel_rfl)) (by unfold Func.isWrapper; first | (rw [if_pos (by decide +kernel)]; kernel_rfl) | (rw [if_neg (by decide +kernel)]; exact ⟨rfl, rfl⟩))
    (fun os started H enc _ F => by rw [OpenClaim.pre_eq_preRow]; exact lifted os started H enc F)
end Go.Proofs.Ytadkdjgffnpgcaa.OrderR
namespace Go.Proofs.Ytadkdjgffnpgcaa
theorem pathOrder_holds : Rows.PathOrderSaid := OrderR.said
#print axioms pathOrder_holds
end Go.Proofs.Ytadkdjgffnpgcaa
