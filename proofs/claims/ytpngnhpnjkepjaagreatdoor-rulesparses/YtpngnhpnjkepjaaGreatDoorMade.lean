/-
  path.made: signs against things.
-/
import Derived.Test.YtpngnhpnjkepjaaGreatDoorFit
import Derived.Test.YtpngnhpnjkepjaaGreatDoorTexts
namespace Go.Proofs.YtpngnhpnjkepjaaGreatDoor
open Go.RowKit

def backI (b : Option Nat) : Int := match b with | none => -1 | some b => b
@[simp] theorem backI_none : backI none = -1 := rfl
@[simp] theorem backI_some (b : Nat) : backI (some b) = (b : Int) := rfl
/-- what falls -/
def muM (n T s t frm : Nat) : Nat := (T - frm) * ((T + 2) * (n + 2)) + (T - t) * (n + 2) + (n - s)
theorem mu_star {n T s t frm : Nat} (hs : s < n) (hf : frm ≤ t) : muM n T (s + 1) t t < muM n T s t frm := by
  unfold muM
  have h1 : (T - t) * ((T + 2) * (n + 2)) ≤ (T - frm) * ((T + 2) * (n + 2)) := Nat.mul_le_mul_right _ (by omega)
  omega
theorem mu_one {n T s t z frm : Nat} (ht : t < T) : muM n T (s + z) (t + 1) frm < muM n T s t frm := by
  unfold muM
  have h1 : (T - t) * (n + 2) = (T - (t + 1)) * (n + 2) + (n + 2) := by
    rw [show T - t = (T - (t + 1)) + 1 from by omega, Nat.add_mul, Nat.one_mul]
  generalize (T - frm) * ((T + 2) * (n + 2)) = a
  omega
theorem mu_back {n T s t b frm : Nat} (hf : frm < T) : muM n T b (frm + 1) (frm + 1) < muM n T s t frm := by
  unfold muM
  have h1 : (T - frm) * ((T + 2) * (n + 2)) = (T - (frm + 1)) * ((T + 2) * (n + 2)) + (T + 2) * (n + 2) := by
    rw [show T - frm = (T - (frm + 1)) + 1 from by omega, Nat.add_mul, Nat.one_mul]
  have h2 : (T - (frm + 1)) * (n + 2) ≤ T * (n + 2) := Nat.mul_le_mul_right _ (by omega)
  have h3 : (T + 2) * (n + 2) = T * (n + 2) + 2 * (n + 2) := Nat.add_mul _ _ _
  generalize (T - (frm + 1)) * ((T + 2) * (n + 2)) = a at *
  generalize (T + 2) * (n + 2) = c at *
  generalize (T - (frm + 1)) * (n + 2) = d at *
  generalize T * (n + 2) = e at *
  generalize (T - t) * (n + 2) = f at *
  omega

set_option maxHeartbeats 2000000 in
set_option maxRecDepth 100000 in
theorem made71_any {α β : Type} {ok : β → α → Bool} {n : Nat} {things : List α} {many : Nat → Bool} {one : Nat → Nat → Nat} (S : Signs α β ok n things many one) (p1 p2 : Addr) (w : World) (hn : n ≤ 1048577) (hT : things.length ≤ 1048577) (hw : ∀ s t, one s t ≤ 2)
    (CM : ∀ (W : World) (s : Nat), Below w.heap.size w W → s < n → Calls Tryz.prog 155 #[.int .i64 s, .pointer (some p1)] W fun e w' => e = .returned (.bool (many s)) ∧ w' = W)
    (CO : ∀ (W : World) (s t : Nat), Below w.heap.size w W → S.V s → s < n → many s = false → t < things.length → Calls Tryz.prog 156 #[.int .i64 s, .int .i64 t, .pointer (some p1), .pointer (some p2)] W fun e w' => e = .returned (.int .i64 (one s t)) ∧ Below W.heap.size W w') :
    Calls Tryz.prog 141 #[.int .i64 n, .int .i64 (things.length : Nat), .func (.func 155) #[] #[.pointer (some p1)], .func (.func 156) #[] #[.pointer (some p1), .pointer (some p2)]] w
      fun e w' => e = .returned (.bool (fitG ok (S.sg 0) things)) ∧ Below w.heap.size w w' := by
  obtain ⟨tn, htn⟩ : ∃ tn, things.length = tn := ⟨_, rfl⟩
  have HTN : Hid (things.length = tn) := htn
  rw [htn] at hT CO ⊢
  clear htn
  go_enter Tryz.func141, Tryz.ntmps141
  go_wp2
  go_loopw [9, 10, 11, 12] (fun x9 x10 x11 x12 wr => ∃ (s t : Nat) (back : Option Nat) (frm : Nat), x9 = .int .i64 s ∧ x10 = .int .i64 t ∧ x11 = .int .i64 (backI back) ∧ x12 = .int .i64 frm ∧ Hid (S.Rel s t back frm) ∧ Hid (Below w.heap.size w wr)) (fun x9 x10 _ x12 _ => muM n tn (iOf x9) (iOf x10) (iOf x12))
  case atStart => exact ⟨0, 0, none, 0, rfl, rfl, rfl, rfl, S.rel0, Below.refl _ _⟩
  case round =>
    obtain ⟨s, t, back, frm, rfl, rfl, rfl, rfl, HR, HB⟩ := hrel
    have hsn : s ≤ n := S.le s HR.out.1
    have htT : t ≤ tn := by rw [← HTN.out]; exact HR.out.2.1
    have hft : frm ≤ t := HR.out.2.2.1
    by_cases ht : t < tn
    · have iT : (t : Int) < (tn : Int) := by omega
      by_cases hs : s < n
      · have iS : (s : Int) < (n : Int) := by omega
        have C1 := CM wr s HB.out hs
        by_cases hm : many s = true
        · rw [hm] at C1
          have HR2 : Hid (S.Rel (s + 1) t (some (s + 1)) t) := S.step_star HR.out hs hm
          have HMU : Hid (muM n tn (s + 1) t t < muM n tn s t frm) := mu_star hs hft
          clear hm
          go_wp2_with (go_at_call 155; refine C1.mono ?_; rintro e w1 ⟨rfl, rfl⟩)
          go_roundw
          case rel => exact ⟨s + 1, t, some (s + 1), t, by go_num, rfl, by go_num, rfl, HR2, HB⟩
          case measure => simpa using HMU.out
        · rw [Bool.not_eq_true] at hm
          rw [hm] at C1
          have C2 := CO wr s t HB.out HR.out.1 hs hm ht
          have hw2 := hw s t
          by_cases ho : 0 < one s t
          · have HR2 : Hid (S.Rel (s + one s t) (t + 1) back frm) := S.step_one HR.out hs (by rw [HTN.out]; exact ht) hm ho
            have HMU : Hid (muM n tn (s + one s t) (t + 1) frm < muM n tn s t frm) := mu_one ht
            have iO : (0 : Int) < (one s t : Int) := by omega
            clear hm
            generalize one s t = z at *
            go_wp2_with (first
              | (go_at_call 155; refine C1.mono ?_; rintro e w1 ⟨rfl, rfl⟩)
              | (go_at_call 156; refine C2.mono ?_; rintro e w1 ⟨rfl, b1⟩))
            have HB2 : Hid (Below w.heap.size w w1) := Below.up HB.out b1
            go_roundw
            case rel => exact ⟨s + z, t + 1, back, frm, by go_num, by go_num, rfl, rfl, HR2, HB2⟩
            case measure =>
              have e1 : ((s : Int) + (z : Int)).toNat = s + z := by omega
              simp only [iOf_int, e1]
              simpa using HMU.out
          · have hz : one s t = 0 := by omega
            rw [hz] at C2
            have HN : Hid (¬ s < n ∨ many s = false ∧ one s t = 0) := .inr ⟨hm, hz⟩
            clear hm hz ho hw2
            cases back with
            | none =>
              have HF : Hid (fitG ok (S.sg 0) things = false) := by
                show _ = _
                rw [Bool.eq_false_iff]
                exact S.step_no HR.out (by rw [HTN.out]; exact ht) HN.out
              go_wp2_with (first
                | (go_at_call 155; refine C1.mono ?_; rintro e w1 ⟨rfl, rfl⟩)
                | (go_at_call 156; refine C2.mono ?_; rintro e w1 ⟨rfl, b1⟩))
              go_ret
              exact ⟨by rw [HF.out]; rfl, Below.up HB.out b1⟩
            | some b =>
              have HR2 : Hid (S.Rel b (frm + 1) (some b) (frm + 1)) := S.step_back HR.out (by rw [HTN.out]; exact ht) HN.out
              have HMU : Hid (muM n tn b (frm + 1) (frm + 1) < muM n tn s t frm) := mu_back (by omega)
              have ib : ¬ ((b : Int) < 0) := by omega
              go_wp2_with (first
                | (go_at_call 155; refine C1.mono ?_; rintro e w1 ⟨rfl, rfl⟩)
                | (go_at_call 156; refine C2.mono ?_; rintro e w1 ⟨rfl, b1⟩))
              have HB2 : Hid (Below w.heap.size w w1) := Below.up HB.out b1
              go_roundw
              case rel => exact ⟨b, frm + 1, some b, frm + 1, rfl, by go_num, rfl, by go_num, HR2, HB2⟩
              case measure => simpa using HMU.out
      · have iS : ¬ ((s : Int) < (n : Int)) := by omega
        have HN : Hid (¬ s < n ∨ many s = false ∧ one s t = 0) := .inl hs
        cases back with
        | none =>
          have HF : Hid (fitG ok (S.sg 0) things = false) := by
            show _ = _
            rw [Bool.eq_false_iff]
            exact S.step_no HR.out (by rw [HTN.out]; exact ht) HN.out
          go_wp2
          go_ret
          exact ⟨by rw [HF.out]; rfl, HB.out⟩
        | some b =>
          have HR2 : Hid (S.Rel b (frm + 1) (some b) (frm + 1)) := S.step_back HR.out (by rw [HTN.out]; exact ht) HN.out
          have HMU : Hid (muM n tn b (frm + 1) (frm + 1) < muM n tn s t frm) := mu_back (by omega)
          have ib : ¬ ((b : Int) < 0) := by omega
          go_wp2
          go_roundw
          case rel => exact ⟨b, frm + 1, some b, frm + 1, rfl, by go_num, rfl, by go_num, HR2, HB⟩
          case measure => simpa using HMU.out
    · have iT : ¬ ((t : Int) < (tn : Int)) := by omega
      have HE : Hid (S.V s ∧ (S.Ans ↔ S.G s things.length)) := by
        refine S.rel_end (frm := frm) (back := back) ?_
        rw [HTN.out, show tn = t from by omega]; exact HR.out
      clear HR hft
      go_wp2
      go_loopw [9] (fun x9 wq => ∃ s : Nat, x9 = .int .i64 s ∧ wq = wr ∧ Hid (S.V s ∧ (S.Ans ↔ S.G s things.length))) (fun x9 _ => n - iOf x9)
      case atStart => exact ⟨s, rfl, rfl, HE⟩
      case round =>
        obtain ⟨s, rfl, rfl, HE⟩ := hrel
        have hsn : s ≤ n := S.le s HE.out.1
        by_cases hs : s < n
        · have iS : (s : Int) < (n : Int) := by omega
          have C1 := CM _ s HB.out hs
          by_cases hm : many s = true
          · rw [hm] at C1
            have HE2 : Hid (S.V (s + 1) ∧ (S.Ans ↔ S.G (s + 1) things.length)) := S.end_star HE.out hs hm
            clear hm
            go_wp2_with (go_at_call 155; refine C1.mono ?_; rintro e w1 ⟨rfl, e1⟩; subst e1)
            go_roundw
            case rel => exact ⟨s + 1, by go_num, by first | trivial | rfl, HE2⟩
            case measure => simp; omega
          · rw [Bool.not_eq_true] at hm
            rw [hm] at C1
            have HF : Hid (fitG ok (S.sg 0) things = false) := by
              show _ = _
              rw [Bool.eq_false_iff]
              intro q
              have := (S.end_done HE.out (.inr hm)).1 q
              omega
            have iq : ((s : Int) == (n : Int)) = false := by simp; omega
            clear hm
            go_wp2_with (go_at_call 155; refine C1.mono ?_; rintro e w1 ⟨rfl, e1⟩; subst e1)
            go_ret
            exact ⟨by rw [HF.out]; rfl, HB.out⟩
        · have iS : ¬ ((s : Int) < (n : Int)) := by omega
          have HF : Hid (fitG ok (S.sg 0) things = true) := (S.end_done HE.out (.inl hs)).2 (by omega)
          have iq : ((s : Int) == (n : Int)) = true := by simp; omega
          go_wp2
          go_ret
          exact ⟨by rw [HF.out]; rfl, HB.out⟩
end Go.Proofs.YtpngnhpnjkepjaaGreatDoor
