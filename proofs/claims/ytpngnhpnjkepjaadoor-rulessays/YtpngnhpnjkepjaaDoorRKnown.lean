/-
  What the chapter's first example comes to, in Lean alone.
-/
import Derived.Test.YtpngnhpnjkepjaaDoorRSame
namespace Go.Proofs.YtpngnhpnjkepjaaDoor
open Go.RowKit

def K1 : By := [115, 107, 105, 112, 32, 42, 46, 111, 10, 10, 35, 32, 109, 105, 110, 101, 10, 112, 114, 101, 102, 101, 114, 32, 97, 32, 47, 100, 111, 99, 47, 42, 42, 10, 112, 114, 101, 102, 101, 114, 32, 98, 32, 42, 46, 109, 100]
def L0 : List Ru := [(1, [42, 46, 111]), (2, [47, 100, 111, 99, 47, 42, 42]), (3, [42, 46, 109, 100])]
theorem k_parse : parseR K1 = (some L0, 0, 0) := by decide +kernel
theorem k_wrong : parseR [10, 112, 114, 101, 102, 101, 114, 32, 99, 32, 120] = (none, 2, 112) := by decide +kernel
theorem k_s1 : skipR L0 [120, 47, 121, 46, 111] = true := by decide +kernel
theorem k_s2 : skipR L0 [120, 47, 121, 46, 111, 47, 122] = true := by decide +kernel
theorem k_s3 : skipR L0 [120] = false := by decide +kernel
theorem k_s4 : skipR L0 [] = false := by decide +kernel
theorem k_p1 : prefR L0 [100, 111, 99, 47, 97, 46, 116, 120, 116] = 1 := by decide +kernel
theorem k_p2 : prefR L0 [100, 111, 99, 47, 97, 46, 109, 100] = 2 := by decide +kernel
theorem k_p3 : prefR L0 [120, 47, 97, 46, 109, 100] = 2 := by decide +kernel
theorem k_p4 : prefR L0 [120] = 0 := by decide +kernel
theorem k_text : textR L0 = [115, 107, 105, 112, 32, 42, 46, 111, 10, 112, 114, 101, 102, 101, 114, 32, 97, 32, 47, 100, 111, 99, 47, 42, 42, 10, 112, 114, 101, 102, 101, 114, 32, 98, 32, 42, 46, 109, 100] := by decide +kernel
theorem k_short : ShortR L0 := by unfold ShortR L0; simp
/-- rules that stand, in a world that has grown -/
def RuQ (w W : World) (p : Nat) (L : List Ru) : Prop := IsRules W p L ∧ Below w.heap.size w W
theorem RuQ.up {w W W' : World} {p : Nat} {L : List Ru} (h : Hid (RuQ w W p L)) (hg : Below W.heap.size W W') : Hid (RuQ w W' p L) := ⟨h.out.1.up hg, Below.up h.out.2 hg⟩
theorem kP1 (w : World) : Calls Tryd.prog 11 #[.string ⟨#[115, 107, 105, 112, 32, 42, 46, 111, 10, 10, 35, 32, 109, 105, 110, 101, 10, 112, 114, 101, 102, 101, 114, 32, 97, 32, 47, 100, 111, 99, 47, 42, 42, 10, 112, 114, 101, 102, 101, 114, 32, 98, 32, 42, 46, 109, 100]⟩] w fun e w' => ∃ p, e = .returned (.tuple #[.pointer (some ⟨p, 0, none⟩), .int .i64 0, .int .i64 0]) ∧ Hid (RuQ w w' p L0) := by
  have h := parse_any (ofB K1) w (by rw [ofB_size]; decide)
  unfold ParseRes at h
  rw [tl_ofB, k_parse] at h
  exact h
theorem kP2 (w W : World) (p : Nat) (h : Hid (RuQ w W p L0)) : Calls Tryd.prog 11 #[.string ⟨#[10, 112, 114, 101, 102, 101, 114, 32, 99, 32, 120]⟩] W fun e w' => e = .returned (.tuple #[.pointer none, .int .i64 2, .int .i64 112]) ∧ Hid (RuQ w w' p L0) := by
  have h2 := parse_any (ofB [10, 112, 114, 101, 102, 101, 114, 32, 99, 32, 120]) W (by rw [ofB_size]; decide)
  unfold ParseRes at h2
  rw [tl_ofB, k_wrong] at h2
  exact h2.mono fun e w' h3 => ⟨h3.1, RuQ.up h h3.2⟩
theorem kS1 : skipR L0 (tl ⟨#[120, 47, 121, 46, 111]⟩) = true := (congrArg (skipR L0) (tl_ofB [120, 47, 121, 46, 111])).trans k_s1
theorem kS2 : skipR L0 (tl ⟨#[120, 47, 121, 46, 111, 47, 122]⟩) = true := (congrArg (skipR L0) (tl_ofB [120, 47, 121, 46, 111, 47, 122])).trans k_s2
theorem kS3 : skipR L0 (tl ⟨#[120]⟩) = false := (congrArg (skipR L0) (tl_ofB [120])).trans k_s3
theorem kS4 : skipR L0 (tl ⟨#[]⟩) = false := (congrArg (skipR L0) (tl_ofB [])).trans k_s4
theorem kQ1 : ((prefR L0 (tl ⟨#[100, 111, 99, 47, 97, 46, 116, 120, 116]⟩) : Nat) : Int) = 1 := congrArg Nat.cast ((congrArg (prefR L0) (tl_ofB [100, 111, 99, 47, 97, 46, 116, 120, 116])).trans k_p1)
theorem kQ2 : ((prefR L0 (tl ⟨#[100, 111, 99, 47, 97, 46, 109, 100]⟩) : Nat) : Int) = 2 := congrArg Nat.cast ((congrArg (prefR L0) (tl_ofB [100, 111, 99, 47, 97, 46, 109, 100])).trans k_p2)
theorem kQ3 : ((prefR L0 (tl ⟨#[120, 47, 97, 46, 109, 100]⟩) : Nat) : Int) = 2 := congrArg Nat.cast ((congrArg (prefR L0) (tl_ofB [120, 47, 97, 46, 109, 100])).trans k_p3)
theorem kQ4 : ((prefR L0 (tl ⟨#[120]⟩) : Nat) : Int) = 0 := congrArg Nat.cast ((congrArg (prefR L0) (tl_ofB [120])).trans k_p4)
theorem kS (w W : World) (p : Nat) (b : ByteArray) (h : Hid (RuQ w W p L0)) (hb : b.size ≤ 1048576) : Calls Tryd.prog 14 #[.pointer (some ⟨p, 0, none⟩), .string b] W fun e w' => e = .returned (.bool (skipR L0 (tl b))) ∧ Hid (RuQ w w' p L0) :=
  (skip_any p L0 b W h.out.1 k_short hb).mono fun _ _ h3 => ⟨h3.1, RuQ.up h h3.2⟩
theorem kQ (w W : World) (p : Nat) (b : ByteArray) (h : Hid (RuQ w W p L0)) (hb : b.size ≤ 1048576) : Calls Tryd.prog 16 #[.pointer (some ⟨p, 0, none⟩), .string b] W fun e w' => e = .returned (.int .i64 (prefR L0 (tl b) : Int)) ∧ Hid (RuQ w w' p L0) :=
  (prefer_any p L0 b W h.out.1 k_short hb).mono fun _ _ h3 => ⟨h3.1, RuQ.up h h3.2⟩
theorem kT1 (w W : World) (p : Nat) (h : Hid (RuQ w W p L0)) : Calls Tryd.prog 20 #[.pointer (some ⟨p, 0, none⟩)] W fun e w' => e = .returned (.string ⟨#[115, 107, 105, 112, 32, 42, 46, 111, 10, 112, 114, 101, 102, 101, 114, 32, 97, 32, 47, 100, 111, 99, 47, 42, 42, 10, 112, 114, 101, 102, 101, 114, 32, 98, 32, 42, 46, 109, 100]⟩) ∧ Hid (RuQ w w' p L0) := by
  have h2 := text_any p L0 W h.out.1 (by decide) (by decide) (by rw [k_text]; decide)
  rw [k_text] at h2
  exact h2.mono fun e w' h3 => ⟨h3.1, RuQ.up h h3.2⟩
theorem kA1 (w W : World) (p : Nat) (h : Hid (RuQ w W p L0)) : Calls Tryd.prog 22 #[.pointer (some ⟨p, 0, none⟩)] W fun e w' => (∃ ao cap, e = .returned (.slice ao 3 cap)) ∧ Hid (RuQ w w' p L0) := by
  refine (list_any p L0 W h.out.1 (by decide)).mono ?_
  rintro e w' ⟨v, rfl, h1, _, h3⟩
  obtain ⟨ao, cap, rfl⟩ := owns_form h1
  exact ⟨⟨ao, cap, rfl⟩, RuQ.up h h3⟩
set_option maxHeartbeats 4000000 in
set_option maxRecDepth 100000 in
theorem known_any (w : World) : Calls Tryd.prog 19 #[] w fun e w' => e = .returned (.bool true) ∧ Below w.heap.size w w' := by
  go_enter Tryd.func19, Tryd.ntmps19
  go_upto_region 2 with (go_at_call 11; refine (kP1 w).mono ?_; rintro e w1 ⟨p, rfl, HQ⟩)
  go_upto_region 4 with (first
    | (go_at_call 22; refine (kA1 _ _ _ HQ).mono ?_; rintro e w2 ⟨⟨ao, cap, rfl⟩, HQ2⟩; clear HQ; rename Hid _ => HQ)
    | (go_at_call 20; refine (kT1 _ _ _ HQ).mono ?_; rintro e w2 ⟨rfl, HQ2⟩; clear HQ; rename Hid _ => HQ))
  go_upto_region 5 with (go_at_call 11; refine (kP2 _ _ _ HQ).mono ?_; rintro e w2 ⟨rfl, HQ2⟩; clear HQ; rename Hid _ => HQ)
  go_upto_region 7 with (go_at_call 14; refine (kS _ _ _ _ HQ (by decide)).mono ?_; rintro e w2 ⟨rfl, HQ2⟩; clear HQ; rename Hid _ => HQ; first | rw [kS1] | rw [kS2] | rw [kS3] | rw [kS4])
  go_wp2_with (go_at_call 16; refine (kQ _ _ _ _ HQ (by decide)).mono ?_; rintro e w2 ⟨rfl, HQ2⟩; clear HQ; rename Hid _ => HQ; first | rw [kQ1] | rw [kQ2] | rw [kQ3] | rw [kQ4])
  go_ret
  exact ⟨rfl, HQ.out.2⟩
end Go.Proofs.YtpngnhpnjkepjaaDoor
