/-
  RulesBack's walk.
-/
import Derived.Test.YtpngnhpnjkepjaaDoorRKnown
namespace Go.Proofs.YtpngnhpnjkepjaaDoor
open Go.RowKit

theorem parseR_line {l : By} {k : Nat} {e : Int} (h : parseR l = (none, k, e)) : e ≠ 0 := by
  unfold parseR at h
  split at h
  · cases h; decide
  · generalize linesR l = xs at h
    generalize (0 : Nat) = i at h
    generalize ([] : List Ru) = acc at h
    induction xs generalizing i acc with
    | nil => cases h
    | cons x xs ih =>
      unfold parseL at h
      split at h
      · exact ih _ _ h
      · split at h
        · rename_i hr
          cases h; exact hr
        · exact ih _ _ h
theorem good_short {L : List Ru} {l : By} (h : parseR l = (some L, 0, 0)) : ShortR L := by
  obtain ⟨h1, h2, _, _, h5⟩ := parseR_good h
  refine ⟨fun r hr => ?_, h1.2⟩
  have h3 := joinR_ge (M := L.map lineR) (List.mem_map.2 ⟨r, hr, rfl⟩)
  have h4 : (lineR r).length = (headB r.1).length + r.2.length := List.length_append
  have h6 : (joinR (L.map lineR)).length ≤ l.length := h2
  omega
/-- what Parse answers, as a walk wants it -/
theorem parse_cases (s : ByteArray) (w : World) (hs : s.size ≤ 9223372036854775807) :
    (∃ (k : Nat) (e : Int), parseR (tl s) = (none, k, e) ∧ e ≠ 0 ∧ Calls Tryd.prog 11 #[.string s] w fun x w' => x = .returned (.tuple #[.pointer none, .int .i64 (k : Int), .int .i64 e]) ∧ Below w.heap.size w w') ∨
    (∃ L, parseR (tl s) = (some L, 0, 0) ∧ Calls Tryd.prog 11 #[.string s] w fun x w' => ∃ p, x = .returned (.tuple #[.pointer (some ⟨p, 0, none⟩), .int .i64 0, .int .i64 0]) ∧ Hid (RuQ w w' p L)) := by
  have h := parse_any s w hs
  unfold ParseRes at h
  rcases hp : parseR (tl s) with ⟨o, k, e⟩
  rw [hp] at h
  cases o with
  | none => exact .inl ⟨k, e, rfl, parseR_line hp, h⟩
  | some L =>
    obtain ⟨_, _, rfl, rfl, _⟩ := parseR_good hp
    exact .inr ⟨L, rfl, h⟩
def TwoQ (w W : World) (p q : Nat) (L M : List Ru) : Prop := IsRules W p L ∧ IsRules W q M ∧ Below w.heap.size w W
theorem TwoQ.up {w W W' : World} {p q : Nat} {L M : List Ru} (h : Hid (TwoQ w W p q L M)) (hg : Below W.heap.size W W') : Hid (TwoQ w W' p q L M) := ⟨h.out.1.up hg, h.out.2.1.up hg, Below.up h.out.2.2 hg⟩
theorem hasR_up {W W' : World} {v : Value} {L : List Ru} (h : Hid (HasR W v L)) (hg : Below W.heap.size W W') : Hid (HasR W' v L) := h.out.up hg
set_option maxHeartbeats 4000000 in
set_option maxRecDepth 100000 in
theorem back_short (s : ByteArray) (w : World) (hs : s.size ≤ 16384) : Calls Tryd.prog 4 #[.string s] w fun e w' => e = .returned (.bool true) ∧ Below w.heap.size w w' := by
  have i0 : (s.size : Int) ≤ 16384 := by omega
  have C19 := known_any w
  have C11 := fun W => parse_cases s W (by omega)
  go_enter Tryd.func4, Tryd.ntmps4
  go_upto_region 5 with (go_at_call 19; refine C19.mono ?_; rintro e w1 ⟨rfl, h1⟩)
  rcases C11 w1 with ⟨k, er, hp, he, CP⟩ | ⟨L, hp, CP⟩
  · have b0 : (er == 0) = false := by simpa using he
    have HB : Hid (Below w.heap.size w w1) := h1
    clear C19 C11 hp he h1
    go_wp2_with (go_at_call 11; refine CP.mono ?_; rintro e w2 ⟨rfl, hg⟩)
    go_ret
    exact ⟨rfl, Below.up HB.out hg⟩
  · have HB : Hid (Below w.heap.size w w1) := h1
    obtain ⟨g1, g2, _, _, g5⟩ := parseR_good hp
    have hsh := good_short hp
    have hp2 := parseR_text g1 (by omega)
    have hlen : (ofB (textR L)).size ≤ s.size := by rw [ofB_size, ← tl_len]; exact g2
    have CT := fun W p h => text_any p L W h (fun r hr => (g1.1 r hr).1) g1.2 (by omega)
    have CL := fun W p h => list_any p L W h (by have := g1.2; omega)
    have CS := fun W a b h1 h2 => same_any a b L W h1 h2 (by have := g1.2; omega)
    have C2 := fun W => parse_cases (ofB (textR L)) W (by omega)
    have HP2 : Hid (parseR (tl (ofB (textR L))) = (some L, 0, 0)) := by rw [tl_ofB]; exact hp2
    generalize ofB (textR L) = z at *
    clear C19 C11 hp h1 g2 hp2 hsh
    go_upto_region 9 with (first
      | (go_at_call 11; refine CP.mono ?_; rintro e w2 ⟨p, rfl, HQ⟩)
      | (go_at_call 20; refine (CT _ _ HQ.out.1).mono ?_; rintro e w3 ⟨rfl, hg⟩; have HQ3 := RuQ.up HQ hg; clear HQ hg))
    have CP2 : Calls Tryd.prog 11 #[.string z] w3 fun x w' => ∃ p, x = .returned (.tuple #[.pointer (some ⟨p, 0, none⟩), .int .i64 0, .int .i64 0]) ∧ Hid (RuQ w3 w' p L) := by
      rcases C2 w3 with ⟨k, er, h, _⟩ | ⟨L2, h, CP2⟩
      · rw [HP2.out] at h; cases h
      · rw [HP2.out] at h; cases h; exact CP2
    have HQ4 : ∀ (w4 : World) (q : Nat), Hid (RuQ w3 w4 q L) → Hid (TwoQ w w4 p q L L) := fun w4 q h => ⟨HQ3.out.1.up h.out.2, h.out.1, Below.up (Below.up HB.out HQ3.out.2) h.out.2⟩
    have hlen2 : (z.size : Int) ≤ (s.size : Int) := by omega
    clear C2 HP2 HQ3 HB CP
    go_wp2_with (first
      | (go_at_call 11; refine CP2.mono ?_; rintro e w4 ⟨q, rfl, HR⟩; have HT := HQ4 w4 q HR; clear HR HQ4)
      | (go_at_call 20; refine (CT _ _ HT.out.2.1).mono ?_; rintro e w5 ⟨rfl, hg⟩; replace HT := TwoQ.up HT hg; clear hg)
      | (go_at_call 22; refine (CL _ q HT.out.2.1).mono ?_; rintro e w5 ⟨v1, rfl, h1, h2, hg⟩; replace HT := TwoQ.up HT hg; have HV1 : Hid (HasR _ v1 L) := h1.has h2; clear hg h2; obtain ⟨o1, c1, rfl⟩ := owns_form h1; clear h1)
      | (go_at_call 22; refine (CL _ p HT.out.1).mono ?_; rintro e w5 ⟨v2, rfl, h1, h2, hg⟩; replace HT := TwoQ.up HT hg; replace HV1 := hasR_up HV1 hg; have HV2 : Hid (HasR _ v2 L) := h1.has h2; clear hg h2; obtain ⟨o2, c2, rfl⟩ := owns_form h1; clear h1)
      | (go_at_call 21; refine (CS _ _ _ HV1.out HV2.out).mono ?_; rintro e w6 ⟨rfl, hg⟩; replace HT := TwoQ.up HT hg; clear hg))
    go_ret
    exact ⟨rfl, HT.out.2.2⟩
end Go.Proofs.YtpngnhpnjkepjaaDoor
