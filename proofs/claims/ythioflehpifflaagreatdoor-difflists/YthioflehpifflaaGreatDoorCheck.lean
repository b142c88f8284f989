import Derived.Test.YthioflehpifflaaGreatDoorBase
import Derived.Lib.OthersKept
namespace Go.Proofs.YthioflehpifflaaGreatDoor
open Go.RowKit

theorem u8_ne {x : UInt8} {c : Nat} (hc : c < 256) (h : ¬ ((x.toNat : Int) = (c : Int))) : x ≠ UInt8.ofNat c := by
  rintro rfl
  apply h
  simp; omega
theorem u8_eq {x : UInt8} {c : Nat} (hc : c < 256) (h : (x.toNat : Int) = (c : Int)) : x = UInt8.ofNat c := by
  apply UInt8.toNat_inj.1
  simp; omega

/-- the number that Check answers -/
def eno (b : Bool) : Int := if b then 0 else 30
theorem name_no {l : By} {x : UInt8} (hx : x ∈ l) (h : x = 47 ∨ x = 0) : nameB l = false :=
  decide_eq_false (fun q => by have := q.2.2.2.2 x hx; rcases h with h | h <;> simp [h] at this)
theorem name_yes {s : ByteArray} (h1 : 1 ≤ s.size) (h2 : s.size ≤ 255) (h3 : s.toList ≠ [46]) (h4 : s.toList ≠ [46, 46]) (h5 : ∀ j (h : j < s.size), s[j]'h ≠ 47 ∧ s[j]'h ≠ 0) : nameB (tl s) = true := by
  have hlen := tl_len s
  refine decide_eq_true ⟨by omega, by omega, h3, h4, fun x hx => ?_⟩
  obtain ⟨k, hk, rfl⟩ := tl_mem hx
  exact h5 k hk

set_option maxHeartbeats 400000 in
set_option maxRecDepth 100000 in
theorem name_any (s : ByteArray) (w : World) (hs : s.size ≤ 9223372036854775807) : Calls Tryz.prog 128 #[.string s] w fun e w' => e = .returned (.bool (nameB (tl s))) ∧ w' = w := by
  have hlen := tl_len s
  by_cases hA : 1 ≤ s.size ∧ s.size ≤ 255 ∧ s.toList ≠ [46] ∧ s.toList ≠ [46, 46]
  · obtain ⟨h1, h2, h3, h4⟩ := hA
    have i1 : ¬ ((s.size : Int) < 1) := by omega
    have i2 : ¬ ((255 : Int) < (s.size : Int)) := by omega
    have b3 : (s.toList == [46]) = false := by simpa using h3
    have b4 : (s.toList == [46, 46]) = false := by simpa using h4
    go_enter Tryz.func128, Tryz.ntmps128
    go_wp2
    go_loop [3] (fun i => ∃ k : Nat, i = .int .i64 k ∧ k ≤ s.size ∧ ∀ j (h : j < s.size), j < k → s[j]'h ≠ 47 ∧ s[j]'h ≠ 0) (fun i => s.size - iOf i)
    case atStart => exact ⟨0, rfl, Nat.zero_le _, fun j _ h => absurd h (Nat.not_lt_zero _)⟩
    case round =>
      obtain ⟨k, rfl, hk, hj⟩ := hrel
      by_cases hlt : k < s.size
      · have hltI : (k : Int) < (s.size : Int) := by omega
        by_cases hbad : s[k]'hlt = 47 ∨ s[k]'hlt = 0
        · have hf := name_no (tl_in s k hlt) hbad
          rcases hbad with hb | hb
          · go_wp2
            go_ret
            exact ⟨rfl, rfl⟩
          · go_wp2
            go_ret
            exact ⟨rfl, rfl⟩
        · have q1 : ¬ (((s[k]'hlt).toNat : Int) = 47) := fun q => hbad (.inl (u8_eq (c := 47) (by decide) q))
          have q2 : ¬ (((s[k]'hlt).toNat : Int) = 0) := fun q => hbad (.inr (u8_eq (c := 0) (by decide) q))
          have b1 : (((s[k]'hlt).toNat : Int) == 47) = false := by simpa using q1
          have b2 : (((s[k]'hlt).toNat : Int) == 0) = false := by simpa using q2
          go_wp2
          refine ⟨⟨k + 1, rfl, hlt, fun j h hjk => ?_⟩, by simp; omega⟩
          by_cases e : j = k
          · subst e; exact ⟨fun q => hbad (.inl q), fun q => hbad (.inr q)⟩
          · exact hj j h (by omega)
      · have hltI : ¬ ((k : Int) < (s.size : Int)) := by omega
        have ht := name_yes h1 h2 h3 h4 (fun j h => hj j h (by omega))
        go_wp2
        go_ret
        exact ⟨rfl, rfl⟩
  · have hf : nameB (tl s) = false := decide_eq_false (fun q => hA ⟨by omega, by omega, q.2.2.1, q.2.2.2.1⟩)
    rw [hf]
    go_enter Tryz.func128, Tryz.ntmps128
    go_wp2
    all_goals first
      | (go_ret; exact ⟨rfl, rfl⟩)
      | (exfalso; simp_all; omega)

set_option maxHeartbeats 400000 in
set_option maxRecDepth 100000 in
theorem check_any (s : ByteArray) (w : World) (hs : s.size ≤ 9223372036854775807) : Calls Tryz.prog 87 #[.string s] w fun e w' => e = .returned (.int .i64 (eno (nameB (tl s)))) ∧ Below w.heap.size w w' := by
  have hlen := tl_len s
  by_cases hA : s.toList ≠ [] ∧ s.toList ≠ [46] ∧ s.toList ≠ [46, 46] ∧ s.size ≤ 255
  · obtain ⟨h1, h3, h4, h2⟩ := hA
    have i2 : ¬ ((255 : Int) < (s.size : Int)) := by omega
    have b1 : (s.toList.isEmpty) = false := by simpa using h1
    have b3 : (s.toList == [46]) = false := by simpa using h3
    have b4 : (s.toList == [46, 46]) = false := by simpa using h4
    have h0 : 1 ≤ s.size := by
      cases e : s.toList with
      | nil => exact absurd e h1
      | cons a b => rw [tl, e] at hlen; simp at hlen; omega
    go_enter Tryz.func87, Tryz.ntmps87
    go_wp2
    go_loopw [] (fun wr => ∃ pos, wr = w.iter s pos ∧ pos ≤ s.size ∧ ∀ j (h : j < s.size), j < pos → s[j]'h ≠ 47 ∧ s[j]'h ≠ 0) (fun wr => s.size - wr.iterPos w.heap.size)
    case atStart => exact ⟨0, rfl, Nat.zero_le _, fun j _ h => absurd h (Nat.not_lt_zero _)⟩
    case round =>
      obtain ⟨pos, rfl, hk, hj⟩ := hrel
      by_cases hp : pos < s.size
      · have hnx : ∀ ty, (Instr.next (.pointer (some ⟨w.heap.size, 0, none⟩)) true ty).run Tryz.prog (w.iter s pos) = _ := fun ty => run_next_any w s pos ty hp
        have hwd := decode_wide s pos hp
        have hin := decode_in s pos hp
        by_cases hbad : (Utf8.decode s pos).1 = 47 ∨ (Utf8.decode s pos).1 = 0
        · have hf : nameB (tl s) = false := by
            refine name_no (x := s.get! pos) (List.mem_of_getElem? (tl_get s pos hp)) ?_
            rcases hbad with q | q
            · exact .inl (u8_eq (c := 47) (by decide) (by exact_mod_cast (decode_small s pos hp 47 (by decide)).1 q))
            · exact .inr (u8_eq (c := 0) (by decide) (by exact_mod_cast (decode_small s pos hp 0 (by decide)).1 q))
          rcases hbad with hb | hb
          all_goals
            go_wp2
            go_ret
            exact ⟨by rw [hf]; rfl, (Below.refl _ w).alloc (Nat.le_refl _) _⟩
        · have q1 : (((Utf8.decode s pos).1 : Int) == 47) = false := by simp; omega
          have q2 : (((Utf8.decode s pos).1 : Int) == 0) = false := by simp; omega
          go_wp2
          refine ⟨⟨_, rfl, hin, fun j h hjk => ?_⟩, by rw [World.iterPos_iter, World.iterPos_iter]; omega⟩
          by_cases e : j < pos
          · exact hj j h e
          · have n1 := decode_none s pos 47 hp (by decide) (fun q => hbad (.inl q)) j (by omega) hjk
            have n2 := decode_none s pos 0 hp (by decide) (fun q => hbad (.inr q)) j (by omega) hjk
            rw [show s.get! j = s[j]'h from get_at s j h] at n1 n2
            exact ⟨fun q => n1 (by rw [q]; rfl), fun q => n2 (by rw [q]; rfl)⟩
      · have hnx : ∀ ty, (Instr.next (.pointer (some ⟨w.heap.size, 0, none⟩)) true ty).run Tryz.prog (w.iter s pos) = _ := fun ty => run_next_end w s pos ty hp
        have ht := name_yes h0 h2 h3 h4 (fun j h => hj j h (by omega))
        go_wp2
        go_ret
        exact ⟨by rw [ht]; rfl, (Below.refl _ w).alloc (Nat.le_refl _) _⟩
  · have hf : nameB (tl s) = false := decide_eq_false (fun q => hA ⟨fun e => by have := q.1; rw [tl, e] at this; simp at this, q.2.2.1, q.2.2.2.1, by omega⟩)
    rw [hf]
    go_enter Tryz.func87, Tryz.ntmps87
    go_wp2
    all_goals first
      | (go_ret; exact ⟨rfl, Below.refl _ _⟩)
      | (exfalso; simp_all; omega)
end Go.Proofs.YthioflehpifflaaGreatDoor
