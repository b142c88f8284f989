/-
  The reference's rule by contract.
-/
import Derived.Test.YtpngnhpnjkepjaaDoorTRule
import Derived.Deep.Cut
namespace Go.Proofs.YtpngnhpnjkepjaaDoor
open Go.RowKit

set_option maxHeartbeats 2000000 in
set_option maxRecDepth 100000 in
theorem trule_any (s : ByteArray) (w : World) (hs : s.size ≤ 4000) :
    Calls Tryd.prog 27 #[.string s] w fun e w' => e = .returned (cutV (cutR (tl s))) ∧ Below w.heap.size w w' := by
  obtain ⟨i0, hi, hz0, hz1, hz2⟩ := info_parts Tryd.info54
  obtain ⟨C, hC⟩ : ∃ C, cutR (tl s) = C := ⟨_, rfl⟩
  have HC : Hid (cutR (tl s) = C) := hC
  rw [hC]
  clear hC
  obtain ⟨wB, hwB⟩ : ∃ wB, (w.alloc (.cells #[.int .i64 0, .string ⟨#[]⟩] 54)).alloc (.cells #[.string ⟨#[115, 107, 105, 112, 32]⟩, .string ⟨#[112, 114, 101, 102, 101, 114, 32, 97, 32]⟩, .string ⟨#[112, 114, 101, 102, 101, 114, 32, 98, 32]⟩] 9) = wB := ⟨_, rfl⟩
  have hb0 : Below w.heap.size w wB := by rw [← hwB]; exact ((Below.refl _ w).alloc (Nat.le_refl _) _).alloc (by simp) _
  have h0 : wB.heap[w.heap.size]? = some (.cells #[.int .i64 0, .string ⟨#[]⟩] 54) := by rw [← hwB]; exact heap_old _ (World.alloc_heap_new _ _)
  have h1 : wB.heap[w.heap.size + 1]? = some (.cells #[.string ⟨#[115, 107, 105, 112, 32]⟩, .string ⟨#[112, 114, 101, 102, 101, 114, 32, 97, 32]⟩, .string ⟨#[112, 114, 101, 102, 101, 114, 32, 98, 32]⟩] 9) := by
    rw [← hwB]
    have := World.alloc_heap_new (w.alloc (.cells #[.int .i64 0, .string ⟨#[]⟩] 54)) (.cells #[.string ⟨#[115, 107, 105, 112, 32]⟩, .string ⟨#[112, 114, 101, 102, 101, 114, 32, 97, 32]⟩, .string ⟨#[112, 114, 101, 102, 101, 114, 32, 98, 32]⟩] 9)
    rwa [World.size_alloc] at this
  have hcl : ∀ k : Nat, k < 3 → wB.cell? ⟨w.heap.size + 1, k, none⟩ = some (.string (ofB (headB (k + 1)))) := fun k hk => by
    have : k = 0 ∨ k = 1 ∨ k = 2 := by omega
    rcases this with rfl | rfl | rfl <;> (unfold World.cell?; rw [h1]; rfl)
  obtain ⟨c0, c1, f0, f1⟩ := two_heap h0
  have HW : Hid ((w.alloc (.cells #[.int .i64 0, .string ⟨#[]⟩] 54)).alloc (.cells #[.string ⟨#[115, 107, 105, 112, 32]⟩, .string ⟨#[112, 114, 101, 102, 101, 114, 32, 97, 32]⟩, .string ⟨#[112, 114, 101, 102, 101, 114, 32, 98, 32]⟩] 9) = wB) := hwB
  clear hwB h0 h1
  go_enter Tryd.func27, Tryd.ntmps27
  go_wp2
  rw [HW.out]
  clear HW
  go_loopw [5] (fun k wr => ∃ n : Nat, k = .int .i64 (n : Int) ∧ n ≤ 3 ∧ Hid (∀ j, 1 ≤ j → j < n + 1 → ¬ headB j <+: tl s) ∧ wr = wB) (fun k wr => 3 - iOf k)
  case atStart => exact ⟨0, rfl, Nat.zero_le _, fun j h1 h2 => by omega, rfl⟩
  case round =>
    obtain ⟨n, rfl, h2, HN, rfl⟩ := hrel
    by_cases hlt : n < 3
    · have i1 : (n : Int) < 3 := by omega
      have hk : n + 1 = 1 ∨ n + 1 = 2 ∨ n + 1 = 3 := by omega
      have hh : (headB (n + 1)).length ≤ 9 := by rcases hk with e | e | e <;> rw [e] <;> decide
      have hcn := hcl n hlt
      by_cases hp : headB (n + 1) <+: tl s
      · obtain ⟨r, hr⟩ := hp
        have hv := cutR_before hk (fun j h1 h2 => HN.out j h1 h2) r hr.symm
        have hC : C = some (n + 1, r) := by rw [← HC.out]; exact hv
        subst hC
        have CA := fun W => after_yes s (ofB (headB (n + 1))) r W (by omega) (by rw [tl_ofB]; exact hr.symm)
        clear HN hr hv HC hcl hk hh
        generalize ofB (headB (n + 1)) = H at *
        go_wp2_with (go_at_call 44; refine (CA _).mono ?_; rintro e w1 ⟨rfl, rfl⟩)
        refine ⟨rfl, _, ?_, rfl, (hb0.setCell (p := ⟨w.heap.size, 0, none⟩) (Nat.le_refl _) _).setCell (p := ⟨w.heap.size, 1, none⟩) (Nat.le_refl _) _⟩
        simp [results, Tryd.f27, go_sem, c0, c1, cutV, rv]
      · have CA := fun W => after_no s (ofB (headB (n + 1))) W (by omega) (by rw [ofB_size]; omega) (fun r q => hp ⟨r, by rw [tl_ofB] at q; exact q.symm⟩)
        have HN2 : Hid (∀ j, 1 ≤ j → j < n + 1 + 1 → ¬ headB j <+: tl s) := fun j h1 h2 => by
          by_cases e : j = n + 1
          · subst e; exact hp
          · exact HN.out j h1 (by omega)
        have HCL : Hid (∀ k : Nat, k < 3 → wr.cell? ⟨w.heap.size + 1, k, none⟩ = some (.string (ofB (headB (k + 1))))) := hcl
        clear hp hcl hk hh
        generalize ofB (headB (n + 1)) = H at *
        go_wp2_with (go_at_call 44; refine (CA _).mono ?_; rintro e w1 ⟨rfl, rfl⟩)
        go_roundw
        case rel => exact ⟨n + 1, by go_num, by omega, HN2, trivial⟩
        case measure => simp; omega
    · have hn : n = 3 := by omega
      subst hn
      have hC : C = none := by rw [← HC.out]; exact cutR_none HN.out
      subst hC
      clear HN HC
      go_wp2
      refine ⟨rfl, _, ?_, rfl, (hb0.setCell (p := ⟨w.heap.size, 0, none⟩) (Nat.le_refl _) _).setCell (p := ⟨w.heap.size, 1, none⟩) (Nat.le_refl _) _⟩
      simp [results, Tryd.f27, go_sem, c0, c1, cutV, rv]
      rfl
end Go.Proofs.YtpngnhpnjkepjaaDoor
