/-
  few by contract.
-/
import Derived.Test.YtglnpmdigghibaaCells
namespace Go.Proofs.Ytglnpmdigghibaa
open Go.RowKit

set_option maxRecDepth 100000 in
set_option maxHeartbeats 400000 in
theorem few_any (c : Array Value) (nm : ByteArray) (v : Vd) (m : Md) (ks : F) (w : World) (hN : HasN w c nm v m ks) (hnm : nm.size ≤ 9223372036854775807) (hok : ks.ok) (hlen : ks.len ≤ 9223372036854775807) :
    Calls Try.prog 4 #[.agg c] w fun e w' => ∃ n : Int, e = .returned (.bool (decide (0 ≤ n))) ∧ (0 ≤ n → 1 + nm.size + ks.weight ≤ 20000) ∧ G w w' := by
  have hcs : c.size = 41 := by obtain ⟨_, rfl, _⟩ := hN; exact nc_size ..
  have hG0 : G w (w.alloc (.cells c 30)) := G.alloc _ _
  have HN := hid (⟨hN.below hG0, Var.new w c, hG0⟩ : HasN (w.alloc (.cells c 30)) c nm v m ks ∧ Var (w.alloc (.cells c 30)) w.heap.size c ∧ G w (w.alloc (.cells c 30)))
  have HO := hid (⟨hnm, hlen, hok⟩ : _ ∧ _ ∧ _)
  clear hN hG0 hnm hok hlen
  go_enter Try.func4, Try.ntmps4
  go_upto_region 1 with fail
  generalize w.alloc (.cells c 30) = w1 at *
  generalize w.heap.size = B0 at *
  go_wp2_with fail
  refine (many_any w1).mono ?_
  rintro e w2 ⟨rfl, hC, bl⟩
  have HC := hid (⟨hC, bl⟩ : CountAt w2 w1.heap.size 20000 ∧ Below w1.heap.size w1 w2)
  have hl : Lies w2 B0 0 c := (HN.out.2.1.grow bl).lies
  have HL := hid hl
  clear hC bl hl
  have C2 := node_any w1 c nm v m ks HN.out.1 ⟨HO.out.1, HO.out.2.1, HO.out.2.2⟩ (nodes_any w1 (ks.size + 1) ks (Nat.lt_succ_self _)) w2 w1.heap.size 20000 HC.out.2 (Nat.le_refl _) HC.out.1
  have HGG := hid (⟨HN.out.2.2, HC.out.2⟩ : G w w1 ∧ G w1 w2)
  obtain ⟨C, hCC⟩ : ∃ C, w1.heap.size = C := ⟨_, rfl⟩
  rw [hCC] at C2 ⊢
  have HCC := hid hCC
  clear hCC
  go_wp2_with ((with_reducible refine wpList_exec (.agg c) ?_ ?_ ?_); exact exec_load30 _ rfl B0 0 rfl c hcs HL.out; kernel_rfl)
  refine C2.mono ?_
  rintro e w3 ⟨⟨b2, rfl⟩, n2, hC2, l2, bl2⟩
  have C3 := ok_any C n2 w3 hC2
  have HF := hid (⟨l2, bl2⟩ : _ ∧ _)
  clear C2 hC2 l2 bl2
  go_wp2_with fail
  refine C3.mono ?_
  rintro e w4 ⟨rfl, e3⟩
  subst e3
  clear C3
  go_wp2_with fail
  go_ret
  refine ⟨n2, rfl, fun h => ?_, ?_⟩
  · have := HF.out.1 h
    omega
  · have h1 := HGG.out.1.size
    have h2 := HGG.out.2.size
    have h3 := HCC.out
    exact Below.trans (B := w.heap.size) HGG.out.1 (Below.trans (B := w.heap.size) (Below.mono HGG.out.2 h1) (But.below HF.out.2 (by omega) (by omega)))
end Go.Proofs.Ytglnpmdigghibaa
