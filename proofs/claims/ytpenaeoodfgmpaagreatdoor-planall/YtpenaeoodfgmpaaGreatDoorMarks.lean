/-
  The Book's marks, grows and Hold by the contracts of the two kinds. (By kept2.py.)
-/
import Derived.Test.YtpenaeoodfgmpaaGreatDoorIdle
namespace Go.Proofs.YtpenaeoodfgmpaaGreatDoor
open Go.RowKit

set_option maxHeartbeats 2000000 in
set_option maxRecDepth 100000 in
theorem marks_by (K : Nat) (w : World) (Q1 Q2 : World → Prop) (hB : Calls Tryz.prog 96 #[.pointer (some ⟨K, 0, none⟩)] w fun e w' => e = .returned (.tuple #[]) ∧ Q1 w') (hC : ∀ w1, Q1 w1 → Calls Tryz.prog 101 #[.pointer (some ⟨K, 0, none⟩)] w1 fun e w' => e = .returned (.tuple #[]) ∧ Q2 w') (hQ : ∀ w', Q1 w' → Idle w' K) (hQ2 : ∀ w', Q2 w' → Idle w' K) (hI0 : Idle w K) :
    Calls Tryz.prog 70 #[.pointer (some ⟨K, 0, none⟩)] w fun e w' => e = .returned (.tuple #[]) ∧ Q2 w' := by
  have HB := hid hB
  have HC := hid hC
  have HQ0 := hid hQ
  have HQ2 := hid hQ2
  clear hB hQ hC hQ2
  go_enter Tryz.func70, Tryz.ntmps70
  go_wp2_with (first | (go_at_call 95; refine (markBytes_idle K _ hI0).mono ?_; rintro e w2 ⟨rfl, e2⟩; subst e2))
  refine HB.out.mono ?_
  rintro e w1 ⟨rfl, hq⟩
  have HQ : Hid (Q1 w1) := hq
  have hI1 := HQ0.out w1 hq
  clear hq HB HQ0 hI0
  go_wp2_with (first | (go_at_call 97; refine (markTexts_idle K _ hI1).mono ?_; rintro e w2 ⟨rfl, e2⟩; subst e2) | (go_at_call 98; refine (markLosts_idle K _ hI1).mono ?_; rintro e w2 ⟨rfl, e2⟩; subst e2) | (go_at_call 99; refine (markChanges_idle K _ hI1).mono ?_; rintro e w2 ⟨rfl, e2⟩; subst e2) | (go_at_call 100; refine (markCells_idle K _ hI1).mono ?_; rintro e w2 ⟨rfl, e2⟩; subst e2))
  refine (HC.out _ HQ.out).mono ?_
  rintro e w3 ⟨rfl, hq⟩
  have HQ3 : Hid (Q2 w3) := hq
  have hI2 := HQ2.out w3 hq
  clear hq HC HQ HQ2 hI1
  go_wp2_with (first | (go_at_call 102; refine (markEntries_idle K _ hI2).mono ?_; rintro e w2 ⟨rfl, e2⟩; subst e2) | (go_at_call 103; refine (markPlaceds_idle K _ hI2).mono ?_; rintro e w2 ⟨rfl, e2⟩; subst e2) | (go_at_call 104; refine (markRules_idle K _ hI2).mono ?_; rintro e w2 ⟨rfl, e2⟩; subst e2) | (go_at_call 105; refine (markFaults_idle K _ hI2).mono ?_; rintro e w2 ⟨rfl, e2⟩; subst e2) | (go_at_call 106; refine (markChunks_idle K _ hI2).mono ?_; rintro e w2 ⟨rfl, e2⟩; subst e2) | (go_at_call 107; refine (markThings_idle K _ hI2).mono ?_; rintro e w2 ⟨rfl, e2⟩; subst e2) | (go_at_call 108; refine (markDones_idle K _ hI2).mono ?_; rintro e w2 ⟨rfl, e2⟩; subst e2) | (go_at_call 109; refine (markNodes_idle K _ hI2).mono ?_; rintro e w2 ⟨rfl, e2⟩; subst e2) | (go_at_call 110; refine (markSteps_idle K _ hI2).mono ?_; rintro e w2 ⟨rfl, e2⟩; subst e2))
  go_end0
  exact ⟨rfl, HQ3.out⟩

set_option maxHeartbeats 2000000 in
set_option maxRecDepth 100000 in
theorem grows_by (K : Nat) (w : World) (Q1 Q2 : World → Prop) (hB : Calls Tryz.prog 112 #[.pointer (some ⟨K, 0, none⟩)] w fun e w' => e = .returned (.tuple #[]) ∧ Q1 w') (hC : ∀ w1, Q1 w1 → Calls Tryz.prog 117 #[.pointer (some ⟨K, 0, none⟩)] w1 fun e w' => e = .returned (.tuple #[]) ∧ Q2 w') (hQ : ∀ w', Q1 w' → Idle w' K ∧ (∀ o, w'.frozen? ⟨K, o, none⟩ = false)) (hQ2 : ∀ w', Q2 w' → Idle w' K ∧ (∀ o, w'.frozen? ⟨K, o, none⟩ = false)) (hI0 : Idle w K) (hf0 : ∀ o, w.frozen? ⟨K, o, none⟩ = false) :
    Calls Tryz.prog 71 #[.pointer (some ⟨K, 0, none⟩)] w fun e w' => e = .returned (.tuple #[]) ∧ Q2 w' := by
  have HB := hid hB
  have HC := hid hC
  have HQ0 := hid hQ
  have HQ2 := hid hQ2
  clear hB hQ hC hQ2
  go_enter Tryz.func71, Tryz.ntmps71
  go_wp2_with (first | (go_at_call 111; refine (growBytes_idle K _ hI0 hf0).mono ?_; rintro e w2 ⟨rfl, e2⟩; subst e2))
  refine HB.out.mono ?_
  rintro e w1 ⟨rfl, hq⟩
  have HQ : Hid (Q1 w1) := hq
  obtain ⟨hI1, hf1⟩ := HQ0.out w1 hq
  clear hq HB HQ0 hI0
  go_wp2_with (first | (go_at_call 113; refine (growTexts_idle K _ hI1 hf1).mono ?_; rintro e w2 ⟨rfl, e2⟩; subst e2) | (go_at_call 114; refine (growLosts_idle K _ hI1 hf1).mono ?_; rintro e w2 ⟨rfl, e2⟩; subst e2) | (go_at_call 115; refine (growChanges_idle K _ hI1 hf1).mono ?_; rintro e w2 ⟨rfl, e2⟩; subst e2) | (go_at_call 116; refine (growCells_idle K _ hI1 hf1).mono ?_; rintro e w2 ⟨rfl, e2⟩; subst e2))
  refine (HC.out _ HQ.out).mono ?_
  rintro e w3 ⟨rfl, hq⟩
  have HQ3 : Hid (Q2 w3) := hq
  obtain ⟨hI2, hf2⟩ := HQ2.out w3 hq
  clear hq HC HQ HQ2 hI1
  go_wp2_with (first | (go_at_call 118; refine (growEntries_idle K _ hI2 hf2).mono ?_; rintro e w2 ⟨rfl, e2⟩; subst e2) | (go_at_call 119; refine (growPlaceds_idle K _ hI2 hf2).mono ?_; rintro e w2 ⟨rfl, e2⟩; subst e2) | (go_at_call 120; refine (growRules_idle K _ hI2 hf2).mono ?_; rintro e w2 ⟨rfl, e2⟩; subst e2) | (go_at_call 121; refine (growFaults_idle K _ hI2 hf2).mono ?_; rintro e w2 ⟨rfl, e2⟩; subst e2) | (go_at_call 122; refine (growChunks_idle K _ hI2 hf2).mono ?_; rintro e w2 ⟨rfl, e2⟩; subst e2) | (go_at_call 123; refine (growThings_idle K _ hI2 hf2).mono ?_; rintro e w2 ⟨rfl, e2⟩; subst e2) | (go_at_call 124; refine (growDones_idle K _ hI2 hf2).mono ?_; rintro e w2 ⟨rfl, e2⟩; subst e2) | (go_at_call 125; refine (growNodes_idle K _ hI2 hf2).mono ?_; rintro e w2 ⟨rfl, e2⟩; subst e2) | (go_at_call 126; refine (growSteps_idle K _ hI2 hf2).mono ?_; rintro e w2 ⟨rfl, e2⟩; subst e2))
  go_end0
  exact ⟨rfl, HQ3.out⟩

set_option maxHeartbeats 2000000 in
set_option maxRecDepth 100000 in
theorem hold_by (K : Nat) (w : World) (Q1 Q2 : World → Prop) (hB : Calls Tryz.prog 30 #[.pointer (some ⟨K, 0, none⟩)] w fun e w' => e = .returned (.bool true) ∧ Q1 w') (hC : ∀ w1, Q1 w1 → Calls Tryz.prog 35 #[.pointer (some ⟨K, 0, none⟩)] w1 fun e w' => e = .returned (.bool true) ∧ Q2 w') (hQ : ∀ w', Q1 w' → Idle w' K) (hQ2 : ∀ w', Q2 w' → Idle w' K) (hI0 : Idle w K) (hbad : w.cell? ⟨K, 1, none⟩ = some (.bool false)) :
    Calls Tryz.prog 11 #[.pointer (some ⟨K, 0, none⟩)] w fun e w' => e = .returned (.bool true) ∧ Q2 w' := by
  have HB := hid hB
  have HC := hid hC
  have HQ0 := hid hQ
  have HQ2 := hid hQ2
  clear hB hQ hC hQ2
  go_enter Tryz.func11, Tryz.ntmps11
  go_wp2_with (first | (go_at_call 29; refine (holdBytes_idle K _ hI0).mono ?_; rintro e w2 ⟨rfl, e2⟩; subst e2))
  refine HB.out.mono ?_
  rintro e w1 ⟨rfl, hq⟩
  have HQ : Hid (Q1 w1) := hq
  have hI1 := HQ0.out w1 hq
  clear hq HB HQ0 hI0
  go_wp2_with (first | (go_at_call 31; refine (holdTexts_idle K _ hI1).mono ?_; rintro e w2 ⟨rfl, e2⟩; subst e2) | (go_at_call 32; refine (holdLosts_idle K _ hI1).mono ?_; rintro e w2 ⟨rfl, e2⟩; subst e2) | (go_at_call 33; refine (holdChanges_idle K _ hI1).mono ?_; rintro e w2 ⟨rfl, e2⟩; subst e2) | (go_at_call 34; refine (holdCells_idle K _ hI1).mono ?_; rintro e w2 ⟨rfl, e2⟩; subst e2))
  refine (HC.out _ HQ.out).mono ?_
  rintro e w3 ⟨rfl, hq⟩
  have HQ3 : Hid (Q2 w3) := hq
  have hI2 := HQ2.out w3 hq
  clear hq HC HQ HQ2 hI1
  go_wp2_with (first | (go_at_call 36; refine (holdEntries_idle K _ hI2).mono ?_; rintro e w2 ⟨rfl, e2⟩; subst e2) | (go_at_call 37; refine (holdPlaceds_idle K _ hI2).mono ?_; rintro e w2 ⟨rfl, e2⟩; subst e2) | (go_at_call 38; refine (holdRules_idle K _ hI2).mono ?_; rintro e w2 ⟨rfl, e2⟩; subst e2) | (go_at_call 39; refine (holdFaults_idle K _ hI2).mono ?_; rintro e w2 ⟨rfl, e2⟩; subst e2) | (go_at_call 40; refine (holdChunks_idle K _ hI2).mono ?_; rintro e w2 ⟨rfl, e2⟩; subst e2) | (go_at_call 41; refine (holdThings_idle K _ hI2).mono ?_; rintro e w2 ⟨rfl, e2⟩; subst e2) | (go_at_call 42; refine (holdDones_idle K _ hI2).mono ?_; rintro e w2 ⟨rfl, e2⟩; subst e2) | (go_at_call 43; refine (holdNodes_idle K _ hI2).mono ?_; rintro e w2 ⟨rfl, e2⟩; subst e2) | (go_at_call 44; refine (holdSteps_idle K _ hI2).mono ?_; rintro e w2 ⟨rfl, e2⟩; subst e2))
  go_ret
  exact ⟨rfl, HQ3.out⟩

end Go.Proofs.YtpenaeoodfgmpaaGreatDoor
