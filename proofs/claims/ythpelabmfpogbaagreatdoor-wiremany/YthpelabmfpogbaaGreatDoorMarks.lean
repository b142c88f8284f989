/-
  The Book's marks, grows and Hold, and the Room's Hold, by the contract of the kind bytes. (By marks.py.)
-/
import Derived.Test.YthpelabmfpogbaaGreatDoorIdle
namespace Go.Proofs.YthpelabmfpogbaaGreatDoor
open Go.RowKit Wire

set_option maxHeartbeats 2000000 in
set_option maxRecDepth 100000 in
theorem marks_by (K : Nat) (w : World) (Q : World → Prop) (hB : Calls Tryz.prog 103 #[.pointer (some ⟨K, 0, none⟩)] w fun e w' => e = .returned (.tuple #[]) ∧ Q w') (hQ : ∀ w', Q w' → Idle w' K) :
    Calls Tryz.prog 72 #[.pointer (some ⟨K, 0, none⟩)] w fun e w' => e = .returned (.tuple #[]) ∧ Q w' := by
  go_enter Tryz.func72, Tryz.ntmps72
  go_wp2_with fail
  refine hB.mono ?_
  rintro e w1 ⟨rfl, hq⟩
  have HQ : Hid (Q w1) := hq
  have hI := hQ w1 hq
  clear hq hB hQ
  go_wp2_with (first | (go_at_call 104; refine (markInts_idle K _ hI).mono ?_; rintro e w2 ⟨rfl, rfl⟩) | (go_at_call 105; refine (markTexts_idle K _ hI).mono ?_; rintro e w2 ⟨rfl, rfl⟩) | (go_at_call 106; refine (markLosts_idle K _ hI).mono ?_; rintro e w2 ⟨rfl, rfl⟩) | (go_at_call 107; refine (markChanges_idle K _ hI).mono ?_; rintro e w2 ⟨rfl, rfl⟩) | (go_at_call 108; refine (markCells_idle K _ hI).mono ?_; rintro e w2 ⟨rfl, rfl⟩) | (go_at_call 109; refine (markItems_idle K _ hI).mono ?_; rintro e w2 ⟨rfl, rfl⟩) | (go_at_call 110; refine (markEntries_idle K _ hI).mono ?_; rintro e w2 ⟨rfl, rfl⟩) | (go_at_call 111; refine (markPlaceds_idle K _ hI).mono ?_; rintro e w2 ⟨rfl, rfl⟩) | (go_at_call 112; refine (markRules_idle K _ hI).mono ?_; rintro e w2 ⟨rfl, rfl⟩) | (go_at_call 113; refine (markFaults_idle K _ hI).mono ?_; rintro e w2 ⟨rfl, rfl⟩) | (go_at_call 114; refine (markChunks_idle K _ hI).mono ?_; rintro e w2 ⟨rfl, rfl⟩) | (go_at_call 115; refine (markThings_idle K _ hI).mono ?_; rintro e w2 ⟨rfl, rfl⟩) | (go_at_call 116; refine (markDones_idle K _ hI).mono ?_; rintro e w2 ⟨rfl, rfl⟩) | (go_at_call 117; refine (markNodes_idle K _ hI).mono ?_; rintro e w2 ⟨rfl, rfl⟩) | (go_at_call 118; refine (markSteps_idle K _ hI).mono ?_; rintro e w2 ⟨rfl, rfl⟩))
  go_end0
  exact ⟨rfl, HQ.out⟩

set_option maxHeartbeats 2000000 in
set_option maxRecDepth 100000 in
theorem grows_by (K : Nat) (w : World) (Q : World → Prop) (hB : Calls Tryz.prog 119 #[.pointer (some ⟨K, 0, none⟩)] w fun e w' => e = .returned (.tuple #[]) ∧ Q w') (hQ : ∀ w', Q w' → Idle w' K ∧ (∀ o, w'.frozen? ⟨K, o, none⟩ = false)) :
    Calls Tryz.prog 73 #[.pointer (some ⟨K, 0, none⟩)] w fun e w' => e = .returned (.tuple #[]) ∧ Q w' := by
  go_enter Tryz.func73, Tryz.ntmps73
  go_wp2_with fail
  refine hB.mono ?_
  rintro e w1 ⟨rfl, hq⟩
  have HQ : Hid (Q w1) := hq
  obtain ⟨hI, hf⟩ := hQ w1 hq
  clear hq hB hQ
  go_wp2_with (first | (go_at_call 120; refine (growInts_idle K _ hI hf).mono ?_; rintro e w2 ⟨rfl, rfl⟩) | (go_at_call 121; refine (growTexts_idle K _ hI hf).mono ?_; rintro e w2 ⟨rfl, rfl⟩) | (go_at_call 122; refine (growLosts_idle K _ hI hf).mono ?_; rintro e w2 ⟨rfl, rfl⟩) | (go_at_call 123; refine (growChanges_idle K _ hI hf).mono ?_; rintro e w2 ⟨rfl, rfl⟩) | (go_at_call 124; refine (growCells_idle K _ hI hf).mono ?_; rintro e w2 ⟨rfl, rfl⟩) | (go_at_call 125; refine (growItems_idle K _ hI hf).mono ?_; rintro e w2 ⟨rfl, rfl⟩) | (go_at_call 126; refine (growEntries_idle K _ hI hf).mono ?_; rintro e w2 ⟨rfl, rfl⟩) | (go_at_call 127; refine (growPlaceds_idle K _ hI hf).mono ?_; rintro e w2 ⟨rfl, rfl⟩) | (go_at_call 128; refine (growRules_idle K _ hI hf).mono ?_; rintro e w2 ⟨rfl, rfl⟩) | (go_at_call 129; refine (growFaults_idle K _ hI hf).mono ?_; rintro e w2 ⟨rfl, rfl⟩) | (go_at_call 130; refine (growChunks_idle K _ hI hf).mono ?_; rintro e w2 ⟨rfl, rfl⟩) | (go_at_call 131; refine (growThings_idle K _ hI hf).mono ?_; rintro e w2 ⟨rfl, rfl⟩) | (go_at_call 132; refine (growDones_idle K _ hI hf).mono ?_; rintro e w2 ⟨rfl, rfl⟩) | (go_at_call 133; refine (growNodes_idle K _ hI hf).mono ?_; rintro e w2 ⟨rfl, rfl⟩) | (go_at_call 134; refine (growSteps_idle K _ hI hf).mono ?_; rintro e w2 ⟨rfl, rfl⟩))
  go_end0
  exact ⟨rfl, HQ.out⟩

set_option maxHeartbeats 2000000 in
set_option maxRecDepth 100000 in
theorem hold_by (K : Nat) (w : World) (Q : World → Prop) (hB : Calls Tryz.prog 38 #[.pointer (some ⟨K, 0, none⟩)] w fun e w' => e = .returned (.bool true) ∧ Q w') (hQ : ∀ w', Q w' → Idle w' K) (hbad : w.cell? ⟨K, 1, none⟩ = some (.bool false)) :
    Calls Tryz.prog 15 #[.pointer (some ⟨K, 0, none⟩)] w fun e w' => e = .returned (.bool true) ∧ Q w' := by
  go_enter Tryz.func15, Tryz.ntmps15
  go_wp2_with fail
  refine hB.mono ?_
  rintro e w1 ⟨rfl, hq⟩
  have HQ : Hid (Q w1) := hq
  have hI := hQ w1 hq
  clear hq hB hQ
  go_wp2_with (first | (go_at_call 39; refine (holdInts_idle K _ hI).mono ?_; rintro e w2 ⟨rfl, rfl⟩) | (go_at_call 40; refine (holdTexts_idle K _ hI).mono ?_; rintro e w2 ⟨rfl, rfl⟩) | (go_at_call 41; refine (holdLosts_idle K _ hI).mono ?_; rintro e w2 ⟨rfl, rfl⟩) | (go_at_call 42; refine (holdChanges_idle K _ hI).mono ?_; rintro e w2 ⟨rfl, rfl⟩) | (go_at_call 43; refine (holdCells_idle K _ hI).mono ?_; rintro e w2 ⟨rfl, rfl⟩) | (go_at_call 44; refine (holdItems_idle K _ hI).mono ?_; rintro e w2 ⟨rfl, rfl⟩) | (go_at_call 45; refine (holdEntries_idle K _ hI).mono ?_; rintro e w2 ⟨rfl, rfl⟩) | (go_at_call 46; refine (holdPlaceds_idle K _ hI).mono ?_; rintro e w2 ⟨rfl, rfl⟩) | (go_at_call 47; refine (holdRules_idle K _ hI).mono ?_; rintro e w2 ⟨rfl, rfl⟩) | (go_at_call 48; refine (holdFaults_idle K _ hI).mono ?_; rintro e w2 ⟨rfl, rfl⟩) | (go_at_call 49; refine (holdChunks_idle K _ hI).mono ?_; rintro e w2 ⟨rfl, rfl⟩) | (go_at_call 50; refine (holdThings_idle K _ hI).mono ?_; rintro e w2 ⟨rfl, rfl⟩) | (go_at_call 51; refine (holdDones_idle K _ hI).mono ?_; rintro e w2 ⟨rfl, rfl⟩) | (go_at_call 52; refine (holdNodes_idle K _ hI).mono ?_; rintro e w2 ⟨rfl, rfl⟩) | (go_at_call 53; refine (holdSteps_idle K _ hI).mono ?_; rintro e w2 ⟨rfl, rfl⟩))
  go_ret
  exact ⟨rfl, HQ.out⟩

set_option maxHeartbeats 2000000 in
set_option maxRecDepth 100000 in
theorem room_by (K : Nat) (w : World) (Q : World → Prop) (hB : Calls Tryz.prog 23 #[.pointer (some ⟨K, 0, none⟩)] w fun e w' => e = .returned (.bool true) ∧ Q w') (hQ : ∀ w', Q w' → RIdle w' K) :
    Calls Tryz.prog 13 #[.pointer (some ⟨K, 0, none⟩)] w fun e w' => e = .returned (.bool true) ∧ Q w' := by
  go_enter Tryz.func13, Tryz.ntmps13
  go_wp2_with fail
  refine hB.mono ?_
  rintro e w1 ⟨rfl, hq⟩
  have HQ : Hid (Q w1) := hq
  have hI := hQ w1 hq
  clear hq hB hQ
  go_wp2_with (first | (go_at_call 24; refine (roomInts_idle K _ hI).mono ?_; rintro e w2 ⟨rfl, rfl⟩) | (go_at_call 25; refine (roomTexts_idle K _ hI).mono ?_; rintro e w2 ⟨rfl, rfl⟩) | (go_at_call 26; refine (roomChanges_idle K _ hI).mono ?_; rintro e w2 ⟨rfl, rfl⟩) | (go_at_call 27; refine (roomCells_idle K _ hI).mono ?_; rintro e w2 ⟨rfl, rfl⟩) | (go_at_call 28; refine (roomItems_idle K _ hI).mono ?_; rintro e w2 ⟨rfl, rfl⟩) | (go_at_call 29; refine (roomPlaceds_idle K _ hI).mono ?_; rintro e w2 ⟨rfl, rfl⟩) | (go_at_call 30; refine (roomRules_idle K _ hI).mono ?_; rintro e w2 ⟨rfl, rfl⟩) | (go_at_call 31; refine (roomChunks_idle K _ hI).mono ?_; rintro e w2 ⟨rfl, rfl⟩) | (go_at_call 32; refine (roomThings_idle K _ hI).mono ?_; rintro e w2 ⟨rfl, rfl⟩) | (go_at_call 33; refine (roomDones_idle K _ hI).mono ?_; rintro e w2 ⟨rfl, rfl⟩) | (go_at_call 34; refine (roomNodes_idle K _ hI).mono ?_; rintro e w2 ⟨rfl, rfl⟩) | (go_at_call 35; refine (roomSteps_idle K _ hI).mono ?_; rintro e w2 ⟨rfl, rfl⟩))
  go_ret
  exact ⟨rfl, HQ.out⟩

end Go.Proofs.YthpelabmfpogbaaGreatDoor
