/-
  The Book's marks, grows and Hold, and the Room's Hold, by the contract of one kind. (By kept.py.)
-/
import Derived.Test.YthioflehpifflaaGreatDoorIdle
namespace Go.Proofs.YthioflehpifflaaGreatDoor
open Go.RowKit

set_option maxHeartbeats 2000000 in
set_option maxRecDepth 100000 in
theorem marks_by (K : Nat) (w : World) (Q : World → Prop) (hB : Calls Tryz.prog 96 #[.pointer (some ⟨K, 0, none⟩)] w fun e w' => e = .returned (.tuple #[]) ∧ Q w') (hQ : ∀ w', Q w' → Idle w' K) (hI0 : Idle w K) :
    Calls Tryz.prog 82 #[.pointer (some ⟨K, 0, none⟩)] w fun e w' => e = .returned (.tuple #[]) ∧ Q w' := by
  have HB : Hid (Calls Tryz.prog 96 #[.pointer (some ⟨K, 0, none⟩)] w fun e w' => e = .returned (.tuple #[]) ∧ Q w') := hB
  have HQ0 : Hid (∀ w', Q w' → Idle w' K) := hQ
  clear hB hQ
  go_enter Tryz.func82, Tryz.ntmps82
  go_wp2_with (first | (go_at_call 92; refine (markBytes_idle K _ hI0).mono ?_; rintro e w2 ⟨rfl, e2⟩; subst e2) | (go_at_call 93; refine (markInts_idle K _ hI0).mono ?_; rintro e w2 ⟨rfl, e2⟩; subst e2) | (go_at_call 94; refine (markTexts_idle K _ hI0).mono ?_; rintro e w2 ⟨rfl, e2⟩; subst e2) | (go_at_call 95; refine (markLosts_idle K _ hI0).mono ?_; rintro e w2 ⟨rfl, e2⟩; subst e2))
  refine HB.out.mono ?_
  rintro e w1 ⟨rfl, hq⟩
  have HQ : Hid (Q w1) := hq
  have hI := HQ0.out w1 hq
  clear hq HB HQ0 hI0
  go_wp2_with (first | (go_at_call 97; refine (markCells_idle K _ hI).mono ?_; rintro e w2 ⟨rfl, e2⟩; subst e2) | (go_at_call 98; refine (markItems_idle K _ hI).mono ?_; rintro e w2 ⟨rfl, e2⟩; subst e2) | (go_at_call 99; refine (markEntries_idle K _ hI).mono ?_; rintro e w2 ⟨rfl, e2⟩; subst e2) | (go_at_call 100; refine (markPlaceds_idle K _ hI).mono ?_; rintro e w2 ⟨rfl, e2⟩; subst e2) | (go_at_call 101; refine (markRules_idle K _ hI).mono ?_; rintro e w2 ⟨rfl, e2⟩; subst e2) | (go_at_call 102; refine (markFaults_idle K _ hI).mono ?_; rintro e w2 ⟨rfl, e2⟩; subst e2) | (go_at_call 103; refine (markChunks_idle K _ hI).mono ?_; rintro e w2 ⟨rfl, e2⟩; subst e2) | (go_at_call 104; refine (markThings_idle K _ hI).mono ?_; rintro e w2 ⟨rfl, e2⟩; subst e2) | (go_at_call 105; refine (markDones_idle K _ hI).mono ?_; rintro e w2 ⟨rfl, e2⟩; subst e2) | (go_at_call 106; refine (markNodes_idle K _ hI).mono ?_; rintro e w2 ⟨rfl, e2⟩; subst e2) | (go_at_call 107; refine (markSteps_idle K _ hI).mono ?_; rintro e w2 ⟨rfl, e2⟩; subst e2))
  go_end0
  exact ⟨rfl, HQ.out⟩

set_option maxHeartbeats 2000000 in
set_option maxRecDepth 100000 in
theorem grows_by (K : Nat) (w : World) (Q : World → Prop) (hB : Calls Tryz.prog 112 #[.pointer (some ⟨K, 0, none⟩)] w fun e w' => e = .returned (.tuple #[]) ∧ Q w') (hQ : ∀ w', Q w' → Idle w' K ∧ (∀ o, w'.frozen? ⟨K, o, none⟩ = false)) (hI0 : Idle w K) (hf0 : ∀ o, w.frozen? ⟨K, o, none⟩ = false) :
    Calls Tryz.prog 83 #[.pointer (some ⟨K, 0, none⟩)] w fun e w' => e = .returned (.tuple #[]) ∧ Q w' := by
  have HB : Hid (Calls Tryz.prog 112 #[.pointer (some ⟨K, 0, none⟩)] w fun e w' => e = .returned (.tuple #[]) ∧ Q w') := hB
  have HQ0 : Hid (∀ w', Q w' → Idle w' K ∧ (∀ o, w'.frozen? ⟨K, o, none⟩ = false)) := hQ
  clear hB hQ
  go_enter Tryz.func83, Tryz.ntmps83
  go_wp2_with (first | (go_at_call 108; refine (growBytes_idle K _ hI0 hf0).mono ?_; rintro e w2 ⟨rfl, e2⟩; subst e2) | (go_at_call 109; refine (growInts_idle K _ hI0 hf0).mono ?_; rintro e w2 ⟨rfl, e2⟩; subst e2) | (go_at_call 110; refine (growTexts_idle K _ hI0 hf0).mono ?_; rintro e w2 ⟨rfl, e2⟩; subst e2) | (go_at_call 111; refine (growLosts_idle K _ hI0 hf0).mono ?_; rintro e w2 ⟨rfl, e2⟩; subst e2))
  refine HB.out.mono ?_
  rintro e w1 ⟨rfl, hq⟩
  have HQ : Hid (Q w1) := hq
  obtain ⟨hI, hf⟩ := HQ0.out w1 hq
  clear hq HB HQ0 hI0
  go_wp2_with (first | (go_at_call 113; refine (growCells_idle K _ hI hf).mono ?_; rintro e w2 ⟨rfl, e2⟩; subst e2) | (go_at_call 114; refine (growItems_idle K _ hI hf).mono ?_; rintro e w2 ⟨rfl, e2⟩; subst e2) | (go_at_call 115; refine (growEntries_idle K _ hI hf).mono ?_; rintro e w2 ⟨rfl, e2⟩; subst e2) | (go_at_call 116; refine (growPlaceds_idle K _ hI hf).mono ?_; rintro e w2 ⟨rfl, e2⟩; subst e2) | (go_at_call 117; refine (growRules_idle K _ hI hf).mono ?_; rintro e w2 ⟨rfl, e2⟩; subst e2) | (go_at_call 118; refine (growFaults_idle K _ hI hf).mono ?_; rintro e w2 ⟨rfl, e2⟩; subst e2) | (go_at_call 119; refine (growChunks_idle K _ hI hf).mono ?_; rintro e w2 ⟨rfl, e2⟩; subst e2) | (go_at_call 120; refine (growThings_idle K _ hI hf).mono ?_; rintro e w2 ⟨rfl, e2⟩; subst e2) | (go_at_call 121; refine (growDones_idle K _ hI hf).mono ?_; rintro e w2 ⟨rfl, e2⟩; subst e2) | (go_at_call 122; refine (growNodes_idle K _ hI hf).mono ?_; rintro e w2 ⟨rfl, e2⟩; subst e2) | (go_at_call 123; refine (growSteps_idle K _ hI hf).mono ?_; rintro e w2 ⟨rfl, e2⟩; subst e2))
  go_end0
  exact ⟨rfl, HQ.out⟩

set_option maxHeartbeats 2000000 in
set_option maxRecDepth 100000 in
theorem hold_by (K : Nat) (w : World) (Q : World → Prop) (hB : Calls Tryz.prog 37 #[.pointer (some ⟨K, 0, none⟩)] w fun e w' => e = .returned (.bool true) ∧ Q w') (hQ : ∀ w', Q w' → Idle w' K) (hI0 : Idle w K) (hbad : w.cell? ⟨K, 1, none⟩ = some (.bool false)) :
    Calls Tryz.prog 9 #[.pointer (some ⟨K, 0, none⟩)] w fun e w' => e = .returned (.bool true) ∧ Q w' := by
  have HB : Hid (Calls Tryz.prog 37 #[.pointer (some ⟨K, 0, none⟩)] w fun e w' => e = .returned (.bool true) ∧ Q w') := hB
  have HQ0 : Hid (∀ w', Q w' → Idle w' K) := hQ
  clear hB hQ
  go_enter Tryz.func9, Tryz.ntmps9
  go_wp2_with (first | (go_at_call 33; refine (holdBytes_idle K _ hI0).mono ?_; rintro e w2 ⟨rfl, e2⟩; subst e2) | (go_at_call 34; refine (holdInts_idle K _ hI0).mono ?_; rintro e w2 ⟨rfl, e2⟩; subst e2) | (go_at_call 35; refine (holdTexts_idle K _ hI0).mono ?_; rintro e w2 ⟨rfl, e2⟩; subst e2) | (go_at_call 36; refine (holdLosts_idle K _ hI0).mono ?_; rintro e w2 ⟨rfl, e2⟩; subst e2))
  refine HB.out.mono ?_
  rintro e w1 ⟨rfl, hq⟩
  have HQ : Hid (Q w1) := hq
  have hI := HQ0.out w1 hq
  clear hq HB HQ0 hI0
  go_wp2_with (first | (go_at_call 38; refine (holdCells_idle K _ hI).mono ?_; rintro e w2 ⟨rfl, e2⟩; subst e2) | (go_at_call 39; refine (holdItems_idle K _ hI).mono ?_; rintro e w2 ⟨rfl, e2⟩; subst e2) | (go_at_call 40; refine (holdEntries_idle K _ hI).mono ?_; rintro e w2 ⟨rfl, e2⟩; subst e2) | (go_at_call 41; refine (holdPlaceds_idle K _ hI).mono ?_; rintro e w2 ⟨rfl, e2⟩; subst e2) | (go_at_call 42; refine (holdRules_idle K _ hI).mono ?_; rintro e w2 ⟨rfl, e2⟩; subst e2) | (go_at_call 43; refine (holdFaults_idle K _ hI).mono ?_; rintro e w2 ⟨rfl, e2⟩; subst e2) | (go_at_call 44; refine (holdChunks_idle K _ hI).mono ?_; rintro e w2 ⟨rfl, e2⟩; subst e2) | (go_at_call 45; refine (holdThings_idle K _ hI).mono ?_; rintro e w2 ⟨rfl, e2⟩; subst e2) | (go_at_call 46; refine (holdDones_idle K _ hI).mono ?_; rintro e w2 ⟨rfl, e2⟩; subst e2) | (go_at_call 47; refine (holdNodes_idle K _ hI).mono ?_; rintro e w2 ⟨rfl, e2⟩; subst e2) | (go_at_call 48; refine (holdSteps_idle K _ hI).mono ?_; rintro e w2 ⟨rfl, e2⟩; subst e2))
  go_ret
  exact ⟨rfl, HQ.out⟩

set_option maxHeartbeats 2000000 in
set_option maxRecDepth 100000 in
theorem room_by (K : Nat) (w : World) (Q : World → Prop) (hB : Calls Tryz.prog 23 #[.pointer (some ⟨K, 0, none⟩)] w fun e w' => e = .returned (.bool true) ∧ Q w') (hQ : ∀ w', Q w' → RIdle w' K) (hI0 : RIdle w K) :
    Calls Tryz.prog 8 #[.pointer (some ⟨K, 0, none⟩)] w fun e w' => e = .returned (.bool true) ∧ Q w' := by
  have HB : Hid (Calls Tryz.prog 23 #[.pointer (some ⟨K, 0, none⟩)] w fun e w' => e = .returned (.bool true) ∧ Q w') := hB
  have HQ0 : Hid (∀ w', Q w' → RIdle w' K) := hQ
  clear hB hQ
  go_enter Tryz.func8, Tryz.ntmps8
  go_wp2_with (first | (go_at_call 20; refine (roomBytes_idle K _ hI0).mono ?_; rintro e w2 ⟨rfl, e2⟩; subst e2) | (go_at_call 21; refine (roomInts_idle K _ hI0).mono ?_; rintro e w2 ⟨rfl, e2⟩; subst e2) | (go_at_call 22; refine (roomTexts_idle K _ hI0).mono ?_; rintro e w2 ⟨rfl, e2⟩; subst e2))
  refine HB.out.mono ?_
  rintro e w1 ⟨rfl, hq⟩
  have HQ : Hid (Q w1) := hq
  have hI := HQ0.out w1 hq
  clear hq HB HQ0 hI0
  go_wp2_with (first | (go_at_call 24; refine (roomCells_idle K _ hI).mono ?_; rintro e w2 ⟨rfl, e2⟩; subst e2) | (go_at_call 25; refine (roomItems_idle K _ hI).mono ?_; rintro e w2 ⟨rfl, e2⟩; subst e2) | (go_at_call 26; refine (roomPlaceds_idle K _ hI).mono ?_; rintro e w2 ⟨rfl, e2⟩; subst e2) | (go_at_call 27; refine (roomRules_idle K _ hI).mono ?_; rintro e w2 ⟨rfl, e2⟩; subst e2) | (go_at_call 28; refine (roomChunks_idle K _ hI).mono ?_; rintro e w2 ⟨rfl, e2⟩; subst e2) | (go_at_call 29; refine (roomThings_idle K _ hI).mono ?_; rintro e w2 ⟨rfl, e2⟩; subst e2) | (go_at_call 30; refine (roomDones_idle K _ hI).mono ?_; rintro e w2 ⟨rfl, e2⟩; subst e2) | (go_at_call 31; refine (roomNodes_idle K _ hI).mono ?_; rintro e w2 ⟨rfl, e2⟩; subst e2) | (go_at_call 32; refine (roomSteps_idle K _ hI).mono ?_; rintro e w2 ⟨rfl, e2⟩; subst e2))
  go_ret
  exact ⟨rfl, HQ.out⟩

end Go.Proofs.YthioflehpifflaaGreatDoor
