import Derived.Test.YtbjjbgaomoihaaaGreatDoorBIdle
set_option maxRecDepth 100000
set_option maxHeartbeats 2000000
namespace Go.Proofs.YtbjjbgaomoihaaaGreatDoor.Bk
open Go.RowKit
theorem marks_by (K : Nat) (w : World) (Q : World → Prop) (hB : Calls Tryz.prog 104 #[.pointer (some ⟨K, 0, none⟩)] w fun e w' => e = .returned (.tuple #[]) ∧ Q w') (hQ : ∀ w', Q w' → Idle w' K) (hI0 : Idle w K) :
    Calls Tryz.prog 69 #[.pointer (some ⟨K, 0, none⟩)] w fun e w' => e = .returned (.tuple #[]) ∧ Q w' := by
  have HB : Hid (Calls Tryz.prog 104 #[.pointer (some ⟨K, 0, none⟩)] w fun e w' => e = .returned (.tuple #[]) ∧ Q w') := hB
  have HQ0 : Hid (∀ w', Q w' → Idle w' K) := hQ
  clear hB hQ
  go_enter Tryz.func69, Tryz.ntmps69
  go_wp2_with (first | (go_at_call 102; refine (markBytes_idle K _ hI0).mono ?_; rintro e w2 ⟨rfl, e2⟩; subst e2) | (go_at_call 103; refine (markInts_idle K _ hI0).mono ?_; rintro e w2 ⟨rfl, e2⟩; subst e2))
  refine HB.out.mono ?_
  rintro e w1 ⟨rfl, hq⟩
  have HQ : Hid (Q w1) := hq
  have hI := HQ0.out w1 hq
  clear hq HB HQ0 hI0
  go_wp2_with (first | (go_at_call 105; refine (markLosts_idle K _ hI).mono ?_; rintro e w2 ⟨rfl, e2⟩; subst e2) | (go_at_call 106; refine (markChanges_idle K _ hI).mono ?_; rintro e w2 ⟨rfl, e2⟩; subst e2) | (go_at_call 107; refine (markCells_idle K _ hI).mono ?_; rintro e w2 ⟨rfl, e2⟩; subst e2) | (go_at_call 108; refine (markItems_idle K _ hI).mono ?_; rintro e w2 ⟨rfl, e2⟩; subst e2) | (go_at_call 109; refine (markEntries_idle K _ hI).mono ?_; rintro e w2 ⟨rfl, e2⟩; subst e2) | (go_at_call 110; refine (markPlaceds_idle K _ hI).mono ?_; rintro e w2 ⟨rfl, e2⟩; subst e2) | (go_at_call 111; refine (markRules_idle K _ hI).mono ?_; rintro e w2 ⟨rfl, e2⟩; subst e2) | (go_at_call 112; refine (markFaults_idle K _ hI).mono ?_; rintro e w2 ⟨rfl, e2⟩; subst e2) | (go_at_call 113; refine (markChunks_idle K _ hI).mono ?_; rintro e w2 ⟨rfl, e2⟩; subst e2) | (go_at_call 114; refine (markThings_idle K _ hI).mono ?_; rintro e w2 ⟨rfl, e2⟩; subst e2) | (go_at_call 115; refine (markDones_idle K _ hI).mono ?_; rintro e w2 ⟨rfl, e2⟩; subst e2) | (go_at_call 116; refine (markNodes_idle K _ hI).mono ?_; rintro e w2 ⟨rfl, e2⟩; subst e2) | (go_at_call 117; refine (markSteps_idle K _ hI).mono ?_; rintro e w2 ⟨rfl, e2⟩; subst e2))
  go_end0
  exact ⟨rfl, HQ.out⟩
theorem grows_by (K : Nat) (w : World) (Q : World → Prop) (hB : Calls Tryz.prog 120 #[.pointer (some ⟨K, 0, none⟩)] w fun e w' => e = .returned (.tuple #[]) ∧ Q w') (hQ : ∀ w', Q w' → Idle w' K ∧ (∀ o, w'.frozen? ⟨K, o, none⟩ = false)) (hI0 : Idle w K) (hf0 : ∀ o, w.frozen? ⟨K, o, none⟩ = false) :
    Calls Tryz.prog 70 #[.pointer (some ⟨K, 0, none⟩)] w fun e w' => e = .returned (.tuple #[]) ∧ Q w' := by
  have HB : Hid (Calls Tryz.prog 120 #[.pointer (some ⟨K, 0, none⟩)] w fun e w' => e = .returned (.tuple #[]) ∧ Q w') := hB
  have HQ0 : Hid (∀ w', Q w' → Idle w' K ∧ (∀ o, w'.frozen? ⟨K, o, none⟩ = false)) := hQ
  clear hB hQ
  go_enter Tryz.func70, Tryz.ntmps70
  go_wp2_with (first | (go_at_call 118; refine (growBytes_idle K _ hI0 hf0).mono ?_; rintro e w2 ⟨rfl, e2⟩; subst e2) | (go_at_call 119; refine (growInts_idle K _ hI0 hf0).mono ?_; rintro e w2 ⟨rfl, e2⟩; subst e2))
  refine HB.out.mono ?_
  rintro e w1 ⟨rfl, hq⟩
  have HQ : Hid (Q w1) := hq
  obtain ⟨hI, hf⟩ := HQ0.out w1 hq
  clear hq HB HQ0 hI0
  go_wp2_with (first | (go_at_call 121; refine (growLosts_idle K _ hI hf).mono ?_; rintro e w2 ⟨rfl, e2⟩; subst e2) | (go_at_call 122; refine (growChanges_idle K _ hI hf).mono ?_; rintro e w2 ⟨rfl, e2⟩; subst e2) | (go_at_call 123; refine (growCells_idle K _ hI hf).mono ?_; rintro e w2 ⟨rfl, e2⟩; subst e2) | (go_at_call 124; refine (growItems_idle K _ hI hf).mono ?_; rintro e w2 ⟨rfl, e2⟩; subst e2) | (go_at_call 125; refine (growEntries_idle K _ hI hf).mono ?_; rintro e w2 ⟨rfl, e2⟩; subst e2) | (go_at_call 126; refine (growPlaceds_idle K _ hI hf).mono ?_; rintro e w2 ⟨rfl, e2⟩; subst e2) | (go_at_call 127; refine (growRules_idle K _ hI hf).mono ?_; rintro e w2 ⟨rfl, e2⟩; subst e2) | (go_at_call 128; refine (growFaults_idle K _ hI hf).mono ?_; rintro e w2 ⟨rfl, e2⟩; subst e2) | (go_at_call 129; refine (growChunks_idle K _ hI hf).mono ?_; rintro e w2 ⟨rfl, e2⟩; subst e2) | (go_at_call 130; refine (growThings_idle K _ hI hf).mono ?_; rintro e w2 ⟨rfl, e2⟩; subst e2) | (go_at_call 131; refine (growDones_idle K _ hI hf).mono ?_; rintro e w2 ⟨rfl, e2⟩; subst e2) | (go_at_call 132; refine (growNodes_idle K _ hI hf).mono ?_; rintro e w2 ⟨rfl, e2⟩; subst e2) | (go_at_call 133; refine (growSteps_idle K _ hI hf).mono ?_; rintro e w2 ⟨rfl, e2⟩; subst e2))
  go_end0
  exact ⟨rfl, HQ.out⟩
theorem hold_by (K : Nat) (w : World) (Q : World → Prop) (hB : Calls Tryz.prog 42 #[.pointer (some ⟨K, 0, none⟩)] w fun e w' => e = .returned (.bool true) ∧ Q w') (hQ : ∀ w', Q w' → Idle w' K) (hI0 : Idle w K) (hbad : w.cell? ⟨K, 1, none⟩ = some (.bool false)) :
    Calls Tryz.prog 23 #[.pointer (some ⟨K, 0, none⟩)] w fun e w' => e = .returned (.bool true) ∧ Q w' := by
  have HB : Hid (Calls Tryz.prog 42 #[.pointer (some ⟨K, 0, none⟩)] w fun e w' => e = .returned (.bool true) ∧ Q w') := hB
  have HQ0 : Hid (∀ w', Q w' → Idle w' K) := hQ
  clear hB hQ
  go_enter Tryz.func23, Tryz.ntmps23
  go_wp2_with (first | (go_at_call 40; refine (holdBytes_idle K _ hI0).mono ?_; rintro e w2 ⟨rfl, e2⟩; subst e2) | (go_at_call 41; refine (holdInts_idle K _ hI0).mono ?_; rintro e w2 ⟨rfl, e2⟩; subst e2))
  refine HB.out.mono ?_
  rintro e w1 ⟨rfl, hq⟩
  have HQ : Hid (Q w1) := hq
  have hI := HQ0.out w1 hq
  clear hq HB HQ0 hI0
  go_wp2_with (first | (go_at_call 43; refine (holdLosts_idle K _ hI).mono ?_; rintro e w2 ⟨rfl, e2⟩; subst e2) | (go_at_call 44; refine (holdChanges_idle K _ hI).mono ?_; rintro e w2 ⟨rfl, e2⟩; subst e2) | (go_at_call 45; refine (holdCells_idle K _ hI).mono ?_; rintro e w2 ⟨rfl, e2⟩; subst e2) | (go_at_call 46; refine (holdItems_idle K _ hI).mono ?_; rintro e w2 ⟨rfl, e2⟩; subst e2) | (go_at_call 47; refine (holdEntries_idle K _ hI).mono ?_; rintro e w2 ⟨rfl, e2⟩; subst e2) | (go_at_call 48; refine (holdPlaceds_idle K _ hI).mono ?_; rintro e w2 ⟨rfl, e2⟩; subst e2) | (go_at_call 49; refine (holdRules_idle K _ hI).mono ?_; rintro e w2 ⟨rfl, e2⟩; subst e2) | (go_at_call 50; refine (holdFaults_idle K _ hI).mono ?_; rintro e w2 ⟨rfl, e2⟩; subst e2) | (go_at_call 51; refine (holdChunks_idle K _ hI).mono ?_; rintro e w2 ⟨rfl, e2⟩; subst e2) | (go_at_call 52; refine (holdThings_idle K _ hI).mono ?_; rintro e w2 ⟨rfl, e2⟩; subst e2) | (go_at_call 53; refine (holdDones_idle K _ hI).mono ?_; rintro e w2 ⟨rfl, e2⟩; subst e2) | (go_at_call 54; refine (holdNodes_idle K _ hI).mono ?_; rintro e w2 ⟨rfl, e2⟩; subst e2) | (go_at_call 55; refine (holdSteps_idle K _ hI).mono ?_; rintro e w2 ⟨rfl, e2⟩; subst e2))
  go_ret
  exact ⟨rfl, HQ.out⟩
end Go.Proofs.YtbjjbgaomoihaaaGreatDoor.Bk
