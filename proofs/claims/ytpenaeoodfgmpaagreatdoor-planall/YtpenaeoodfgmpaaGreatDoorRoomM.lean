/-
  Room.Merge of a fresh Room.
-/
import Derived.Test.YtpenaeoodfgmpaaGreatDoorRoomH
namespace Go.Proofs.YtpenaeoodfgmpaaGreatDoor
open Go.RowKit

/-- what a fresh Room leaves of a list of cells -/
def LaidC (R : Nat) (L : List Cd) (w : World) (F c : Nat) (w' : World) : Prop := RoomC w' R F L.length c ∧ w.heap.size ≤ F ∧ OwnsC w' w.heap.size (.slice (some ⟨F, 0, none⟩) (L.length + 40) c) (L ++ mksC 40) ∧ But R w w' ∧ FarC w w' R F
set_option maxHeartbeats 4000000 in
set_option maxRecDepth 100000 in
theorem roomCells_any (R : Nat) (ao : Option Addr) (cp : Nat) (L : List Cd) (w : World) (hv : HasC w (.slice ao L.length cp) L) (hz : L = [] → .slice ao L.length cp = Value.slice none 0 0 ∨ ao ≠ none) (hn : L.length ≤ 300) (hR : R < w.heap.size)
    (hid0 : ∀ i, i < 26 → w.cell? ⟨R, i, none⟩ = some (.slice none 0 0)) (hf : ∀ o, w.frozen? ⟨R, o, none⟩ = false) :
    Calls Tryz.prog 16 #[.pointer (some ⟨R, 0, none⟩), .slice ao L.length cp] w fun e w' => ∃ F c, e = .returned (.slice (some ⟨F, 0, none⟩) L.length (L.length + 40)) ∧ LaidC R L w F c w' := by
  have A := hid (layCells_any R ao cp L w hv hz hn hR hid0 hf)
  clear hv hz hn hR hid0 hf
  generalize hl : L.length = n at A ⊢
  have HL := hid hl
  clear hl
  go_enter Tryz.func16, Tryz.ntmps16
  go_wp2_with (go_at_call 59; refine A.out.mono ?_; rintro e w2 ⟨F, c, rfl, h⟩; have H := hid h; clear h)
  go_ret
  exact ⟨F, c, rfl, by unfold LaidC; rw [HL.out]; exact H.out⟩
theorem zero24 : (Tryz.prog.info? 24).bind (·.zero) = some (.agg #[.slice none 0 0]) := by kernel_rfl
theorem size24 : (Tryz.prog.info? 24).map (·.size) = some 1 := by kernel_rfl
theorem under24 : Tryz.prog.underlying 24 = some (.struct (Tryz.prog.fieldsOf 24)) := by kernel_rfl
set_option maxHeartbeats 4000000 in
set_option maxRecDepth 100000 in
theorem roomMerge_any (R : Nat) (ao : Option Addr) (cp : Nat) (L : List Cd) (w : World) (hv : HasC w (.slice ao L.length cp) L) (hz : L = [] → .slice ao L.length cp = Value.slice none 0 0 ∨ ao ≠ none) (hn : L.length ≤ 300) (hR : R < w.heap.size)
    (hid0 : ∀ i, i < 26 → w.cell? ⟨R, i, none⟩ = some (.slice none 0 0)) (hf : ∀ o, w.frozen? ⟨R, o, none⟩ = false) :
    Calls Tryz.prog 5 #[.pointer (some ⟨R, 0, none⟩), .agg #[.slice ao L.length cp]] w fun e w' => ∃ F c, e = .returned (.agg #[.slice (some ⟨F, 0, none⟩) L.length (L.length + 40)]) ∧ LaidC R L w F c w' := by
  obtain ⟨M, hM⟩ : ∃ M, w.heap.size = M := ⟨_, rfl⟩
  obtain ⟨w1, hw1⟩ : ∃ w1, (w.alloc (.cells #[.slice ao L.length cp] 24)).alloc (.cells #[.slice none 0 0] 24) = w1 := ⟨_, rfl⟩
  have g1 : G w w1 := by rw [← hw1]; exact (G.al _ _).up (G.al _ _)
  have r1 : w1.heap[M]? = some (.cells #[.slice ao L.length cp] 24 (0, 0)) := by
    rw [← hw1, ← hM]
    exact ((G.al (w.alloc _) _).block _ (by simp)).trans (heap_alloc_new _ _)
  have r2 : w1.heap[M + 1]? = some (.cells #[.slice none 0 0] 24 (0, 0)) := by
    rw [← hw1, ← hM]
    have := heap_alloc_new (w.alloc (.cells #[.slice ao L.length cp] 24)) (.cells #[.slice none 0 0] 24)
    rw [World.size_alloc] at this
    exact this
  have s1 : w1.heap.size = M + 2 := by rw [← hw1]; simp [hM]
  have A := hid (roomCells_any R ao cp L w1 (hv.up g1) hz hn (by omega) (fun i hi => (g1.cell (p := ⟨R, i, none⟩) (by simpa using hR)).trans (hid0 i hi)) (fun o => (g1.frozen (p := ⟨R, o, none⟩) (by simpa using hR)).trans (hf o)))
  have c0 : w1.cell? ⟨M, 0, none⟩ = some (.slice ao L.length cp) := cell_of_row _ _ 0 _ _ _ r1
  have H1 := hid (And.intro g1 (And.intro r1 (And.intro r2 s1)))
  have HM := hid hM
  have hRM : R < M := by omega
  generalize hl : L.length = n at A H1 c0 hw1 ⊢
  have HL := hid hl
  clear hv hz hn hid0 hf g1 r1 r2 s1 hl
  go_enter Tryz.func5, Tryz.ntmps5
  go_upto_region 1 with ((with_reducible refine wpList_execW (.pointer (some ⟨M + 1, 0, none⟩)) w1 ?_ ?_ ?_); exact (by rw [← hw1]; exact exec_allocT 24 #[.slice none 0 0] rfl zero24 _ _ (by simp [hM])); kernel_rfl)
  clear hw1 hM
  go_upto_region 2 with (go_at_call 16; refine A.out.mono ?_; rintro e w2 ⟨F, c, rfl, h⟩; have H := hid h; have hb := h.2.2.2.1; have x1 := (hb.block M (by have := H1.out.2.2.2; omega) (by omega)).trans H1.out.2.1; have x2 := cell_of_row w2 M 0 _ _ _ x1; have x3 := frozen_of_row w2 M 0 _ _ x1; simp only [List.getElem?_toArray, List.getElem?_cons_zero] at x2; have X1 := hid x1; clear h hb x1)
  obtain ⟨w3, hw3⟩ : ∃ w3, w2.setCell ⟨M, 0, none⟩ (.slice (some ⟨F, 0, none⟩) n (n + 40)) = w3 := ⟨_, rfl⟩
  have b3 : But M w2 w3 := by rw [← hw3]; exact (But.refl _ w2).setCell 0 _
  have y1 : w3.heap[M]? = some (.cells #[.slice (some ⟨F, 0, none⟩) n (n + 40)] 24 (0, 0)) := by rw [← hw3, heap_setCell_same _ _ _ _ _ _ X1.out]; rfl
  have hs1 := H1.out.2.2.2
  have hs2 := H.out.2.2.2.1.size
  have y2 : w3.heap[M + 1]? = some (.cells #[.slice none 0 0] 24 (0, 0)) := (b3.block (M + 1) (by omega) (by omega)).trans ((H.out.2.2.2.1.block (M + 1) (by omega) (by omega)).trans H1.out.2.2.1)
  have HY := hid (And.intro y1 y2)
  have HLM : Hid (Lies w3 M 0 #[.slice (some ⟨F, 0, none⟩) n (n + 40)]) := fun j u hj => by rw [Nat.zero_add, cell_of_row _ _ j _ _ _ y1]; exact hj
  have HB3 := hid b3
  rw [hw3]
  clear hw3 b3 y1 y2 x2 x3 X1
  go_wp2_with (first
    | ((with_reducible refine wpList_execW (.agg #[.slice (some ⟨F, 0, none⟩) n (n + 40)]) w3 ?_ ?_ ?_); exact exec_load 24 _ rfl M 0 _ _ rfl _ HLM.out under24 rfl size24; kernel_rfl)
    | ((with_reducible refine wpList_skipW (w3.setRow (M + 1) #[.slice (some ⟨F, 0, none⟩) n (n + 40)]) ?_ ?_ ?_); exact exec_storeT 24 _ _ rfl (M + 1) #[.slice (some ⟨F, 0, none⟩) n (n + 40)] #[.slice none 0 0] rfl rfl _ HY.out.2 size24 rfl (by simp [Value.oneCell']); kernel_rfl))
  obtain ⟨w4, hw4⟩ : ∃ w4, w3.setRow (M + 1) #[.slice (some ⟨F, 0, none⟩) n (n + 40)] = w4 := ⟨_, rfl⟩
  have b4 : But (M + 1) w3 w4 := by rw [← hw4]; exact ⟨rfl, rfl, rfl, by simp [World.setRow], fun k _ hn => setRow_other w3 _ _ _ hn⟩
  have hres : w4.heap[M + 1]? = some (.cells #[.slice (some ⟨F, 0, none⟩) n (n + 40)] 24 (0, 0)) := by rw [← hw4]; exact setRow_heap w3 _ _ _ _ _ HY.out.2
  rw [hw4]
  have hM := HM.out
  have hh := H.out
  unfold LaidC at hh
  rw [HL.out] at hh
  obtain ⟨hroom, hF, hown, hbut, hfar⟩ := hh
  have b3 := HB3.out
  have kc : ∀ p u, w2.cell? p = some u → p.block ≠ M → p.block ≠ M + 1 → w4.cell? p = some u := fun p u hu h1 h2 => b4.cell (b3.cell hu h1) h2
  have hroom4 : RoomC w4 R F n c := by
    obtain ⟨i1, ⟨ra, ca, i2, i3⟩, ⟨rb, cb, i4, i5⟩, i6⟩ := hroom
    have f1 := hfar ra ca (.inl i2)
    have f2 := hfar rb cb (.inr i4)
    refine ⟨fun i a b => kc _ _ (i1 i a b) (by simp only; omega) (by simp only; omega), ⟨ra, ca, kc _ _ i2 (by simp only; omega) (by simp only; omega), kc _ _ i3 (by simp only; omega) (by simp only; omega)⟩, ⟨rb, cb, kc _ _ i4 (by simp only; omega) (by simp only; omega), kc _ _ i5 (by simp only; omega) (by simp only; omega)⟩, fun j hj i u hu => kc _ _ (i6 j hj i u hu) (by simp only; omega) (by simp only; omega)⟩
  have g1 := H1.out.1
  have hfar4 : FarC w w4 R F := by
    intro x cx hx
    obtain ⟨_, ⟨ra, ca, i2, _⟩, ⟨rb, cb, i4, _⟩, _⟩ := hroom
    have f1 := hfar ra ca (.inl i2)
    have f2 := hfar rb cb (.inr i4)
    have j2 := kc _ _ i2 (by simp only; omega) (by simp only; omega)
    have j4 := kc _ _ i4 (by simp only; omega) (by simp only; omega)
    rcases hx with hx | hx
    · rw [j2] at hx
      injection hx with hx
      injection hx with hx _ _
      injection hx with hx
      injection hx with hx _ _
      subst hx
      exact ⟨by omega, f1.2⟩
    · rw [j4] at hx
      injection hx with hx
      injection hx with hx _ _
      injection hx with hx
      injection hx with hx _ _
      subst hx
      exact ⟨by omega, f2.2⟩
  have hown4 : OwnsC w4 w.heap.size (.slice (some ⟨F, 0, none⟩) (n + 40) c) (L ++ mksC 40) := by
    have o3 : OwnsC w3 w1.heap.size (.slice (some ⟨F, 0, none⟩) (n + 40) c) (L ++ mksC 40) := World.ownsRow.kept hown (but_grown b3) (.inr (fun e => by simp [Value.ownBlock] at e; omega))
    have o4 : OwnsC w4 w1.heap.size (.slice (some ⟨F, 0, none⟩) (n + 40) c) (L ++ mksC 40) := World.ownsRow.kept o3 (but_grown b4) (.inr (fun e => by simp [Value.ownBlock] at e; omega))
    exact owns_low o4 (by omega)
  have hbut4 : But R w w4 := by
    refine ⟨b4.os.trans (b3.os.trans (hbut.os.trans g1.os)), b4.tape.trans (b3.tape.trans (hbut.tape.trans g1.tape)), b4.output.trans (b3.output.trans (hbut.output.trans g1.output)), ?_, fun k hk hn2 => ?_⟩
    · have := b4.size; have := b3.size; have := g1.size; omega
    · have := b3.size
      have := g1.size
      exact (b4.block k (by omega) (by omega)).trans ((b3.block k (by omega) (by omega)).trans ((hbut.block k (by omega) hn2).trans (g1.block k hk)))
  refine bodyPost_ret (results_cell_row (P := Tryz.prog) (p := 4) (ty := 24) rfl _ _ (M + 1) 24 #[.slice (some ⟨F, 0, none⟩) n (n + 40)] (0, 0) _ rfl hres under24 rfl size24) rfl ⟨F, c, rfl, ?_⟩
  unfold LaidC
  rw [HL.out]
  exact ⟨hroom4, by omega, hown4, hbut4, hfar4⟩
end Go.Proofs.YtpenaeoodfgmpaaGreatDoor
