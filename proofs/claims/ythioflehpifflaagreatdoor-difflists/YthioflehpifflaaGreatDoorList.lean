import Derived.Test.YthioflehpifflaaGreatDoorSeq
import Derived.Test.YthioflehpifflaaGreatDoorStrs
import Derived.Deep.RegionWith
namespace Go.Proofs.YthioflehpifflaaGreatDoor
open Go.RowKit

theorem madeRow (lo : Nat) (w : World) (k : Nat) (hlo : lo ≤ w.heap.size) (hk : k ≤ 2000000) : (w.alloc (.cells (madeCells #[.string ⟨#[]⟩] k) 9)).ownsRow lo 9 1 (.slice (some ⟨w.heap.size, 0, none⟩) 0 k) 0 [] :=
  World.ownsRow_made w _ k hlo (by unfold maxLen; omega) (by rw [size_madeCells, Nat.mul_one])

theorem seqA (s : ByteArray) (w : World) (k : Nat) (hs : s.size ≤ 1048576) (hk : k ≤ 2000000) :
    Calls Tryz.prog 126 #[.slice (some ⟨w.heap.size, 0, none⟩) 0 k, .func (.func 125) #[] #[.pointer (some ⟨w.heap.size + 1, 0, none⟩)]] ((w.alloc (.cells (madeCells #[.string ⟨#[]⟩] k) 9)).alloc (.cells #[.string s] 9)).drew
      fun e w' => ∃ v L, e = .returned v ∧ OwnsT w' w.heap.size v L ∧ L.map tl = pieces (tl s) ∧ Below w.heap.size w w' := by
  refine (appendSeq_any w.heap.size (w.heap.size + 1) _ s ((w.alloc (.cells (madeCells #[.string ⟨#[]⟩] k) 9)).alloc (.cells #[.string s] 9)).drew hs (World.ownsRow.drew (World.ownsRow.alloc (madeRow w.heap.size w k (Nat.le_refl _) hk) _)) (by simp; omega) ?_ (by simp [Value.ownBlock])).mono ?_
  · show ((w.alloc (.cells (madeCells #[.string ⟨#[]⟩] k) 9)).alloc (.cells #[.string s] 9)).heap[w.heap.size + 1]? = _
    have := World.alloc_heap_new (w.alloc (.cells (madeCells #[.string ⟨#[]⟩] k) 9)) (.cells #[.string s] 9)
    rw [World.size_alloc] at this
    exact this
  · rintro e w' ⟨v, L, rfl, h1, h2, h3⟩
    refine ⟨v, L, rfl, h1, h2, Below.trans ?_ h3⟩
    exact (((Below.refl _ w).alloc (Nat.le_refl _) _).alloc (by simp) _).trans ⟨rfl, rfl, rfl, Nat.le_refl _, fun _ _ => rfl⟩
theorem seqB (s : ByteArray) (w : World) (k : Nat) (hs : s.size ≤ 1048576) (hk : k ≤ 2000000) :
    Calls Tryz.prog 126 #[.slice (some ⟨w.heap.size + 1, 0, none⟩) 0 k, .func (.func 125) #[] #[.pointer (some ⟨w.heap.size, 0, none⟩)]] ((w.alloc (.cells #[.string s] 9)).alloc (.cells (madeCells #[.string ⟨#[]⟩] k) 9)).drew
      fun e w' => ∃ v L, e = .returned v ∧ OwnsT w' w.heap.size v L ∧ L.map tl = pieces (tl s) ∧ Below w.heap.size w w' := by
  have hr := madeRow w.heap.size (w.alloc (.cells #[.string s] 9)) k (by simp) hk
  rw [World.size_alloc] at hr
  refine (appendSeq_any w.heap.size w.heap.size _ s ((w.alloc (.cells #[.string s] 9)).alloc (.cells (madeCells #[.string ⟨#[]⟩] k) 9)).drew hs (World.ownsRow.drew hr) (by simp; omega) ?_ (by simp [Value.ownBlock])).mono ?_
  · show ((w.alloc (.cells #[.string s] 9)).alloc (.cells (madeCells #[.string ⟨#[]⟩] k) 9)).heap[w.heap.size]? = _
    rw [Below.heap_alloc _ _ _ (by simp)]
    exact World.alloc_heap_new w _
  · rintro e w' ⟨v, L, rfl, h1, h2, h3⟩
    refine ⟨v, L, rfl, h1, h2, Below.trans ?_ h3⟩
    exact (((Below.refl _ w).alloc (Nat.le_refl _) _).alloc (by simp) _).trans ⟨rfl, rfl, rfl, Nat.le_refl _, fun _ _ => rfl⟩

set_option maxHeartbeats 2000000 in
set_option maxRecDepth 100000 in
theorem listPieces_any (s : ByteArray) (w : World) (hs : s.size ≤ 1048576) :
    Calls Tryz.prog 88 #[.string s] w fun e w' => ∃ v L, e = .returned v ∧ OwnsT w' w.heap.size v L ∧ L.map tl = pieces (tl s) ∧ Below w.heap.size w w' := by
  have C43 := fun W => countPieces_any s W (by omega)
  have C44 := fun W => piecesF_any s W
  have hk2 : (pieces (tl s)).length ≤ 2000000 := by
    unfold pieces
    split
    · simp
    · rw [cuts_len]; have := List.count_le_length (a := (47 : UInt8)) (l := tl s); rw [tl_len] at this; omega
  obtain ⟨i0, hi, hz0, hz1, hz2⟩ := info_parts Tryz.info9
  generalize hk : (pieces (tl s)).length = k at *
  have hM : ∀ W : World, (Instr.makeSlice 79 (.int .i64 0) (.int .i64 (k : Int))).run Tryz.prog W = .ok (.slice (some ⟨W.heap.size, 0, none⟩) 0 k) (W.alloc (.cells (madeCells #[.string ⟨#[]⟩] k) 9)) := by
    intro W
    have := run_make (P := Tryz.prog) W 79 9 i0 (.string ⟨#[]⟩) Tryz.underlying79 hi hz0 .i64 .i64 0 k (Int.le_refl _) (by omega) (by rw [hz2]; omega) (by omega)
    rw [hz1] at this
    simpa [Value.cells] using this
  have CA := seqA s w k hs hk2
  have CB := seqB s w k hs hk2
  go_enter Tryz.func88, Tryz.ntmps88
  go_wp2_with fail
  go_region_with (first
    | (go_at_call 85; refine (C43 _).mono ?_; rintro e w' ⟨rfl, rfl⟩)
    | (go_at_call 86; refine (C44 _).mono ?_; rintro e w' ⟨rfl, rfl⟩)
    | (go_at_call_of 126 (Value.slice (some ⟨w.heap.size, 0, none⟩) 0 k); refine CA.mono ?_; rintro e w' ⟨v, L, rfl, hL⟩)
    | (go_at_call 126; refine CB.mono ?_; rintro e w' ⟨v, L, rfl, hL⟩))
  all_goals
    have HL : Hid (OwnsT w' w.heap.size v L ∧ L.map tl = pieces (tl s) ∧ Below w.heap.size w w') := hL
    clear hL CA CB C43 C44 hM
    obtain ⟨ao, cap, hv, _⟩ := HL.out.1.has.form
    subst hv
    go_wp2
    go_ret
    exact ⟨_, L, rfl, HL.out.1, HL.out.2.1, HL.out.2.2⟩
end Go.Proofs.YthioflehpifflaaGreatDoor
