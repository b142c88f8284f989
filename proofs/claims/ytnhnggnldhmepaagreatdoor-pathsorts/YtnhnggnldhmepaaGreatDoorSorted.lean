/-
  path.Sorted by contract.
-/
import Derived.Test.YtnhnggnldhmepaaGreatDoorSortFn
import Derived.Test.YtnhnggnldhmepaaGreatDoorRefSorted
import Derived.Laws.CopyOwn
namespace Go.Proofs.YtnhnggnldhmepaaGreatDoor
open Go.RowKit

set_option maxHeartbeats 4000000 in
set_option maxRecDepth 100000 in
theorem sorted_any (v : Value) (L : List ByteArray) (w : World) (hv : HasT w v L) (hl : L.length ≤ 100000) (hs : ∀ s ∈ L, s.size ≤ 1048576) :
    Calls Tryz.prog 13 #[v] w fun e w' => (∃ v' O, e = .returned v' ∧ OwnsT w' w.heap.size v' O ∧ O.Perm L ∧ Srt O) ∧ Below w.heap.size w w' := by
  have HV := hid hv
  have HS := hid hs
  obtain ⟨ao, cap, rfl, hcap⟩ := hv.form
  clear hv hs
  obtain ⟨i0, hi, hz0, hz1, hz2⟩ := info_parts Tryz.info9
  obtain ⟨n, hn⟩ : ∃ n, L.length = n := ⟨_, rfl⟩
  have hM : ∀ W : World, (Instr.makeSlice 42 (.int .i64 (n : Int)) (.int .i64 (n : Int))).run Tryz.prog W = .ok (.slice (some ⟨W.heap.size, 0, none⟩) n n) (W.alloc (.cells (madeCells #[.string ⟨#[]⟩] n) 9)) := by
    intro W
    have := run_make (P := Tryz.prog) W 42 9 i0 (.string ⟨#[]⟩) Tryz.underlying42 hi hz0 .i64 .i64 n n (by omega) (Int.le_refl _) (by rw [hz2]; omega) (by omega)
    rw [hz1] at this
    simpa [Value.cells] using this
  obtain ⟨wm, ewm⟩ : ∃ wm, w.alloc (.cells (madeCells #[.string ⟨#[]⟩] n) 9) = wm := ⟨_, rfl⟩
  have hg : wm.heap[w.heap.size]? = some (.cells (madeCells #[.string ⟨#[]⟩] n).toList.toArray 9 (0, 0)) := by rw [← ewm, Array.toArray_toList]; exact heap_alloc_new _ _
  have hbm : Below w.heap.size w wm := by rw [← ewm]; exact (Below.refl _ _).alloc (Nat.le_refl _) _
  have hcl : (madeCells #[.string ⟨#[]⟩] n).toList.length = n := by simp [madeCells]
  have HG := hid hg
  have HBM := hid hbm
  have HCL := hid hcl
  have HVM : Hid (HasT wm (.slice ao L.length cap) L) := HV.out.below hbm
  clear hg hbm hcl hz0 hz1 hz2 hi
  have hM' : ∀ W : World, W = w → (Instr.makeSlice 42 (.int .i64 (n : Int)) (.int .i64 (n : Int))).run Tryz.prog W = .ok (.slice (some ⟨w.heap.size, 0, none⟩) n n) wm := fun W hW => by subst hW; rw [hM, ewm]
  have hMw := hM' w rfl
  clear hM hM' ewm
  rw [hn]
  have h61 : (Tryz.prog.info? 9).map (·.size) = some 1 := by kernel_rfl
  have hpos : 0 < (L.map Value.string).length → some (⟨w.heap.size, 0, none⟩ : Addr) = some ⟨w.heap.size, 0, none⟩ ∧ ∃ ad, ao = some ad ∧ ∀ j u, (L.map Value.string)[j]? = some u → wm.cell? (ad.add j) = some u := fun hp => by
    refine ⟨rfl, ?_⟩
    rcases HVM.out with ⟨_, e⟩ | ⟨a, c, e, _, hc⟩
    · subst e; simp at hp
    · injection e with e1 e2 e3
      refine ⟨a, e1, fun j u hj => ?_⟩
      rw [List.getElem?_map] at hj
      obtain ⟨x, hx, rfl⟩ := Option.map_eq_some_iff.1 hj
      exact hc j x hx
  have HP := hid hpos
  clear hpos
  go_enter Tryz.func13, Tryz.ntmps13
  go_wp2_with (refine wpList_copy_splice rfl (.tmp 7) (.tmp 8) 42 42 rfl 9 Tryz.underlying42 h61 _ _ n n n cap rfl rfl w.heap.size 0 (madeCells #[.string ⟨#[]⟩] n).toList 9 HG.out (L.map Value.string) ?d1 HP.out ?d2 ?d3 w.heap.size w HBM.out (Nat.le_refl _) ?_)
  try (case d1 => simp [hn])
  case d2 => simp [size_madeCells]
  case d3 => intro u hu; first | rfl | (obtain ⟨x, _, rfl⟩ := List.mem_map.1 hu; rfl)
  intro w1 hg1 hb1
  have HO1 : Hid (OwnsT w1 w.heap.size (.slice (some ⟨w.heap.size, 0, none⟩) n n) L) := by
    have e : splice (madeCells #[.string ⟨#[]⟩] n).toList 0 (L.map Value.string) = L.map Value.string := by
      have := HCL.out
      unfold splice
      rw [List.take_zero, List.nil_append, List.drop_eq_nil_of_le (by simp [hn, size_madeCells]), List.append_nil]
    have hg2 := hg1.out
    rw [e] at hg2
    refine ⟨by simp, .inr ⟨w.heap.size, n, _, by rw [hn], Nat.le_refl _, hg2, by omega, by unfold maxLen; omega, by simp [hn], by rw [Nat.mul_one, List.take_of_length_le (by simp [hn])]⟩⟩
  have HB1 := hid hb1
  clear hg1 hb1 HG HP HVM HBM HCL
  have CS := hid (sortFn_any w.heap.size _ L w1 HO1.out HS.out (by omega))
  go_wp2_with fail
  refine CS.out.mono ?_
  rintro e w2 ⟨rfl, l', ho, hp, hso, hg⟩
  have FIN : Hid (OwnsT w2 w.heap.size (.slice (some ⟨w.heap.size, 0, none⟩) n n) l' ∧ l'.Perm L ∧ Srt l' ∧ Below w.heap.size w w2) :=
    ⟨ho, hp, hso, HB1.out.trans ((Below.refl _ w1).grown hg HB1.out.size fun k hk => (World.ownsRow.lt HO1.out k hk).1)⟩
  clear ho hp hso hg CS
  go_wp2
  go_ret
  exact ⟨⟨_, l', rfl, FIN.out.1, FIN.out.2.1, FIN.out.2.2.1⟩, FIN.out.2.2.2⟩
end Go.Proofs.YtnhnggnldhmepaaGreatDoor
