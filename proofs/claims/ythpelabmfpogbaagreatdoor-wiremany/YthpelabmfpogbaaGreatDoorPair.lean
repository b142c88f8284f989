/-
  The statements' pair of readers: stands.
-/
import Derived.Test.YthpelabmfpogbaaGreatDoorRef4
namespace Go.Proofs.YthpelabmfpogbaaGreatDoor
open Go.RowKit Wire Bk

theorem rfs_cells {w : World} {lo M : Nat} {l : List Int} {s : St} (h : RfS w lo M l s) : w.cell? ⟨M, 2, none⟩ = some (.int .i64 s.fe) ∧ w.cell? ⟨M, 3, none⟩ = some (.int .i64 s.fa) := by
  obtain ⟨v, hh, _⟩ := h
  exact ⟨(rcells_of hh).2.2.1, (rcells_of hh).2.2.2.1⟩

set_option maxHeartbeats 1600000 in
set_option maxRecDepth 100000 in
theorem stands_any (lo lo' R M : Nat) (l l' : List Int) (s : St) (w : World) (h1 : RdS w lo R l s) (h2 : RfS w lo' M l' s) :
    Calls Tryz.prog 18 #[.agg #[.pointer (some ⟨R, 0, none⟩), .pointer (some ⟨M, 0, none⟩)]] w fun e w' => e = .returned (.bool true) ∧ Below w.heap.size w w' := by
  obtain ⟨wb, ewb⟩ : ∃ wb, w.alloc (.cells #[.pointer (some ⟨R, 0, none⟩), .pointer (some ⟨M, 0, none⟩)] 63) = wb := ⟨_, rfl⟩
  have bb : Below w.heap.size w wb := by rw [← ewb]; exact (Below.refl _ _).alloc (Nat.le_refl _) _
  have g1 : RdS wb lo R l s := h1.grown bb
  have g2 : RfS wb lo' M l' s := h2.kept fun k _ hk => bb.block k (Nat.lt_of_le_of_lt hk h2.lt)
  have G1 : Hid (RdS wb lo R l s) := g1
  have G2 : Hid (RfS wb lo' M l' s) := g2
  have HBB : Hid (Below w.heap.size w wb) := bb
  have b0 : wb.cell? ⟨w.heap.size, 0, none⟩ = some (.pointer (some ⟨R, 0, none⟩)) := by rw [← ewb]; simp
  have b1 : wb.cell? ⟨w.heap.size, 1, none⟩ = some (.pointer (some ⟨M, 0, none⟩)) := by rw [← ewb]; simp
  have hsz : w.heap.size < wb.heap.size := by rw [← ewb]; simp
  have HE := err_told lo R l s wb g1
  have HER : Hid (Calls Tryz.prog 56 #[.pointer (some ⟨R, 0, none⟩)] wb fun e w' => ∃ ev, e = .returned ev ∧ Below wb.heap.size wb w' ∧
      Calls Tryz.prog 55 #[ev] w' fun x w2 => x = .returned (.tuple #[.int .i64 (if s.fe = 0 then 0 else s.fa), .int .i64 s.fe, .bool true]) ∧ Below wb.heap.size wb w2) := HE
  clear HE h1 h2 g1 g2 bb
  obtain ⟨pl, epl⟩ : ∃ pl, (if s.fe = 0 then 0 else s.fa) = pl := ⟨_, rfl⟩
  rw [epl] at HER
  have HPL : Hid ((if s.fe = 0 then 0 else s.fa) = pl) := epl
  clear epl
  go_enter Tryz.func18, Tryz.ntmps18
  go_wp2_with (first | (go_at_call 56; refine HER.out.mono ?_; rintro e w1 ⟨ev, rfl, hb1, hc1⟩) | (go_at_call 55; refine hc1.mono ?_; rintro e w2 ⟨rfl, hb2⟩))
  have K1 : Hid (RdS w2 lo R l s) := G1.out.grown hb2
  have K2 : Hid (RfS w2 lo' M l' s) := G2.out.kept fun k _ hk => hb2.block k (Nat.lt_of_le_of_lt hk G2.out.lt)
  have d0 : w2.cell? ⟨w.heap.size, 0, none⟩ = some (.pointer (some ⟨R, 0, none⟩)) := (hb2.cell hsz).trans b0
  have d1 : w2.cell? ⟨w.heap.size, 1, none⟩ = some (.pointer (some ⟨M, 0, none⟩)) := (hb2.cell hsz).trans b1
  have d2 : w2.cell? ⟨M, 2, none⟩ = some (.int .i64 s.fe) := (rfs_cells K2.out).1
  have d3 : w2.cell? ⟨M, 3, none⟩ = some (.int .i64 s.fa) := (rfs_cells K2.out).2
  have HB2 : Hid (Below w.heap.size w w2) := Below.up HBB.out hb2
  have CA : Hid (∀ j, Calls Tryz.prog 57 #[.pointer (some ⟨R, 0, none⟩)] (w2.drewN j) fun e w' => e = .returned (.int .i64 s.p) ∧ w' = w2.drewN j) := fun j => at_any lo R l s _ (K1.out.grown ⟨rfl, rfl, rfl, Nat.le_refl _, fun _ _ => rfl⟩)
  have CM : Hid (∀ j, Calls Tryz.prog 58 #[.pointer (some ⟨M, 0, none⟩)] (w2.drewN j) fun e w' => e = .returned (.int .i64 s.p) ∧ w' = w2.drewN j) := fun j => refAt_any lo' M l' s _ (RfS.drewN K2.out j)
  have q1 : (s.fe != s.fe) = false := by simp
  clear hb1 hc1 hb2 b0 b1 ewb G1 G2 HBB HER
  obtain ⟨p, fa, fe⟩ := s
  simp only at d2 d3 CA CM q1
  go_quiet ((first | (go_at_call 57; exact Calls.quiet_of_same (CA.out _)) | (go_at_call 58; exact Calls.quiet_of_same (CM.out _))))
  by_cases hf : fe = 0
  · subst hf
    go_wp2
    go_ret
    exact ⟨rfl, HB2.out.trans ⟨rfl, rfl, rfl, Nat.le_refl _, fun _ _ => rfl⟩⟩
  · have hp : pl = fa := by have := HPL.out; simp only [hf, if_false] at this; exact this.symm
    subst hp
    have hfb : (fe == 0) = false := by simpa using hf
    go_wp2
    go_ret
    exact ⟨rfl, HB2.out.trans ⟨rfl, rfl, rfl, Nat.le_refl _, fun _ _ => rfl⟩⟩
end Go.Proofs.YthpelabmfpogbaaGreatDoor
