/-
  few, in, sameInts by contract.
-/
import Derived.Test.YtpenaeoodfgmpaaGreatDoorOfP
namespace Go.Proofs.YtpenaeoodfgmpaaGreatDoor
open Go.RowKit

/-- a list of ints lies there -/
def HasN (w : World) (v : Value) (R : List Int) : Prop :=
  ∃ ao cap, v = .slice ao R.length cap ∧ (∀ (i : Nat) (x : Int), R[i]? = some x → ∃ g o, ao = some ⟨g, o, none⟩ ∧ w.cell? ⟨g, o + i, none⟩ = some (.int .i64 x))
theorem HasN.up {w w' : World} {v : Value} {L : List Int} (h : HasN w v L) (hb : G w w') : HasN w' v L := by
  obtain ⟨ao, cap, hv, h⟩ := h
  refine ⟨ao, cap, hv, fun i c hi => ?_⟩
  obtain ⟨g, o, ha, hl⟩ := h i c hi
  refine ⟨g, o, ha, ?_⟩
  rw [hb.cell (World.block_lt_of_cell? w _ hl)]
  exact hl
theorem OwnsN.has {w : World} {lo : Nat} {v : Value} {T : List Int} (h : OwnsN w lo v T) : HasN w v T := by
  have h0 := h
  obtain ⟨_, ⟨rfl, hl⟩ | ⟨g, cap, cur, rfl, hr⟩⟩ := h
  · refine ⟨none, 0, by rw [hl], fun i t hi => ?_⟩
    have := List.length_eq_zero_iff.1 hl
    subst this
    simp at hi
  · refine ⟨_, cap, rfl, fun i t hi => ⟨g, 0, rfl, ?_⟩⟩
    have hlt := (List.getElem?_eq_some_iff.1 hi).1
    have := flat_at nc_size hi (j := 0) (by omega)
    rw [Nat.zero_add, World.ownsRow.cellAt h0 _ (by omega)]
    simpa [nc] using this
theorem HasN.at {w : World} {ao : Option Addr} {n cp : Nat} {R : List Int} (h : HasN w (.slice ao n cp) R) {i : Nat} {x : Int} (hi : R[i]? = some x) : ∃ g o, ao = some ⟨g, o, none⟩ ∧ w.cell? ⟨g, o + i, none⟩ = some (.int .i64 x) := by
  obtain ⟨a, c, e, h⟩ := h
  injection e with e1 e2 e3
  subst e1
  exact h i x hi
theorem HasC.at {w : World} {ao : Option Addr} {n cp : Nat} {R : List Cd} (h : HasC w (.slice ao n cp) R) {i : Nat} {x : Cd} (hi : R[i]? = some x) : ∃ g o, ao = some ⟨g, o, none⟩ ∧ Lies w g (o + i * 10) (cc x) := by
  obtain ⟨a, c, e, h, _⟩ := h
  injection e with e1 e2 e3
  subst e1
  exact h i x hi
theorem HasI.at {w : World} {ao : Option Addr} {n cp : Nat} {R : List It} (h : HasI w (.slice ao n cp) R) {i : Nat} {x : It} (hi : R[i]? = some x) : ∃ g o, ao = some ⟨g, o, none⟩ ∧ Lies w g (o + i * 7) (ic x) := by
  obtain ⟨a, c, e, h⟩ := h
  injection e with e1 e2 e3
  subst e1
  exact h i x hi
/-- is it in the first k? -/
def inN (R : List Int) (x : Int) (k : Nat) : Bool := (R.take k).contains x
theorem inN_no {R : List Int} {x y : Int} {k : Nat} (h : R[k]? = some y) (hn : y ≠ x) : inN R x (k + 1) = inN R x k := by
  unfold inN
  rw [List.take_add_one, h]
  simp
  exact fun e => absurd e.symm hn
theorem inN_yes {R : List Int} {x : Int} {k : Nat} (h : R[k]? = some x) : R.contains x = true := by
  simpa using List.mem_of_getElem? h
set_option maxHeartbeats 1000000 in
set_option maxRecDepth 100000 in
/-- lists that are one -/
theorem sameInts_yes (ao bo : Option Addr) (cp cq : Nat) (R S : List Int) (w : World) (hv : HasN w (.slice ao R.length cp) R) (hu : HasN w (.slice bo S.length cq) S) (hRS : R = S) (hn : R.length ≤ 400) :
    Calls Tryz.prog 25 #[.slice ao R.length cp, .slice bo S.length cq] w fun e w' => e = .returned (.bool true) ∧ ∃ n, w' = w.drewN n := by
  subst hRS
  obtain ⟨n, hn'⟩ : ∃ n, R.length = n := ⟨_, rfl⟩
  have HV := hid hv
  have HU := hid hu
  have HN := hid hn'
  rw [hn']
  rw [hn'] at hn
  clear hv hn' hu
  go_enter Tryz.func25, Tryz.ntmps25
  go_wp2
  go_loopw [5] (fun i wr => ∃ k : Nat, k ≤ n ∧ i = .int .i64 k ∧ Hid (∃ m, wr = w.drewN m)) (fun i _ => n - (intOf i).toNat)
  case atStart => exact ⟨0, Nat.zero_le _, rfl, ⟨0, rfl⟩⟩
  case round =>
    obtain ⟨k, hk, rfl, HR⟩ := hrel
    by_cases hlt : k < n
    · obtain ⟨y, hy⟩ : ∃ y, R[k]? = some y := ⟨R[k]'(by rw [HN.out]; exact hlt), by simp⟩
      obtain ⟨g, o, rfl, hc⟩ := HV.out.at hy
      obtain ⟨g2, o2, rfl, hd⟩ := HU.out.at hy
      have hc' : wr.cell? ⟨g, o + k, none⟩ = some (.int .i64 y) := by obtain ⟨m, rfl⟩ := HR.out; simpa using hc
      have hd' : wr.cell? ⟨g2, o2 + k, none⟩ = some (.int .i64 y) := by obtain ⟨m, rfl⟩ := HR.out; simpa using hd
      have ltI : (k : Int) < (n : Int) := by omega
      have geI : (0 : Int) ≤ (k : Int) := by omega
      clear hy hc hd
      go_wp2
      go_quiet (fail)
      go_wp2
      go_roundw
      case rel => exact ⟨k + 1, by omega, by go_num, by obtain ⟨m, rfl⟩ := HR.out; exact ⟨_, by rw [World.drewN_drewN]⟩⟩
      case measure => simp [intOf]; omega
    · obtain rfl : k = n := by omega
      go_wp2
      go_ret
      exact ⟨rfl, HR.out⟩
/-- what few answers -/
def FewR (L : List Cd) (w : World) (e : Ending) (w' : World) : Prop := ∃ b, e = .returned (.bool b) ∧ (b = true → L.length ≤ 300) ∧ G w w'
/-- few's loop: the merge's variable, the Count -/
def FS (w wr : World) (M C : Nat) (v : Value) : Prop := wr.heap[M]? = some (.cells #[v] 24 (0, 0)) ∧ CountAt wr C ∧ M ≠ C ∧ w.heap.size ≤ C ∧ G w wr
theorem FS.text {w wr w' : World} {M C : Nat} {v : Value} (h : FS w wr M C v) (h1 : CountAt w' C) (h2 : But C wr w') : FS w w' M C v :=
  ⟨(h2.block M (Array.getElem?_eq_some_iff.1 h.1).1 h.2.2.1).trans h.1, h1, h.2.2.1, h.2.2.2.1, h.2.2.2.2.trans (h2.below h.2.2.2.1 h.2.2.2.2.size)⟩
set_option maxHeartbeats 1000000 in
set_option maxRecDepth 100000 in
theorem few_any (ao : Option Addr) (cp : Nat) (L : List Cd) (w : World) (hv : HasC w (.slice ao L.length cp) L) (hl : L.length ≤ 9223372036854775807) :
    Calls Tryz.prog 4 #[.agg #[.slice ao L.length cp]] w (FewR L w) := by
  obtain ⟨n, hn'⟩ : ∃ n, L.length = n := ⟨_, rfl⟩
  have HV := hid hv
  have HN := hid hn'
  rw [hn']
  rw [hn'] at hl
  clear hv hn'
  have K1 := hid (fun W => many_any 65536 W)
  have K2 := hid (fun C W hW => ok_any C W hW)
  have K3 := hid (fun C s W hW => text_any C s W hW)
  obtain ⟨M, hM⟩ : ∃ M, w.heap.size = M := ⟨_, rfl⟩
  go_enter Tryz.func4, Tryz.ntmps4
  go_upto_region 2 with (go_at_call 13; refine (K1.out _).mono ?_; rintro e w1 ⟨rfl, hc1, hb1⟩; simp only [World.size_alloc, hM] at hc1; have H1 := hid (And.intro hc1 hb1); clear hc1 hb1)
  have HF : Hid (FS w w1 M (M + 1) (.slice ao n cp)) := by
    refine ⟨?_, H1.out.1, by omega, by omega, (G.al _ _).up H1.out.2⟩
    rw [H1.out.2.block M (by simp; omega), ← hM]
    exact heap_alloc_new _ _
  clear hM H1
  go_wp2
  go_loopw [4] (fun i wr => ∃ k : Nat, k ≤ n ∧ i = .int .i64 k ∧ Hid (FS w wr M (M + 1) (.slice ao n cp))) (fun i _ => n - (intOf i).toNat)
  case atStart => exact ⟨0, Nat.zero_le _, rfl, HF.out⟩
  case round =>
    clear HF
    obtain ⟨k, hk, rfl, HR⟩ := hrel
    have hm : wr.cell? ⟨M, 0, none⟩ = some (.slice ao n cp) := cell_of_row _ _ 0 _ _ _ HR.out.1
    have A2 := hid (K2.out (M + 1) wr HR.out.2.1)
    by_cases hlt : k < n
    · obtain ⟨c, hc⟩ : ∃ c, L[k]? = some c := ⟨L[k]'(by rw [HN.out]; exact hlt), by simp⟩
      obtain ⟨g, o, rfl, hl'⟩ := (HV.out.up HR.out.2.2.2.2).at hc
      have q0 : wr.cell? ⟨g, o + k * 10, none⟩ = some (.string c.path) := hl' 0 _ rfl
      have A3 := hid (K3.out (M + 1) c.path wr HR.out.2.1)
      have ltI : (k : Int) < (n : Int) := by omega
      have geI : (0 : Int) ≤ (k : Int) := by omega
      clear hl' hc
      by_cases hn3 : (n : Int) ≤ 300
      · go_wp2_with (first
          | (go_at_call 14; refine A2.out.mono ?_; rintro e w2 ⟨⟨b, rfl⟩, rfl⟩; cases b)
          | (go_at_call 15; refine A3.out.mono ?_; rintro e w2 ⟨rfl, h2, h3⟩; have H2 := hid (And.intro h2 h3); clear h2 h3))
        all_goals first
          | (go_ret; exact ⟨_, rfl, fun _ => by rw [HN.out]; omega, HR.out.2.2.2.2⟩)
          | (go_roundw
             case rel => exact ⟨k + 1, by omega, by go_num, HR.out.text H2.out.1 H2.out.2⟩
             case measure => simp [intOf]; omega)
      · go_wp2_with (first
          | (go_at_call 14; refine A2.out.mono ?_; rintro e w2 ⟨⟨b, rfl⟩, rfl⟩; cases b)
          | (go_at_call 15; refine A3.out.mono ?_; rintro e w2 ⟨rfl, h2, h3⟩; have H2 := hid (And.intro h2 h3); clear h2 h3))
        all_goals first
          | (go_ret; exact ⟨_, rfl, fun h => (by cases h), HR.out.2.2.2.2⟩)
          | (go_roundw
             case rel => exact ⟨k + 1, by omega, by go_num, HR.out.text H2.out.1 H2.out.2⟩
             case measure => simp [intOf]; omega)
    · by_cases hn3 : (n : Int) ≤ 300
      · go_wp2_with (go_at_call 14; refine A2.out.mono ?_; rintro e w2 ⟨⟨b, rfl⟩, rfl⟩; cases b)
        all_goals (go_ret; exact ⟨_, rfl, fun _ => by rw [HN.out]; omega, HR.out.2.2.2.2⟩)
      · go_wp2
        go_ret
        exact ⟨_, rfl, fun h => (by cases h), HR.out.2.2.2.2⟩
end Go.Proofs.YtpenaeoodfgmpaaGreatDoor
