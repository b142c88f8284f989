/-
  THE BOOK's lists of changes; its sameChanges where the two hold the same.
-/
import Derived.Test.YthioflehpifflaaGreatDoorMem
import Derived.Test.YthioflehpifflaaGreatDoorBkRows
import Derived.Test.YthioflehpifflaaGreatDoorSplit
namespace Go.Proofs.YthioflehpifflaaGreatDoor
open Go.RowKit Bk

theorem mkHid {p : Prop} (h : p) : Hid p := h
abbrev Ru := Cd
def rcs (L : List Ru) : List Value := flat cc L
theorem rcs_len (L : List Ru) : (rcs L).length = L.length * 71 := flat_len cc_size L
theorem rcs_app (K M : List Ru) : rcs (K ++ M) = rcs K ++ rcs M := flat_app _ K M
theorem rcs_one (L : List Ru) : ∀ u ∈ rcs L, u.oneCell' = true := flat_one cc_one L
def OwnsR (w : World) (lo : Nat) (v : Value) (L : List Ru) : Prop := w.ownsRow lo 55 71 v L.length (rcs L)
def HasQ (w : World) (v : Value) (L : List Ru) : Prop := Bk.HasV w v L.length (rcs L)
theorem OwnsR.form {w : World} {lo : Nat} {v : Value} {l : List Ru} (h : OwnsR w lo v l) : ∃ p c, v = .slice p l.length c := row_form h
theorem HasQ.form {w : World} {v : Value} {L : List Ru} (h : HasQ w v L) : ∃ ao cap, v = .slice ao L.length cap ∧ L.length ≤ cap := by
  rcases h with ⟨rfl, e⟩ | ⟨g, cap, rfl, hc, _⟩
  · exact ⟨none, 0, by rw [e], by omega⟩
  · exact ⟨_, cap, rfl, hc⟩
theorem HasQ.below {w w' : World} {v : Value} {L : List Ru} (h : HasQ w v L) (hb : Below w.heap.size w w') : HasQ w' v L := by
  rcases h with h | ⟨g, cap, rfl, hc, h⟩
  · exact .inl h
  · exact .inr ⟨g, cap, rfl, hc, fun i u hi => (hb.cell (p := ⟨g, i, none⟩) (World.block_lt_of_cell? _ ⟨g, i, none⟩ (h i u hi))).trans (h i u hi)⟩
theorem OwnsR.hasq {w : World} {lo : Nat} {v : Value} {L : List Ru} (h : OwnsR w lo v L) : HasQ w v L := Bk.HasV.of_row h
theorem HasQ.at {w : World} {ao : Option Addr} {cap : Nat} {L : List Ru} (h : HasQ w (.slice ao L.length cap) L) {i : Nat} {r : Ru} (hi : L[i]? = some r) : ∃ g, ao = some ⟨g, 0, none⟩ ∧ Lies w g (i * 71) (cc r) := by
  rcases h with ⟨_, e⟩ | ⟨g, c, e, _, h⟩
  · have := List.length_eq_zero_iff.1 e
    subst this; simp at hi
  · cases e
    refine ⟨g, rfl, fun j u hj => h _ _ ?_⟩
    have hl := (Array.getElem?_eq_some_iff.1 hj).1
    rw [cc_size] at hl
    unfold rcs
    rw [flat_at cc_size hi hl]
    exact hj
theorem owns_lit0 (w : World) : OwnsR (w.alloc (.cells #[] 55)) w.heap.size (.slice (some ⟨w.heap.size, 0, none⟩) 0 0) [] :=
  ⟨by simp [rcs, flat], .inr ⟨_, 0, #[], rfl, Nat.le_refl _, heap_alloc_new w _, Nat.le_refl _, Nat.zero_le _, by simp, by simp [rcs, flat]⟩⟩
set_option maxHeartbeats 2000000 in
set_option maxRecDepth 100000 in
theorem sameKept_eq (va vb : Value) (A : List Ru) (w : World) (ha : HasQ w va A) (hb : HasQ w vb A) (hal : A.length ≤ 1048576) :
    Calls Tryz.prog 63 #[va, vb] w fun e w' => e = .returned (.bool true) ∧ Below w.heap.size w w' := by
  have HA : Hid (HasQ w va A) := ha
  have HB : Hid (HasQ w vb A) := hb
  obtain ⟨ao, ca, rfl, _⟩ := ha.form
  obtain ⟨bo, cb, rfl, _⟩ := hb.form
  clear ha hb
  have hlb : ((A.length : Int) != (A.length : Int)) = false := by simp
  go_enter Tryz.func63, Tryz.ntmps63
  go_wp2
  go_loopw [5] (fun i wr => ∃ k : Nat, k ≤ A.length ∧ i = .int .i64 k ∧ Hid (Below w.heap.size w wr)) (fun i _ => A.length - iOf i)
  case atStart => exact ⟨0, Nat.zero_le _, rfl, Below.refl _ _⟩
  case round =>
    obtain ⟨k, hk, rfl, HS⟩ := hrel
    by_cases hlt : k < A.length
    · have i1 : (k : Int) < (A.length : Int) := by omega
      obtain ⟨r, hx⟩ : ∃ r, A[k]? = some r := ⟨_, List.getElem?_eq_getElem hlt⟩
      obtain ⟨ga, rfl, la⟩ := (HA.out.below HS.out).at hx
      obtain ⟨gb, rfl, lb⟩ := (HB.out.below HS.out).at hx
      clear hx
      obtain ⟨B1, hB1⟩ : ∃ B1, wr.heap.size = B1 := ⟨_, rfl⟩
      have n1 := new_varT wr 55 z55 (cc r)
      rw [hB1] at n1
      obtain ⟨w1, hw1⟩ : ∃ w1, (wr.alloc (.cells z55 55)).setRow B1 (cc r) = w1 := ⟨_, rfl⟩
      rw [hw1] at n1
      have n2 := new_varT w1 55 z55 (cc r)
      rw [n1.2.2] at n2
      obtain ⟨w2, hw2⟩ : ∃ w2, (w1.alloc (.cells z55 55)).setRow (B1 + 1) (cc r) = w2 := ⟨_, rfl⟩
      rw [hw2] at n2
      have HLa : Hid (Lies wr ga (k * 71) (cc r)) := la
      have g1 : Below wr.heap.size wr w1 := by rw [hB1]; exact n1.1
      have g2 : Below w1.heap.size w1 w2 := by rw [n1.2.2]; exact n2.1
      have HLb : Hid (Lies w1 gb (k * 71) (cc r)) := lb.below g1
      have e1 : w2.heap[B1]? = some (.cells (cc r) 55 (0, 0)) := (n2.1.block B1 (by omega)).trans n1.2.1
      have HL1 : Hid (Lies w2 B1 0 (cc r)) := fun j u hj => by simp only [World.cell?, e1, Nat.zero_add]; exact hj
      have HL2 : Hid (Lies w2 (B1 + 1) 0 (cc r)) := fun j u hj => by simp only [World.cell?, n2.2.1, Nat.zero_add]; exact hj
      have HS2 : Hid (Below w.heap.size w w2) := Below.up (Below.up HS.out g1) g2
      have HA1 : Hid ((wr.alloc (.cells z55 55)).heap[B1]? = some (.cells z55 55 (0, 0))) := by rw [← hB1]; exact World.alloc_heap_new wr _
      have HA2 : Hid ((w1.alloc (.cells z55 55)).heap[B1 + 1]? = some (.cells z55 55 (0, 0))) := by rw [← n1.2.2]; exact World.alloc_heap_new w1 _
      have hB2 := n1.2.2
      have HE : Hid (∃ X, X = cc r ∧ X.size = 71 ∧ X.all (·.oneCell') = true) := ⟨_, rfl, cc_size r, cc_one r⟩
      obtain ⟨X, hX, hX1, hX2⟩ := HE.out
      have HX : Hid (X = cc r ∧ X.size = 71 ∧ X.all (·.oneCell') = true) := ⟨hX, hX1, hX2⟩
      rw [← hX] at HLa HLb HL1 HL2 hw1 hw2
      have HW1 : Hid ((wr.alloc (.cells z55 55)).setRow B1 X = w1) := hw1
      have HW2 : Hid ((w1.alloc (.cells z55 55)).setRow (B1 + 1) X = w2) := hw2
      clear la lb n1 n2 e1 g1 g2 hX hX1 hX2 HE hw1 hw2
      go_upto_region 7 with (first
        | ((with_reducible refine wpList_exec (.agg X) ?_ ?_ ?_); exact exec_load 55 _ rfl ga (k * 71) rfl X _ HLa.out under55 rfl (by rw [size55, HX.out.2.1]); kernel_rfl)
        | ((with_reducible refine wpList_execW (.pointer (some ⟨B1, 0, none⟩)) (wr.alloc (.cells z55 55)) ?_ ?_ ?_); exact exec_allocT 55 z55 rfl zero55 _ _ hB1; kernel_rfl)
        | ((with_reducible refine wpList_skipW w1 ?_ ?_ ?_); exact (by rw [← HW1.out]; exact exec_storeT 55 _ _ rfl B1 X z55 rfl rfl _ HA1.out (by rw [size55, HX.out.2.1]) (by rw [z55_size, HX.out.2.1]) HX.out.2.2); kernel_rfl))
      go_upto_region 8 with (first
        | ((with_reducible refine wpList_exec (.agg X) ?_ ?_ ?_); exact exec_load 55 _ rfl gb (k * 71) rfl X _ HLb.out under55 rfl (by rw [size55, HX.out.2.1]); kernel_rfl)
        | ((with_reducible refine wpList_execW (.pointer (some ⟨B1 + 1, 0, none⟩)) (w1.alloc (.cells z55 55)) ?_ ?_ ?_); exact exec_allocT 55 z55 rfl zero55 _ _ hB2; kernel_rfl)
        | ((with_reducible refine wpList_skipW w2 ?_ ?_ ?_); exact (by rw [← HW2.out]; exact exec_storeT 55 _ _ rfl (B1 + 1) X z55 rfl rfl _ HA2.out (by rw [size55, HX.out.2.1]) (by rw [z55_size, HX.out.2.1]) HX.out.2.2); kernel_rfl))
      go_wp2_with (first
        | ((with_reducible refine wpList_exec (.agg X) ?_ ?_ ?_); exact exec_load 55 _ rfl B1 0 rfl X _ HL1.out under55 rfl (by rw [size55, HX.out.2.1]); kernel_rfl)
        | ((with_reducible refine wpList_exec (.agg X) ?_ ?_ ?_); exact exec_load 55 _ rfl (B1 + 1) 0 rfl X _ HL2.out under55 rfl (by rw [size55, HX.out.2.1]); kernel_rfl)
        | ((with_reducible refine wpList_exec (.bool false) ?_ ?_ ?_); exact exec_neq55' _ _ rfl X X rfl rfl r r HX.out.1 HX.out.1 _ (by simp) _; kernel_rfl))
      go_roundw
      case rel => exact ⟨k + 1, by omega, by go_num, HS2⟩
      case measure => simp; omega
    · have i1 : ¬ ((k : Int) < (A.length : Int)) := by omega
      go_wp2
      go_ret
      exact ⟨rfl, HS.out⟩
end Go.Proofs.YthioflehpifflaaGreatDoor
