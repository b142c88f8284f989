/-
  Lists of rules that the Book keeps; its sameRules, where the two hold the same.
-/
import Derived.Test.YtpngnhpnjkepjaaGreatDoorRRows
import Derived.Test.YtpngnhpnjkepjaaGreatDoorBkKeep
namespace Go.Proofs.YtpngnhpnjkepjaaGreatDoor
open Go.RowKit

def HasQ (w : World) (v : Value) (L : List Ru) : Prop := Bk.HasV w v L.length (rcs L)
theorem HasQ.form {w : World} {v : Value} {L : List Ru} (h : HasQ w v L) : ∃ ao cap, v = .slice ao L.length cap ∧ L.length ≤ cap := by
  rcases h with ⟨rfl, e⟩ | ⟨g, cap, rfl, hc, _⟩
  · exact ⟨none, 0, by rw [e], by omega⟩
  · exact ⟨_, cap, rfl, hc⟩
theorem HasQ.below {w w' : World} {v : Value} {L : List Ru} (h : HasQ w v L) (hb : Below w.heap.size w w') : HasQ w' v L := by
  rcases h with h | ⟨g, cap, rfl, hc, h⟩
  · exact .inl h
  · exact .inr ⟨g, cap, rfl, hc, fun i u hi => (hb.cell (p := ⟨g, i, none⟩) (World.block_lt_of_cell? _ ⟨g, i, none⟩ (h i u hi))).trans (h i u hi)⟩
theorem HasQ.heap {w w' : World} {v : Value} {L : List Ru} (h : HasQ w v L) (hz : w'.heap = w.heap) : HasQ w' v L := Bk.HasV.block h fun b _ => by rw [hz]
theorem HasQ.at {w : World} {ao : Option Addr} {cap : Nat} {L : List Ru} (h : HasQ w (.slice ao L.length cap) L) {i : Nat} {r : Ru} (hi : L[i]? = some r) :
    ∃ g, ao = some ⟨g, 0, none⟩ ∧ w.cell? ⟨g, i * 2, none⟩ = some (.int .i64 (r.1 : Int)) ∧ w.cell? ⟨g, i * 2 + 1, none⟩ = some (.string (ofB r.2)) := by
  rcases h with ⟨_, e⟩ | ⟨g, c, e, _, h⟩
  · have := List.length_eq_zero_iff.1 e
    subst this; simp at hi
  · cases e; exact ⟨g, rfl, h _ _ (rcs_at hi).1, h _ _ (rcs_at hi).2⟩
theorem OwnsR.hasq {w : World} {lo : Nat} {v : Value} {L : List Ru} (h : OwnsR w lo v L) : HasQ w v L := Bk.HasV.of_row h
set_option maxRecDepth 100000 in
theorem neq57 (k : Int) (s : ByteArray) (w : World) : (binOp .neq 57 (.agg #[.int .i64 k, .string s]) (.agg #[.int .i64 k, .string s])).run Tryz.prog w = .ok (.bool false) w := by
  go_simp
set_option maxHeartbeats 2000000 in
set_option maxRecDepth 100000 in
theorem sameKept_eq (va vb : Value) (A : List Ru) (w : World) (ha : HasQ w va A) (hb : HasQ w vb A) (hal : A.length ≤ 1048576) :
    Calls Tryz.prog 62 #[va, vb] w fun e w' => e = .returned (.bool true) ∧ Below w.heap.size w w' := by
  obtain ⟨i0, hi, hz0, hz1, hz2⟩ := info_parts Tryz.info57
  have HA : Hid (HasQ w va A) := ha
  have HB : Hid (HasQ w vb A) := hb
  obtain ⟨ao, ca, rfl, _⟩ := ha.form
  obtain ⟨bo, cb, rfl, _⟩ := hb.form
  clear ha hb
  have hlb : ((A.length : Int) != (A.length : Int)) = false := by simp
  go_enter Tryz.func62, Tryz.ntmps62
  go_wp2
  go_loopw [5] (fun i wr => ∃ k : Nat, k ≤ A.length ∧ i = .int .i64 k ∧ Hid (Below w.heap.size w wr)) (fun i _ => A.length - iOf i)
  case atStart => exact ⟨0, Nat.zero_le _, rfl, Below.refl _ _⟩
  case round =>
    obtain ⟨k, hk, rfl, HS⟩ := hrel
    by_cases hlt : k < A.length
    · have i1 : (k : Int) < (A.length : Int) := by omega
      obtain ⟨r, hx⟩ : ∃ r, A[k]? = some r := ⟨_, List.getElem?_eq_getElem hlt⟩
      obtain ⟨ga, rfl, a0, a1⟩ := (HA.out.below HS.out).at hx
      obtain ⟨gb, rfl, b0, b1⟩ := (HB.out.below HS.out).at hx
      have b0' := fun o => cell_alloc_l o b0
      have b1' := fun o => cell_alloc_l o b1
      have hq := fun W => neq57 (r.1 : Int) (ofB r.2) W
      clear hx
      obtain ⟨q, p⟩ := r
      simp only at a0 a1 b0 b1 b0' b1' hq
      go_wp2
      have HS2 : Hid (Below w.heap.size w ((wr.alloc (.cells #[.int .i64 (q : Int), .string (ofB p)] 57)).alloc (.cells #[.int .i64 (q : Int), .string (ofB p)] 57))) := (HS.out.alloc HS.out.size _).alloc (by have := HS.out.size; simp; omega) _
      go_roundw
      case rel => exact ⟨k + 1, by omega, by go_num, HS2⟩
      case measure => simp; omega
    · have i1 : ¬ ((k : Int) < (A.length : Int)) := by omega
      go_wp2
      go_ret
      exact ⟨rfl, HS.out⟩
end Go.Proofs.YtpngnhpnjkepjaaGreatDoor
