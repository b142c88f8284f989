/-
  path.Join, few by contract.
-/
import Derived.Test.YtglnpmdigghibaaPShelf
import Derived.Test.YtglnpmdigghibaaPTexts
import Derived.Lib.Join
import Derived.RangeFuncBox
namespace Go.Proofs.Ytglnpmdigghibaa
open Go.RowKit

theorem lib_join : ∀ L : List By, Lib.join L [47] = joinL L
  | [] => rfl
  | [x] => Lib.join_one x [47]
  | x :: y :: t => by
    have ih := lib_join (y :: t)
    unfold Lib.join at ih ⊢
    rw [joinL, ← ih]
    simp [List.intercalate]
/-- a text of these bytes -/
def ofB (l : By) : ByteArray := ⟨l.toArray⟩
theorem tl_ofB (l : By) : tl (ofB l) = l := by simp [tl, ofB]
theorem ofB_tl (s : ByteArray) : ofB (tl s) = s := ext_of _ _ (tl_ofB _)

theorem sJoin_any (v : Value) (L : List ByteArray) (w : World) (hv : HasT w v L) (hn : L.length ≤ 1048577) (hs : (joinL (L.map tl)).length ≤ 1048576) :
    Calls Try.prog 39 #[v, .string ⟨#[47]⟩] w fun e w' => e = .returned (.string (ofB (joinL (L.map tl)))) ∧ Below w.heap.size w w' := by
  rcases hv with ⟨rfl, rfl⟩ | ⟨a, cap, rfl, hc, hcell⟩
  · exact (Try.strings_Join_none none 0 ⟨#[47]⟩ w).mono fun e w' h => ⟨h.1, by rw [h.2]; exact Below.refl _ _⟩
  · cases L with
    | nil => exact (Try.strings_Join_none (some a) cap ⟨#[47]⟩ w).mono fun e w' h => ⟨h.1, by rw [h.2]; exact Below.refl _ _⟩
    | cons x L =>
      have h0 := hcell 0 x rfl
      have hadd : a.add 0 = a := by simp [Addr.add]
      rw [hadd] at h0
      obtain ⟨bk, o, sp⟩ := a
      have hsp : sp = none := by
        cases sp with
        | none => rfl
        | some q => simp only [World.cell?] at h0; split at h0 <;> simp at h0
      subst hsp
      have hE : (fun s : ByteArray => s.data.toList) = tl := by funext s; rw [tl, ByteArray.toList_eq]
      have hlen : (Lib.join ((x :: L).map (·.data.toList)) (ByteArray.data ⟨#[47]⟩).toList).length ≤ 140737488355328 := by
        rw [hE]
        show (Lib.join _ [47]).length ≤ _
        rw [lib_join]; omega
      refine (Try.strings_Join bk o cap (x :: L) ⟨#[47]⟩ w (fun j y hj => ?_) (World.block_lt_of_cell? w _ h0) (by omega) hc hlen).mono fun e w' h => ⟨?_, h.2⟩
      · have := hcell j y hj
        by_cases e : j = 0
        · subst e; rw [hadd] at this; exact this
        · simpa [Addr.add, e] using this
      · rw [h.1, hE]
        show Ending.returned (.string ⟨(Lib.join _ [47]).toArray⟩) = _
        rw [lib_join]; rfl

set_option maxHeartbeats 1000000 in
set_option maxRecDepth 100000 in
theorem pathJoin_any (v : Value) (L : List ByteArray) (w : World) (hv : HasT w v L) (hn : L.length ≤ 1048577) (hs : (joinL (L.map tl)).length ≤ 1048576) :
    Calls Try.prog 28 #[v] w fun e w' => e = .returned (.string (ofB (joinL (L.map tl)))) ∧ Below w.heap.size w w' := by
  have C := sJoin_any v L w hv hn hs
  obtain ⟨ao, cap, rfl, _⟩ := hv.form
  clear hv hs
  generalize ofB (joinL (L.map tl)) = z at *
  go_enter Try.func28, Try.ntmps28
  go_wp2_with (go_at_call 39; refine C.mono ?_; rintro e w1 ⟨rfl, b1⟩)
  go_ret
  exact ⟨rfl, b1⟩

end Go.Proofs.Ytglnpmdigghibaa
