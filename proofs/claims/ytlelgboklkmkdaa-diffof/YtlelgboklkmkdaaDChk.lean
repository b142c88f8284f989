import Derived.Test.YtlelgboklkmkdaaDOf1
/-
  What Check's silence means for the paths; the reference's joining in Lean alone.
-/
namespace Go.Proofs.Ytlelgboklkmkdaa
open Go.RowKit Ch
def goodN : F → Prop
  | .nil => True
  | .cons nm _ _ k r => nameB (tl nm) = true ∧ goodN k ∧ goodN r
theorem own_kind {v : Vd} {m : Md} {b : Bool} (h : ownE v m b = 0) : v ≠ DO.vz := by
  rintro rfl
  unfold ownE at h
  rw [if_pos (by decide)] at h
  cases h
theorem bl_below : ∀ a b : By, Op.bytesLess a b = belowL a b
  | [], [] => rfl
  | [], _ :: _ => rfl
  | _ :: _, [] => rfl
  | x :: a, y :: b => by
    have ih := bl_below a b
    unfold Op.bytesLess belowL
    by_cases e : x = y
    · subst e
      simp [ih]
    · simp [e, UInt8.lt_iff_toNat_lt]
theorem fault_none : ∀ (f : F) (prev : Option ByteArray) (L : List ByteArray), faultF f prev L = none → DO.Rise f ∧ goodN f ∧ ∀ p, prev = some p → ∀ x ∈ DO.nms f, belowL (tl p) x = true
  | .nil, _, _, _ => ⟨trivial, trivial, fun _ _ _ h => by cases h⟩
  | .cons nm v m k r, prev, L, h => by
    rw [faultF] at h
    by_cases h1 : placeE prev nm (L.length + 1) ≠ 0
    · rw [if_pos h1] at h; cases h
    · rw [if_neg h1] at h
      by_cases h2 : ownE v m (decide (0 < k.len)) ≠ 0
      · rw [if_pos h2] at h; cases h
      · rw [if_neg h2] at h
        cases hk : faultF k none (L ++ [nm]) with
        | some x => rw [hk] at h; cases h
        | none =>
          rw [hk] at h
          obtain ⟨a1, a2, _⟩ := fault_none k none _ hk
          obtain ⟨b1, b2, b3⟩ := fault_none r (some nm) L h
          have h1' : placeE prev nm (L.length + 1) = 0 := by simpa using h1
          have hv := own_kind (by simpa using h2 : ownE v m (decide (0 < k.len)) = 0)
          unfold placeE at h1'
          split at h1'
          · cases h1'
          · split at h1'
            · cases h1'
            · rename_i hn
              split at h1'
              · cases h1'
              · rename_i hle
                refine ⟨⟨hv, a1, b1, b3 nm rfl⟩, ⟨by simpa using hn, a2, b2⟩, fun p hp x hx => ?_⟩
                subst hp
                have hlt : belowL (tl p) (tl nm) = true := by
                  have h9 : leB nm p = false := by simpa [leP] using hle
                  rw [leB_geq] at h9
                  rw [← bl_below]
                  simpa using h9
                rcases List.mem_cons.1 hx with rfl | hx
                · exact hlt
                · exact DO.below_trans hlt (b3 nm rfl x hx)
theorem fault_nz : ∀ (f : F) (prev : Option ByteArray) (L P : List ByteArray) (e : Int), faultF f prev L = some (P, e) → e ≠ 0
  | .nil, _, _, _, _, h => by cases h
  | .cons nm v m k r, prev, L, P, e, h => by
    rw [faultF] at h
    by_cases h1 : placeE prev nm (L.length + 1) ≠ 0
    · rw [if_pos h1] at h
      injection h with h
      injection h with _ h
      rw [← h]
      exact h1
    · rw [if_neg h1] at h
      by_cases h2 : ownE v m (decide (0 < k.len)) ≠ 0
      · rw [if_pos h2] at h
        injection h with h
        injection h with _ h
        rw [← h]
        exact h2
      · rw [if_neg h2] at h
        cases hk : faultF k none (L ++ [nm]) with
        | some x =>
          rw [hk] at h
          obtain ⟨P', e'⟩ := x
          injection h with h
          injection h with _ h
          rw [← h]
          exact fault_nz k _ _ _ _ hk
        | none =>
          rw [hk] at h
          exact fault_nz r _ _ _ _ h
theorem check_rise {v : Vd} {m : Md} {ks : F} (h : checkE v m ks = 0) : DO.Rise ks ∧ goodN ks := by
  unfold checkE at h
  have hn : faultN v m ks [] = none := by
    cases hf : faultN v m ks [] with
    | none => rfl
    | some x =>
      obtain ⟨P, e⟩ := x
      rw [hf] at h
      exfalso
      unfold faultN at hf
      split at hf
      · rename_i h1
        injection hf with hf
        injection hf with _ hf
        exact h1 (hf.trans h)
      · exact fault_nz _ _ _ _ _ hf h
  unfold faultN at hn
  split at hn
  · cases hn
  · obtain ⟨h1, h2, _⟩ := fault_none ks none [] hn
    exact ⟨h1, h2⟩
/-- names of which a path may be made -/
def goodL (L : List By) : Prop := ∀ x ∈ L, nameB x = true
theorem pieces_join {L : List By} (h : goodL L) : pieces (joinL L) = L := by
  cases L with
  | nil => rfl
  | cons x L =>
    have hx : ∀ p ∈ x :: L, 1 ≤ p.length ∧ ∀ y ∈ p, y ≠ 47 := fun p hp => by
      have := h p hp
      unfold nameB at this
      simp only [decide_eq_true_eq] at this
      exact ⟨this.1, fun y hy => (this.2.2.2.2 y hy).1⟩
    unfold pieces
    rw [if_neg ?_, cuts_join (by simp) fun p hp => (hx p hp).2]
    intro e
    have h1 := (hx x (by simp)).1
    have : (joinL (x :: L)).length = 0 := by rw [e]; rfl
    cases L with
    | nil => simp only [joinL] at this; omega
    | cons y L => simp only [joinL, List.length_append, List.length_cons] at this; omega
theorem cmpL_join {L M : List By} (h1 : goodL L) (h2 : goodL M) : cmpL (joinL L) (joinL M) = cmpP L M := by
  rw [← cmpP_pieces, pieces_join h1, pieces_join h2]
/-- an entry tells of a path -/
def Tells (e : Et) (d : DO.Ent) : Prop := e.p = ofB (joinL d.p) ∧ e.v = d.v ∧ goodL d.p
inductive Tells2 : List Et → List DO.Ent → Prop
  | nil : Tells2 [] []
  | cons {e d a b} (h : Tells e d) (t : Tells2 a b) : Tells2 (e :: a) (d :: b)
theorem Tells2.append {a a' b b'} (h : Tells2 a b) (k : Tells2 a' b') : Tells2 (a ++ a') (b ++ b') := by
  induction h with
  | nil => exact k
  | cons h _ ih => exact .cons h ih
theorem goodL.snoc {L : List By} (h : goodL L) {x : By} (hx : nameB x = true) : goodL (L ++ [x]) := fun y hy => by
  rcases List.mem_append.1 hy with hy | hy
  · exact h y hy
  · simp at hy; rw [hy]; exact hx
theorem belowS_join {L : List By} (h : goodL L) (nm : ByteArray) : belowS (ofB (joinL L)) nm = ofB (joinL (L ++ [tl nm])) := by
  unfold belowS
  have e0 : (ofB (joinL L)).toList = joinL L := tl_ofB _
  by_cases hL : L = []
  · subst hL
    rw [if_pos (by rw [e0]; rfl)]
    exact (ofB_tl nm).symm
  · have hne : joinL L ≠ [] := by
      intro e
      have := pieces_join h
      rw [e] at this
      exact hL this.symm
    rw [if_neg (by rw [e0]; simpa using hne), joinL_snoc L _ hL]
    refine ext_of _ _ ?_
    rw [tl_ofB, tl_append, tl_append, tl_ofB]
    simp [tl]
theorem flat_tells : ∀ (f : F) (L : List By), goodL L → goodN f → Tells2 (flatK (ofB (joinL L)) f) (DO.flatF L f)
  | .nil, _, _, _ => .nil
  | .cons nm v m k r, L, hL, ⟨h1, h2, h3⟩ => by
    rw [flatK, DO.flatF, belowS_join hL]
    have hL' := hL.snoc h1
    exact Tells2.append (.cons ⟨rfl, rfl, hL'⟩ (flat_tells k _ hL' h2)) (flat_tells r L hL h3)
end Go.Proofs.Ytlelgboklkmkdaa
