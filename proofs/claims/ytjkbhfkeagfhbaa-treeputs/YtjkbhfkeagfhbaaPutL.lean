/-
  Put and Drop of names in plain Lean: what stands where afterwards.
-/
import Derived.Test.YtjkbhfkeagfhbaaSameP
namespace Go.Proofs.Ytjkbhfkeagfhbaa
open Go.RowKit

theorem F.get_cons_eq {n : ByteArray} {v : Vd} {m : Md} {k r : F} : (F.cons n v m k r).get n = some (v, m, k) := by rw [F.get, if_pos rfl]
/-- two lists that rise and tell the same of every name are one -/
theorem F.ext_get : ∀ {f g : F}, f.rises → g.rises → (∀ n, f.get n = g.get n) → f = g
  | .nil, .nil, _, _, _ => rfl
  | .nil, .cons n v m k r, _, _, h => by have := h n; rw [F.get_cons_eq] at this; cases this
  | .cons n v m k r, .nil, _, _, h => by have := h n; rw [F.get_cons_eq] at this; cases this
  | .cons n v m k r, .cons n' v' m' k' r', hf, hg, h => by
    have e : n = n' := by
      rcases lt_tri n n' with e | l | l
      · exact e
      · have h1 := h n
        rw [F.get_cons_eq, F.get_ne (lt_no l).2] at h1
        have := F.get_above2 hg.1 (nm := n) (by rw [← h1]; rfl)
        exact absurd this (lt_no l).1
      · have h1 := h n'
        rw [F.get_cons_eq, F.get_ne (lt_no l).2] at h1
        have := F.get_above2 hf.1 (nm := n') (by rw [h1]; rfl)
        exact absurd this (lt_no l).1
    subst e
    have h1 := h n
    rw [F.get_cons_eq, F.get_cons_eq] at h1
    injection h1 with h1
    injection h1 with e1 h1
    injection h1 with e2 e3
    subst e1 e2 e3
    have h2 : r = r' := F.ext_get hf.2.2 hg.2.2 fun x => by
      by_cases hx : x = n
      · subst hx
        rw [F.get_above hf.1, F.get_above hg.1]
      · have := h x
        rw [F.get_ne hx, F.get_ne hx] at this
        exact this
    rw [h2]
theorem F.put_above {a nm : ByteArray} {v : Vd} {m : Md} {fk : F} (h : lt a nm) : ∀ {f : F}, f.above a → (f.put nm v m fk).above a
  | .nil, _ => ⟨h, trivial⟩
  | .cons n v' m' k' r, ⟨h1, h2⟩ => by
    rw [F.put]
    split
    · exact ⟨h1, h2⟩
    · split
      · exact ⟨h, h1, h2⟩
      · exact ⟨h1, F.put_above h h2⟩
theorem F.put_rises {nm : ByteArray} {v : Vd} {m : Md} {fk : F} (hk : fk.rises) : ∀ {f : F}, f.rises → (f.put nm v m fk).rises
  | .nil, _ => ⟨trivial, hk, trivial⟩
  | .cons n v' m' k' r, ⟨h1, h2, h3⟩ => by
    rw [F.put]
    rcases lt_tri nm n with e | l | l
    · rw [if_pos (cmp3_eq.2 e)]
      exact ⟨h1, hk, h3⟩
    · rw [if_neg (by rw [cmp3_lt l]; decide), if_pos (cmp3_lt l)]
      exact ⟨⟨l, F.above_mono l h1⟩, hk, h1, h2, h3⟩
    · rw [if_neg (by rw [cmp3_gt l]; decide), if_neg (by rw [cmp3_gt l]; decide)]
      exact ⟨F.put_above l h1, h2, F.put_rises hk h3⟩
theorem F.get_put {nm x : ByteArray} {v : Vd} {m : Md} {fk : F} : ∀ {f : F}, f.rises → (f.put nm v m fk).get x = if x = nm then some (v, m, fk) else f.get x
  | .nil, _ => by simp only [F.put, F.get]
  | .cons n v' m' k' r, ⟨h1, h2, h3⟩ => by
    rw [F.put]
    rcases lt_tri nm n with e | l | l
    · rw [if_pos (cmp3_eq.2 e)]
      subst e
      by_cases hx : x = nm
      · subst hx; rw [if_pos rfl, F.get_cons_eq]
      · rw [if_neg hx, F.get_ne hx, F.get_ne hx]
    · rw [if_neg (by rw [cmp3_lt l]; decide), if_pos (cmp3_lt l)]
      by_cases hx : x = nm
      · subst hx; rw [if_pos rfl, F.get_cons_eq]
      · rw [if_neg hx, F.get_ne hx]
    · rw [if_neg (by rw [cmp3_gt l]; decide), if_neg (by rw [cmp3_gt l]; decide)]
      by_cases hx : x = n
      · subst hx
        rw [F.get_cons_eq, F.get_cons_eq, if_neg (lt_no l).2]
      · rw [F.get_ne hx, F.get_ne hx, F.get_put h3]
/-- a list of children without a name -/
def F.del : F → ByteArray → F
  | .nil, _ => .nil
  | .cons n v m k r, nm => if nm = n then r else .cons n v m k (r.del nm)
theorem F.del_above {a nm : ByteArray} : ∀ {f : F}, f.above a → (f.del nm).above a
  | .nil, _ => trivial
  | .cons n v' m' k' r, ⟨h1, h2⟩ => by
    rw [F.del]
    split
    · exact h2
    · exact ⟨h1, F.del_above h2⟩
theorem F.del_rises {nm : ByteArray} : ∀ {f : F}, f.rises → (f.del nm).rises
  | .nil, _ => trivial
  | .cons n v' m' k' r, ⟨h1, h2, h3⟩ => by
    rw [F.del]
    split
    · exact h3
    · exact ⟨F.del_above h1, h2, F.del_rises h3⟩
theorem F.get_del {nm x : ByteArray} : ∀ {f : F}, f.rises → (f.del nm).get x = if x = nm then none else f.get x
  | .nil, _ => by simp [F.del, F.get]
  | .cons n v' m' k' r, ⟨h1, h2, h3⟩ => by
    rw [F.del]
    by_cases e : nm = n
    · rw [if_pos e]
      subst e
      by_cases hx : x = nm
      · subst hx; rw [if_pos rfl, F.get_above h1]
      · rw [if_neg hx, F.get_ne hx]
    · rw [if_neg e]
      by_cases hx : x = n
      · subst hx
        rw [F.get_cons_eq, F.get_cons_eq, if_neg (Ne.symm e)]
      · rw [F.get_ne hx, F.get_ne hx, F.get_del h3]
/-- what a tree tells: its value, its marks and its children -/
theorem T3.ext' {t u : T3} (h1 : t.1 = u.1) (h2 : t.2.1 = u.2.1) (h3 : t.2.2 = u.2.2) : t = u := Prod.ext h1 (Prod.ext h2 h3)
theorem putT_rises : ∀ {t : T3} {L : List ByteArray} {s : T3}, t.2.2.rises → s.2.2.rises → (putT t L s).2.2.rises
  | t, [], s, _, hs => hs
  | t, nm :: L, s, ht, hs => by
    rw [putT]
    refine F.put_rises ?_ ht
    refine putT_rises ?_ hs
    cases hg : t.2.2.get nm with
    | none => exact hs
    | some y => exact (F.rises_get ht hg).1
theorem putT_get {t : T3} {nm x : ByteArray} {L : List ByteArray} {s : T3} (ht : t.2.2.rises) : (putT t (nm :: L) s).2.2.get x = if x = nm then some (putT ((t.2.2.get nm).getD s) L s) else t.2.2.get x := by
  rw [putT]
  exact F.get_put ht
/-- what was put stands there -/
theorem dn_putT : ∀ {t : T3} {L : List ByteArray} {s : T3}, t.2.2.rises → s.2.2.rises → dn (putT t L s) L = some s
  | t, [], s, _, _ => rfl
  | t, nm :: L, s, ht, hs => by
    rw [dn, putT_get ht, if_pos rfl]
    refine dn_putT ?_ hs
    cases hg : t.2.2.get nm with
    | none => exact hs
    | some y => exact (F.rises_get ht hg).1
/-- put twice is put once -/
theorem putT_putT : ∀ {t : T3} {L : List ByteArray} {a s : T3}, t.2.2.rises → a.2.2.rises → s.2.2.rises → wayTo t L → putT (putT t L a) L s = putT t L s
  | t, [], a, s, _, _, _, _ => rfl
  | t, nm :: L, a, s, ht, ha, hs, hw => by
    refine T3.ext' ?_ ?_ ?_
    · rw [putT, putT, putT]
    · rw [putT, putT, putT]
    · refine F.ext_get (putT_rises (putT_rises ht ha) hs) (putT_rises ht hs) fun x => ?_
      rw [putT_get (putT_rises ht ha), putT_get ht, putT_get ht, putT_get ht]
      by_cases hx : x = nm
      · subst hx
        simp only [if_pos, Option.getD_some]
        congr 1
        rcases hw with rfl | ⟨y, hy, hw⟩
        · rfl
        · rw [hy]
          exact putT_putT (F.rises_get ht hy).1 ha hs hw
      · rw [if_neg hx, if_neg hx, if_neg hx]
/-- put what stands there: nothing changes -/
theorem putT_dn : ∀ {t : T3} {L : List ByteArray} {s : T3}, t.2.2.rises → dn t L = some s → putT t L s = t
  | t, [], s, _, h => by injection h with h; exact h.symm
  | t, nm :: L, s, ht, h => by
    rw [dn] at h
    cases hg : t.2.2.get nm with
    | none => rw [hg] at h; cases h
    | some y =>
      rw [hg] at h
      have hy := (F.rises_get ht hg).1
      have e : putT y L s = y := putT_dn hy h
      have hs : s.2.2.rises := (dn_rises hy h).1
      refine T3.ext' ?_ ?_ ?_
      · rw [putT]
      · rw [putT]
      · refine F.ext_get (putT_rises ht hs) ht fun x => ?_
        rw [putT_get ht, hg]
        by_cases hx : x = nm
        · subst hx
          rw [if_pos rfl, Option.getD_some, e, hg]
        · rw [if_neg hx]
/-- a tree without what stands at names -/
def dropT : T3 → List ByteArray → T3
  | t, [] => t
  | t, [nm] => (t.1, t.2.1, t.2.2.del nm)
  | t, nm :: b :: L => match t.2.2.get nm with
    | none => t
    | some y => (t.1, t.2.1, t.2.2.put nm (dropT y (b :: L)).1 (dropT y (b :: L)).2.1 (dropT y (b :: L)).2.2)
theorem dropT_rises : ∀ {t : T3} {L : List ByteArray}, t.2.2.rises → (dropT t L).2.2.rises
  | t, [], h => h
  | t, [nm], h => F.del_rises h
  | t, nm :: b :: L, h => by
    rw [dropT]
    cases hg : t.2.2.get nm with
    | none => exact h
    | some y => exact F.put_rises (dropT_rises (F.rises_get h hg).1) h
theorem dropT_val : ∀ {t : T3} {L : List ByteArray}, (dropT t L).1 = t.1 ∧ (dropT t L).2.1 = t.2.1
  | t, [] => ⟨rfl, rfl⟩
  | t, [nm] => ⟨rfl, rfl⟩
  | t, nm :: b :: L => by
    rw [dropT]
    split <;> exact ⟨rfl, rfl⟩
theorem dropT_get {t y : T3} {nm b x : ByteArray} {L : List ByteArray} (ht : t.2.2.rises) (hy : t.2.2.get nm = some y) : (dropT t (nm :: b :: L)).2.2.get x = if x = nm then some (dropT y (b :: L)) else t.2.2.get x := by
  rw [dropT, hy]
  exact F.get_put ht
theorem dropT_get1 {t : T3} {nm x : ByteArray} (ht : t.2.2.rises) : (dropT t [nm]).2.2.get x = if x = nm then none else t.2.2.get x := F.get_del ht
/-- dropped behind a put: the tree without the names -/
theorem dropT_putT : ∀ {t : T3} {L : List ByteArray} {s : T3}, L ≠ [] → t.2.2.rises → s.2.2.rises → wayTo t L → dropT (putT t L s) L = dropT t L
  | t, [], s, h, _, _, _ => absurd rfl h
  | t, [nm], s, _, ht, hs, _ => by
    refine T3.ext' ?_ ?_ ?_
    · rw [dropT_val.1, dropT_val.1, putT]
    · rw [dropT_val.2, dropT_val.2, putT]
    · refine F.ext_get (dropT_rises (putT_rises ht hs)) (dropT_rises ht) fun x => ?_
      rw [dropT_get1 (putT_rises ht hs), dropT_get1 ht, putT_get ht]
      by_cases hx : x = nm
      · rw [if_pos hx, if_pos hx]
      · rw [if_neg hx, if_neg hx, if_neg hx]
  | t, nm :: b :: L, s, _, ht, hs, hw => by
    rcases hw with h | ⟨y, hy, hw⟩
    · cases h
    have hry := (F.rises_get ht hy).1
    have hg : (putT t (nm :: b :: L) s).2.2.get nm = some (putT y (b :: L) s) := by rw [putT_get ht, if_pos rfl, hy, Option.getD_some]
    refine T3.ext' ?_ ?_ ?_
    · rw [dropT_val.1, dropT_val.1, putT]
    · rw [dropT_val.2, dropT_val.2, putT]
    · refine F.ext_get (dropT_rises (putT_rises ht hs)) (dropT_rises ht) fun x => ?_
      rw [dropT_get (putT_rises ht hs) hg, dropT_get ht hy, putT_get ht]
      by_cases hx : x = nm
      · rw [if_pos hx, if_pos hx, dropT_putT (by simp) hry hs hw]
      · rw [if_neg hx, if_neg hx, if_neg hx]
/-- nothing stood there: the drop leaves the tree -/
theorem dropT_none : ∀ {t : T3} {L : List ByteArray}, L ≠ [] → t.2.2.rises → dn t L = none → dropT t L = t
  | t, [], h, _, _ => absurd rfl h
  | t, [nm], _, ht, h => by
    refine T3.ext' dropT_val.1 dropT_val.2 ?_
    refine F.ext_get (dropT_rises ht) ht fun x => ?_
    rw [dropT_get1 ht]
    by_cases hx : x = nm
    · subst hx
      rw [if_pos rfl]
      rw [dn] at h
      cases hg : t.2.2.get x with
      | none => rfl
      | some y => rw [hg] at h; cases h
    · rw [if_neg hx]
  | t, nm :: b :: L, _, ht, h => by
    rw [dn] at h
    cases hg : t.2.2.get nm with
    | none => rw [dropT, hg]
    | some y =>
      rw [hg] at h
      have e : dropT y (b :: L) = y := dropT_none (by simp) (F.rises_get ht hg).1 h
      refine T3.ext' dropT_val.1 dropT_val.2 ?_
      refine F.ext_get (dropT_rises ht) ht fun x => ?_
      rw [dropT_get ht hg, e]
      by_cases hx : x = nm
      · subst hx; rw [if_pos rfl, hg]
      · rw [if_neg hx]
/-- put back what was dropped -/
theorem putT_dropT : ∀ {t : T3} {L : List ByteArray} {s : T3}, t.2.2.rises → dn t L = some s → putT (dropT t L) L s = t
  | t, [], s, _, h => by injection h with h; exact h.symm
  | t, [nm], s, ht, h => by
    rw [dn] at h
    cases hg : t.2.2.get nm with
    | none => rw [hg] at h; cases h
    | some y =>
      rw [hg] at h
      injection h with h
      have h : y = s := h
      subst h
      have hs := (F.rises_get ht hg).1
      refine T3.ext' ?_ ?_ ?_
      · rw [putT, dropT_val.1]
      · rw [putT, dropT_val.2]
      · refine F.ext_get (putT_rises (dropT_rises ht) hs) ht fun x => ?_
        rw [putT_get (dropT_rises ht), dropT_get1 ht, dropT_get1 ht]
        by_cases hx : x = nm
        · subst hx; rw [if_pos rfl, if_pos rfl, hg]; rfl
        · rw [if_neg hx, if_neg hx]
  | t, nm :: b :: L, s, ht, h => by
    rw [dn] at h
    cases hg : t.2.2.get nm with
    | none => rw [hg] at h; cases h
    | some y =>
      rw [hg] at h
      have hy := (F.rises_get ht hg).1
      have e : putT (dropT y (b :: L)) (b :: L) s = y := putT_dropT hy h
      have hs : s.2.2.rises := (dn_rises hy h).1
      refine T3.ext' ?_ ?_ ?_
      · rw [putT, dropT_val.1]
      · rw [putT, dropT_val.2]
      · refine F.ext_get (putT_rises (dropT_rises ht) hs) ht fun x => ?_
        rw [putT_get (dropT_rises ht), dropT_get ht hg, dropT_get ht hg]
        by_cases hx : x = nm
        · subst hx; rw [if_pos rfl, if_pos rfl, Option.getD_some, e, hg]
        · rw [if_neg hx, if_neg hx]
/-- names that don't run through the place of a put: values there are as they were -/
theorem dn_apart : ∀ {t : T3} {L M : List ByteArray} {s : T3}, t.2.2.rises → s.2.2.rises → wayTo t L → ¬ L <+: M → (dn (putT t L s) M).map (·.1) = (dn t M).map (·.1)
  | t, [], M, s, _, _, _, h => absurd (List.nil_prefix) h
  | t, nm :: L, [], s, _, _, _, _ => by rw [dn, dn, putT]; rfl
  | t, nm :: L, x :: M, s, ht, hs, hw, h => by
    rw [dn, dn, putT_get ht]
    by_cases hx : x = nm
    · subst hx
      have h2 : ¬ L <+: M := fun q => h (List.cons_prefix_cons.2 ⟨rfl, q⟩)
      rw [if_pos rfl]
      rcases hw with rfl | ⟨y, hy, hw⟩
      · exact absurd List.nil_prefix h2
      · rw [hy]
        exact dn_apart (F.rises_get ht hy).1 hs hw h2
    · rw [if_neg hx]
/-- two puts at places apart go in either order -/
theorem putT_comm : ∀ {t : T3} {L M : List ByteArray} {a b : T3}, t.2.2.rises → a.2.2.rises → b.2.2.rises → wayTo t L → wayTo t M → ¬ L <+: M → ¬ M <+: L → putT (putT t L a) M b = putT (putT t M b) L a
  | t, [], M, a, b, _, _, _, _, _, h, _ => absurd List.nil_prefix h
  | t, n :: L, [], a, b, _, _, _, _, _, _, h => absurd List.nil_prefix h
  | t, n :: L, x :: M, a, b, ht, ha, hb, hL, hM, h1, h2 => by
    have r1 := putT_rises (L := n :: L) ht ha
    have r2 := putT_rises (L := x :: M) ht hb
    refine T3.ext' ?_ ?_ ?_
    · rw [putT, putT, putT, putT]
    · rw [putT, putT, putT, putT]
    · refine F.ext_get (putT_rises r1 hb) (putT_rises r2 ha) fun z => ?_
      rw [putT_get r1, putT_get r2, putT_get ht, putT_get ht, putT_get ht, putT_get ht]
      by_cases hnx : n = x
      · subst hnx
        have k1 : ¬ L <+: M := fun q => h1 (List.cons_prefix_cons.2 ⟨rfl, q⟩)
        have k2 : ¬ M <+: L := fun q => h2 (List.cons_prefix_cons.2 ⟨rfl, q⟩)
        by_cases hz : z = n
        · subst hz
          simp only [if_pos, Option.getD_some]
          rcases hL with rfl | ⟨y, hy, hL⟩
          · exact absurd List.nil_prefix k1
          rcases hM with rfl | ⟨y', hy', hM⟩
          · exact absurd List.nil_prefix k2
          rw [hy] at hy' ⊢
          injection hy' with e
          subst e
          rw [Option.getD_some, Option.getD_some, putT_comm (F.rises_get ht hy).1 ha hb hL hM k1 k2]
        · rw [if_neg hz, if_neg hz, if_neg hz, if_neg hz]
      · by_cases hz : z = n
        · subst hz
          rw [if_neg hnx, if_neg hnx, if_pos rfl]
        · by_cases hz2 : z = x
          · subst hz2
            rw [if_pos rfl, if_neg hz, if_pos rfl, if_neg hz]
          · rw [if_neg hz2, if_neg hz, if_neg hz, if_neg hz2]
end Go.Proofs.Ytjkbhfkeagfhbaa
