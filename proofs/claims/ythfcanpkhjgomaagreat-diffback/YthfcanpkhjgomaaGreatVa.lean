import Derived.Test.YthfcanpkhjgomaaGreatSameP
namespace Go.Proofs.YthfcanpkhjgomaaGreat
open Go.RowKit
theorem F.get_cons_eq {n : ByteArray} {v : Vd} {m : Md} {k r : F} : (F.cons n v m k r).get n = some (v, m, k) := by rw [F.get, if_pos rfl]
theorem F.ext_get : ∀ {f g : F}, f.rises → g.rises → (∀ n, f.get n = g.get n) → f = g
 | .nil, .nil, _, _, _ => rfl
 | .nil, .cons n v m k r, _, _, h => by have := h n; rw [F.get_cons_eq] at this; cases this
 | .cons n v m k r, .nil, _, _, h => by have := h n; rw [F.get_cons_eq] at this; cases this
 | .cons n v m k r, .cons n' v' m' k' r', hf, hg, h => by
  have e : n = n' := by
   rcases lt_tri n n' with e | l | l
   ·exact e
   ·have h1 := h n
    rw [F.get_cons_eq, F.get_ne (lt_no l).2] at h1
    have := F.get_above2 hg.1 (nm := n) (by rw [← h1]; rfl)
    exact absurd this (lt_no l).1
   ·have h1 := h n'
    rw [F.get_cons_eq, F.get_ne (lt_no l).2] at h1
    have := F.get_above2 hf.1 (nm := n') (by rw [h1]; rfl)
    exact absurd this (lt_no l).1
  subst e
  have h1 := h n
  rw [F.get_cons_eq, F.get_cons_eq] at h1
  injection h1 with h1
  injection h1 with e1 h1
  injection h1 with e2 e3
  subst e1 e2 e3
  have h2 : r = r' := F.ext_get hf.2.2 hg.2.2 fun x => by
   by_cases hx : x = n
   ·subst hx
    rw [F.get_above hf.1, F.get_above hg.1]
   ·have := h x
    rw [F.get_ne hx, F.get_ne hx] at this
    exact this
  rw [h2]
theorem F.put_above {a nm : ByteArray} {v : Vd} {m : Md} {fk : F} (h : lt a nm) : ∀ {f : F}, f.above a → (f.put nm v m fk).above a
 | .nil, _ => ⟨h, trivial⟩
 | .cons n v' m' k' r, ⟨h1, h2⟩ => by
  rw [F.put]
  split
  ·exact ⟨h1, h2⟩
  ·split
   ·exact ⟨h, h1, h2⟩
   ·exact ⟨h1, F.put_above h h2⟩
theorem F.put_rises {nm : ByteArray} {v : Vd} {m : Md} {fk : F} (hk : fk.rises) : ∀ {f : F}, f.rises → (f.put nm v m fk).rises
 | .nil, _ => ⟨trivial, hk, trivial⟩
 | .cons n v' m' k' r, ⟨h1, h2, h3⟩ => by
  rw [F.put]
  rcases lt_tri nm n with e | l | l
  ·rw [if_pos (cmp3_eq.2 e)]
   exact ⟨h1, hk, h3⟩
  ·rw [if_neg (by rw [cmp3_lt l]; decide), if_pos (cmp3_lt l)]
   exact ⟨⟨l, F.above_mono l h1⟩, hk, h1, h2, h3⟩
  ·rw [if_neg (by rw [cmp3_gt l]; decide), if_neg (by rw [cmp3_gt l]; decide)]
   exact ⟨F.put_above l h1, h2, F.put_rises hk h3⟩
theorem F.get_put {nm x : ByteArray} {v : Vd} {m : Md} {fk : F} : ∀ {f : F}, f.rises → (f.put nm v m fk).get x = if x = nm then some (v, m, fk) else f.get x
 | .nil, _ => by simp only [F.put, F.get]
 | .cons n v' m' k' r, ⟨h1, h2, h3⟩ => by
  rw [F.put]
  rcases lt_tri nm n with e | l | l
  ·rw [if_pos (cmp3_eq.2 e)]
   subst e
   by_cases hx : x = nm
   ·subst hx; rw [if_pos rfl, F.get_cons_eq]
   ·rw [if_neg hx, F.get_ne hx, F.get_ne hx]
  ·rw [if_neg (by rw [cmp3_lt l]; decide), if_pos (cmp3_lt l)]
   by_cases hx : x = nm
   ·subst hx; rw [if_pos rfl, F.get_cons_eq]
   ·rw [if_neg hx, F.get_ne hx]
  ·rw [if_neg (by rw [cmp3_gt l]; decide), if_neg (by rw [cmp3_gt l]; decide)]
   by_cases hx : x = n
   ·subst hx
    rw [F.get_cons_eq, F.get_cons_eq, if_neg (lt_no l).2]
   ·rw [F.get_ne hx, F.get_ne hx, F.get_put h3]
def F.del : F → ByteArray → F
 | .nil, _ => .nil
 | .cons n v m k r, nm => if nm = n then r else .cons n v m k (r.del nm)
theorem F.del_above {a nm : ByteArray} : ∀ {f : F}, f.above a → (f.del nm).above a
 | .nil, _ => trivial
 | .cons n v' m' k' r, ⟨h1, h2⟩ => by
  rw [F.del]
  split
  ·exact h2
  ·exact ⟨h1, F.del_above h2⟩
theorem F.del_rises {nm : ByteArray} : ∀ {f : F}, f.rises → (f.del nm).rises
 | .nil, _ => trivial
 | .cons n v' m' k' r, ⟨h1, h2, h3⟩ => by
  rw [F.del]
  split
  ·exact h3
  ·exact ⟨F.del_above h1, h2, F.del_rises h3⟩
theorem F.get_del {nm x : ByteArray} : ∀ {f : F}, f.rises → (f.del nm).get x = if x = nm then none else f.get x
 | .nil, _ => by simp [F.del, F.get]
 | .cons n v' m' k' r, ⟨h1, h2, h3⟩ => by
  rw [F.del]
  by_cases e : nm = n
  ·rw [if_pos e]
   subst e
   by_cases hx : x = nm
   ·subst hx; rw [if_pos rfl, F.get_above h1]
   ·rw [if_neg hx, F.get_ne hx]
  ·rw [if_neg e]
   by_cases hx : x = n
   ·subst hx
    rw [F.get_cons_eq, F.get_cons_eq, if_neg (Ne.symm e)]
   ·rw [F.get_ne hx, F.get_ne hx, F.get_del h3]
theorem T3.ext' {t u : T3} (h1 : t.1 = u.1) (h2 : t.2.1 = u.2.1) (h3 : t.2.2 = u.2.2) : t = u := Prod.ext h1 (Prod.ext h2 h3)
theorem putT_rises : ∀ {t : T3} {L : List ByteArray} {s : T3}, t.2.2.rises → s.2.2.rises → (putT t L s).2.2.rises
 | t, [], s, _, hs => hs
 | t, nm :: L, s, ht, hs => by
  rw [putT]
  refine F.put_rises ?_ ht
  refine putT_rises ?_ hs
  cases hg : t.2.2.get nm with
  | none => exact hs
  | some y => exact (F.rises_get ht hg).1
theorem putT_get {t : T3} {nm x : ByteArray} {L : List ByteArray} {s : T3} (ht : t.2.2.rises) : (putT t (nm :: L) s).2.2.get x = if x = nm then some (putT ((t.2.2.get nm).getD s) L s) else t.2.2.get x := by
 rw [putT]
 exact F.get_put ht
def dropT : T3 → List ByteArray → T3
 | t, [] => t
 | t, [nm] => (t.1, t.2.1, t.2.2.del nm)
 | t, nm :: b :: L => match t.2.2.get nm with
  | none => t
  | some y => (t.1, t.2.1, t.2.2.put nm (dropT y (b :: L)).1 (dropT y (b :: L)).2.1 (dropT y (b :: L)).2.2)
theorem dropT_rises : ∀ {t : T3} {L : List ByteArray}, t.2.2.rises → (dropT t L).2.2.rises
 | t, [], h => h
 | t, [nm], h => F.del_rises h
 | t, nm :: b :: L, h => by
  rw [dropT]
  cases hg : t.2.2.get nm with
  | none => exact h
  | some y => exact F.put_rises (dropT_rises (F.rises_get h hg).1) h
theorem dropT_val : ∀ {t : T3} {L : List ByteArray}, (dropT t L).1 = t.1 ∧ (dropT t L).2.1 = t.2.1
 | t, [] => ⟨rfl, rfl⟩
 | t, [nm] => ⟨rfl, rfl⟩
 | t, nm :: b :: L => by
  rw [dropT]
  split <;> exact ⟨rfl, rfl⟩
theorem dropT_get {t y : T3} {nm b x : ByteArray} {L : List ByteArray} (ht : t.2.2.rises) (hy : t.2.2.get nm = some y) : (dropT t (nm :: b :: L)).2.2.get x = if x = nm then some (dropT y (b :: L)) else t.2.2.get x := by
 rw [dropT, hy]
 exact F.get_put ht
theorem dropT_get1 {t : T3} {nm x : ByteArray} (ht : t.2.2.rises) : (dropT t [nm]).2.2.get x = if x = nm then none else t.2.2.get x := F.get_del ht
def val (t : T3) (L : List ByteArray) : Option (Vd × Md) := (dn t L).map fun x => (x.1, x.2.1)
theorem val_nil (t : T3) : val t [] = some (t.1, t.2.1) := rfl
theorem val_cons (t : T3) (n : ByteArray) (L : List ByteArray) : val t (n :: L) = (t.2.2.get n).bind fun s => val s L := by
 unfold val
 rw [dn]
 cases t.2.2.get n <;> rfl
theorem val_none {t : T3} {L : List ByteArray} : val t L = none ↔ dn t L = none := by unfold val; simp
theorem val_app (t : T3) (L M : List ByteArray) : val t (L ++ M) = (dn t L).bind fun s => val s M := by
 unfold val
 rw [dn_app]
 cases dn t L <;> rfl
theorem val_some {t s : T3} {L : List ByteArray} (h : dn t L = some s) : val t L = some (s.1, s.2.1) := by unfold val; rw [h]; rfl
theorem dn_some {t : T3} {L : List ByteArray} {x : Vd × Md} (h : val t L = some x) : ∃ s, dn t L = some s ∧ x = (s.1, s.2.1) := by
 unfold val at h
 cases e : dn t L with
 | none => rw [e] at h; cases h
 | some s => rw [e] at h; exact ⟨s, rfl, (Option.some.inj h).symm⟩
theorem val_putT : ∀ {t : T3} {L : List ByteArray} {s : T3}, t.2.2.rises → s.2.2.rises → wayTo t L → (∀ n N, val s (n :: N) = val t (L ++ n :: N)) → ∀ M, val (putT t L s) M = if M = L then some (s.1, s.2.1) else val t M
 | t, [], s, _, _, _, h, M => by
  rw [putT]
  cases M with
  | nil => rw [if_pos rfl, val_nil]
  | cons n N => rw [if_neg (by simp), h]; rfl
 | t, nm :: L, s, ht, hs, hw, h, M => by
  cases M with
  | nil => rw [if_neg (by simp)]; rfl
  | cons x N =>
   rw [val_cons, val_cons, putT_get ht]
   by_cases hx : x = nm
   ·subst hx
    rw [if_pos rfl, Option.bind_some]
    cases e : t.2.2.get x with
    | some y =>
     rw [Option.getD_some, Option.bind_some]
     have hy : y.2.2.rises := (F.rises_get ht e).1
     have hw2 : wayTo y L := by
      rcases hw with rfl | ⟨s', q1, q2⟩
      ·trivial
      ·rw [e] at q1; cases q1; exact q2
     rw [val_putT hy hs hw2 (fun n N => by rw [h, List.cons_append, val_cons, e]; rfl) N]
     by_cases hN : N = L
     ·rw [if_pos hN, if_pos (by rw [hN])]
     ·rw [if_neg hN, if_neg (by intro q; injection q; contradiction)]
    | none =>
     obtain rfl : L = [] := by
      rcases hw with rfl | ⟨s', q1, _⟩
      ·rfl
      ·rw [e] at q1; cases q1
     rw [Option.getD_none, putT]
     cases N with
     | nil => rw [if_pos rfl, val_nil]
     | cons n N => rw [if_neg (by simp), h, List.cons_append, val_cons, e]; rfl
   ·rw [if_neg hx, if_neg (by intro q; injection q; contradiction)]
theorem F.nil_of_depth : ∀ {f : F}, f.depth = 0 → f = .nil
 | .nil, _ => rfl
 | .cons _ _ _ k r, h => by simp [F.depth] at h
theorem val_dropT : ∀ {t : T3} {L : List ByteArray} {s : T3}, L ≠ [] → t.2.2.rises → dn t L = some s → s.2.2 = .nil → ∀ M, val (dropT t L) M = if M = L then none else val t M
 | t, [nm], s, _, ht, hd, hk, M => by
  cases M with
  | nil => rw [if_neg (by simp), val_nil, val_nil, dropT]
  | cons x N =>
   rw [val_cons, val_cons, dropT_get1 ht]
   rw [dn] at hd
   by_cases hx : x = nm
   ·subst hx
    rw [if_pos rfl, Option.bind_none]
    cases N with
    | nil => rw [if_pos rfl]
    | cons n N =>
     rw [if_neg (by simp)]
     cases e : t.2.2.get x with
     | none => rfl
     | some y =>
      rw [e, Option.bind_some, dn] at hd
      cases hd
      rw [Option.bind_some, val_cons, hk, F.get]
      rfl
   ·rw [if_neg hx, if_neg (by intro q; injection q; contradiction)]
 | t, nm :: b :: L, s, _, ht, hd, hk, M => by
  rw [dn] at hd
  cases e : t.2.2.get nm with
  | none => rw [e] at hd; cases hd
  | some y =>
   rw [e, Option.bind_some] at hd
   cases M with
   | nil => rw [if_neg (by simp), val_nil, val_nil, dropT_val.1, dropT_val.2]
   | cons x N =>
    rw [val_cons, val_cons, dropT_get ht e]
    by_cases hx : x = nm
    ·subst hx
     rw [if_pos rfl, Option.bind_some, e, Option.bind_some, val_dropT (by simp) (F.rises_get ht e).1 hd hk N]
     by_cases hN : N = b :: L
     ·rw [if_pos hN, if_pos (by rw [hN])]
     ·rw [if_neg hN, if_neg (by intro q; injection q; contradiction)]
    ·rw [if_neg hx, if_neg (by intro q; injection q; contradiction)]
theorem F.ext_val : ∀ (Z : Nat) {f g : F}, f.size < Z → f.rises → g.rises → (∀ n N, (f.get n).bind (fun s => val s N) = (g.get n).bind fun s => val s N) → f = g := by
 intro Z
 induction Z with
 | zero => intro f g h; omega
 | succ Z ih =>
  intro f g hZ hf hg h
  refine F.ext_get hf hg fun n => ?_
  cases ef : f.get n with
  | none =>
   cases eg : g.get n with
   | none => rfl
   | some y => have := h n []; rw [ef, eg] at this; cases this
  | some x =>
   cases eg : g.get n with
   | none => have := h n []; rw [ef, eg] at this; cases this
   | some y =>
    have h0 := h n []
    rw [ef, eg] at h0
    injection h0 with h0
    injection h0 with h1 h2
    have hx := F.rises_get hf ef
    have hy := F.rises_get hg eg
    have h3 : x.2.2 = y.2.2 := ih (by omega) hx.1 hy.1 fun m M => by
     have := h n (m :: M)
     rw [ef, eg] at this
     simpa only [Option.bind_some, val_cons] using this
    rw [T3.ext' h1 h2 h3]
theorem T3.ext_val {t u : T3} (ht : t.2.2.rises) (hu : u.2.2.rises) (h : ∀ M, val t M = val u M) : t = u := by
 have h0 := h []
 injection h0 with h0
 injection h0 with h1 h2
 exact T3.ext' h1 h2 (F.ext_val _ (Nat.lt_succ_self _) ht hu fun n N => by have := h (n :: N); rwa [val_cons, val_cons] at this)
end Go.Proofs.YthfcanpkhjgomaaGreat
