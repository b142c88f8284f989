import Derived.Test.YtjikkhbcbfpocaaGreatDoorQA
namespace Go.Proofs.YtjikkhbcbfpocaaGreatDoor
open Go.RowKit Go.Shelf
theorem gQ : ∀ (a t : List Int) (i n k : Nat), Wire.rd i a = .ok n k → Wire.rd i (a ++ t) = .ok n k
 | [], t, i, n, k, h => by simp [Wire.rd] at h
 | c :: a, t, i, n, k, h => by
  rw [List.cons_append]
  simp only [Wire.rd] at h ⊢
  by_cases hb : Wire.bad i c = true
  ·simp [hb] at h
  ·simp only [hb, Bool.false_eq_true, if_false] at h ⊢
   by_cases hc : c < 128
   ·simpa only [hc, if_true] using h
   ·simp only [hc, if_false] at h ⊢
    cases hr : Wire.rd (i + 1) a with
    | ok m j => rw [gQ a t (i + 1) m j hr]; rw [hr] at h; exact h
    | form j => rw [hr] at h; simp [Wire.Rd.plus] at h
    | short => rw [hr] at h; simp [Wire.Rd.plus] at h
section
variable {l t : List Int}
theorem bP {s : Wi.St} {m : Nat} (hp : s.p ≤ l.length) (h : (Wi.uintS l s m).2.fe = 0) : Wi.uintS (l ++ t) s m = Wi.uintS l s m ∧ (Wi.uintS l s m).2.p ≤ l.length := by
 by_cases h0 : s.fe = 0
 ·cases hr : Wire.rd 0 (l.drop s.p) with
  | ok n k =>
   have hk := (Wire.fN _ _ _ _ hr).2
   rw [List.length_drop] at hk
   have hr2 : Wire.rd 0 ((l ++ t).drop s.p) = .ok n k := by rw [List.drop_append_of_le_length hp]; exact gQ _ t _ _ _ hr
   have e1 : Wi.uintS l s m = if n ≤ m then (n, ⟨s.p + k, s.fa, s.fe⟩) else (0, ⟨s.p, s.p, 12⟩) := by unfold Wi.uintS; rw [if_neg (by omega), hr]
   have e2 : Wi.uintS (l ++ t) s m = if n ≤ m then (n, ⟨s.p + k, s.fa, s.fe⟩) else (0, ⟨s.p, s.p, 12⟩) := by unfold Wi.uintS; rw [if_neg (by omega), hr2]
   refine ⟨e2.trans e1.symm, ?_⟩
   rw [e1]
   split
   ·show s.p + k ≤ _; omega
   ·exact hp
  | form i =>
   have e1 : Wi.uintS l s m = (0, ⟨s.p, (s.p + i : Nat), 11⟩) := by unfold Wi.uintS; rw [if_neg (by omega), hr]
   rw [e1] at h; simp at h
  | short =>
   have e1 : Wi.uintS l s m = (0, ⟨s.p, l.length, 10⟩) := by unfold Wi.uintS; rw [if_neg (by omega), hr]
   rw [e1] at h; simp at h
 ·have e1 : ∀ l, Wi.uintS l s m = (0, s) := fun l => by unfold Wi.uintS; rw [if_pos h0]
  rw [e1, e1]
  exact ⟨rfl, hp⟩
theorem ew {s : Wi.St} (hp : s.p ≤ l.length) (h : (Wi.byteS l s).2.fe = 0) : Wi.byteS (l ++ t) s = Wi.byteS l s ∧ (Wi.byteS l s).2.p ≤ l.length := by
 unfold Wi.byteS at h ⊢
 by_cases h0 : s.fe = 0
 ·by_cases h1 : s.p < l.length
  ·rw [if_neg (by omega), if_pos (by rw [lA]; omega), if_neg (by omega), if_pos h1, List.getElem?_append_left h1]
   exact ⟨rfl, h1⟩
  ·rw [if_neg (by omega), if_neg h1] at h; simp at h
 ·rw [if_pos h0, if_pos h0]
  exact ⟨rfl, hp⟩
theorem pr {s : Wi.St} {n : Int} (hp : s.p ≤ l.length) (h : (Wi.rawS l s n).fe = 0) : Wi.rawS (l ++ t) s n = Wi.rawS l s n ∧ Wi.rawB (l ++ t) s n = Wi.rawB l s n ∧ (Wi.rawS l s n).p ≤ l.length := by
 unfold Wi.rawS at h ⊢
 unfold Wi.rawB
 by_cases h0 : s.fe = 0
 ·by_cases h1 : l.length < s.p + n.toNat
  ·rw [if_neg (by omega), if_pos h1] at h; simp at h
  ·have h2 : ¬ (l ++ t).length < s.p + n.toNat := by rw [lA]; omega
   rw [if_neg (by omega), if_neg h2, if_neg (by omega), if_neg h1, if_neg (by omega), if_neg h2, if_neg (by omega), if_neg h1]
   refine ⟨rfl, ?_, by show s.p + n.toNat ≤ _; omega⟩
   rw [List.drop_append_of_le_length hp, List.take_append_of_le_length (by rw [List.length_drop]; omega)]
 ·rw [if_pos h0, if_pos h0, if_pos h0, if_pos h0]
  exact ⟨rfl, rfl, hp⟩
theorem nk {s : Wi.St} {m : Int} (hp : s.p ≤ l.length) (h : (Wi.textS l s m).2.fe = 0) : Wi.textS (l ++ t) s m = Wi.textS l s m ∧ (Wi.textS l s m).2.p ≤ l.length := by
 by_cases h0 : s.fe = 0
 ·cases hr : Wire.rd 0 (l.drop s.p) with
  | ok n k =>
   have hk := (Wire.fN _ _ _ _ hr).2
   rw [List.length_drop] at hk
   have hr2 : Wire.rd 0 ((l ++ t).drop s.p) = .ok n k := by rw [List.drop_append_of_le_length hp]; exact gQ _ t _ _ _ hr
   have e1 : Wi.textS l s m = if m < n then ([], ⟨s.p, s.p, 12⟩) else if l.length < s.p + k + n then ([], ⟨s.p, l.length, 10⟩) else ((l.drop (s.p + k)).take n, ⟨s.p + k + n, s.fa, s.fe⟩) := by unfold Wi.textS; rw [if_neg (by omega), hr]
   have e2 : Wi.textS (l ++ t) s m = if m < n then ([], ⟨s.p, s.p, 12⟩) else if (l ++ t).length < s.p + k + n then ([], ⟨s.p, (l ++ t).length, 10⟩) else (((l ++ t).drop (s.p + k)).take n, ⟨s.p + k + n, s.fa, s.fe⟩) := by unfold Wi.textS; rw [if_neg (by omega), hr2]
   rw [e1] at h
   by_cases hm : m < n
   ·rw [if_pos hm] at h; simp at h
   ·rw [if_neg hm] at h
    by_cases h1 : l.length < s.p + k + n
    ·rw [if_pos h1] at h; simp at h
    ·rw [e1, e2, if_neg hm, if_neg hm, if_neg h1, if_neg (by rw [lA]; omega)]
     refine ⟨?_, by show s.p + k + n ≤ _; omega⟩
     rw [List.drop_append_of_le_length (by omega), List.take_append_of_le_length (by rw [List.length_drop]; omega)]
  | form i =>
   have e1 : Wi.textS l s m = ([], ⟨s.p, (s.p + i : Nat), 11⟩) := by unfold Wi.textS; rw [if_neg (by omega), hr]
   rw [e1] at h; simp at h
  | short =>
   have e1 : Wi.textS l s m = ([], ⟨s.p, l.length, 10⟩) := by unfold Wi.textS; rw [if_neg (by omega), hr]
   rw [e1] at h; simp at h
 ·have e1 : ∀ l, Wi.textS l s m = ([], s) := fun l => by unfold Wi.textS; rw [if_pos h0]
  rw [e1, e1]
  exact ⟨rfl, hp⟩
theorem zM {a : Int} {b : Nat} {r : Rv} (hp : r.s.p ≤ l.length) (h : (numR l a b r).2.flt = none) : numR (l ++ t) a b r = numR l a b r ∧ (numR l a b r).2.s.p ≤ l.length := by
 unfold numR at h ⊢
 simp only at h ⊢
 obtain ⟨h1, _, _, h4⟩ := kG h
 obtain ⟨e, p⟩ := bP (t := t) hp h1
 rw [e, h4]
 exact ⟨rfl, p⟩
theorem iJ {r : Rv} (hp : r.s.p ≤ l.length) (h : (sumR l r).2.flt = none) : sumR (l ++ t) r = sumR l r ∧ (sumR l r).2.s.p ≤ l.length := by
 unfold sumR at h ⊢
 simp only at h ⊢
 obtain ⟨h1, _, _, h4⟩ := kG h
 obtain ⟨e, e2, p⟩ := pr (t := t) hp h1
 rw [e, e2, h4]
 exact ⟨rfl, p⟩
theorem iK {ver : Int} {r : Rv} (hp : r.s.p ≤ l.length) (h : (modR l ver r).2.flt = none) : modR (l ++ t) ver r = modR l ver r ∧ (modR l ver r).2.s.p ≤ l.length := by
 unfold modR at h ⊢
 by_cases hv : ver < 2
 ·rw [if_pos hv, if_pos hv]; exact ⟨rfl, hp⟩
 ·rw [if_neg hv] at h
  rw [if_neg hv, if_neg hv]
  simp only at h ⊢
  obtain ⟨h1, _, _, h4⟩ := kG h
  obtain ⟨e, p⟩ := ew (t := t) hp h1
  rw [e, h4]
  exact ⟨rfl, p⟩
theorem ey {r : Rv} (hp : r.s.p ≤ l.length) (h : (kL l r).2.flt = none) : kL (l ++ t) r = kL l r ∧ (kL l r).2.s.p ≤ l.length := by
 unfold kL at h ⊢
 by_cases hq : (numR l 0 ql r).1 = 0
 ·rw [if_pos hq] at h
  simp only at h
  obtain ⟨e1, p1⟩ := zM (t := t) hp ((Sm.num l 0 0 _).none h)
  obtain ⟨e2, p2⟩ := zM (t := t) p1 h
  rw [e1, if_pos hq, if_pos hq, e2]
  exact ⟨rfl, p2⟩
 ·rw [if_neg hq] at h
  simp only at h
  obtain ⟨e1, p1⟩ := zM (t := t) hp ((Sm.num l 1 ql _).none h)
  obtain ⟨e2, p2⟩ := zM (t := t) p1 h
  rw [e1, if_neg hq, if_neg hq, e2]
  exact ⟨rfl, p2⟩
theorem lJ {ver : Int} {r : Rv} (hp : r.s.p ≤ l.length) (h : (qp l ver r).2.flt = none) : qp (l ++ t) ver r = qp l ver r ∧ (qp l ver r).2.s.p ≤ l.length := by
 unfold qp at h ⊢
 by_cases hv : ver < 3
 ·rw [if_pos hv, if_pos hv]; exact ⟨rfl, hp⟩
 ·rw [if_neg hv] at h
  rw [if_neg hv, if_neg hv]
  simp only at h ⊢
  obtain ⟨e1, p1⟩ := ey (t := t) hp ((Sm.mark l _).none h)
  obtain ⟨e2, p2⟩ := ey (t := t) p1 h
  rw [e1, e2]
  exact ⟨rfl, p2⟩
theorem iL {a : Int} {b : Nat} {r : Rv} (hp : r.s.p ≤ l.length) (h : (conR l a b r).2.flt = none) : conR (l ++ t) a b r = conR l a b r ∧ (conR l a b r).2.s.p ≤ l.length := by
 unfold conR at h ⊢
 simp only at h ⊢
 obtain ⟨e1, p1⟩ := zM (t := t) hp ((Sm.sum l _).none h)
 obtain ⟨e2, p2⟩ := iJ (t := t) p1 h
 rw [e1, e2]
 exact ⟨rfl, p2⟩
theorem nl {d : Nat} {r : Rv} (hp : r.s.p ≤ l.length) (h : (qK l d r).2.flt = none) : qK (l ++ t) d r = qK l d r ∧ (qK l d r).2.s.p ≤ l.length := by
 unfold qK at h ⊢
 simp only at h ⊢
 obtain ⟨h1, _, _, h4⟩ := kG h
 obtain ⟨e, p⟩ := ew (t := t) hp h1
 rw [e, h4]
 exact ⟨rfl, p⟩
theorem np {last : ByteArray} {r : Rv} (hp : r.s.p ≤ l.length) (h : (zO l last r).2.flt = none) : zO (l ++ t) last r = zO l last r ∧ (zO l last r).2.s.p ≤ l.length := by
 unfold zO at h ⊢
 simp only at h ⊢
 obtain ⟨h1, _, _, h4⟩ := kG h
 have hb : ∀ q : Rv, (kC q).s = q.s := fun q => by unfold kC; split <;> rfl
 rw [hb] at h1
 obtain ⟨e, p⟩ := nk (t := t) hp h1
 rw [e, h4, hb]
 exact ⟨rfl, p⟩
theorem nr {u : Option (List ByteArray)} {last : ByteArray} {r : Rv} (hp : r.s.p ≤ l.length) (h : (jv l u last r).2.flt = none) : qK (l ++ t) (kE u) r = qK l (kE u) r ∧ jv (l ++ t) u last r = jv l u last r ∧ (jv l u last r).2.s.p ≤ l.length := by
 obtain ⟨e1, p1⟩ := nl (t := t) hp ((Sm.head l u last r).none h)
 unfold jv at h ⊢
 rw [e1]
 cases u with
 | none => exact ⟨rfl, rfl, p1⟩
 | some x =>
  obtain ⟨e2, p2⟩ := np (t := t) p1 h
  exact ⟨rfl, e2, p2⟩
theorem ez {nd nd' : ByteArray → Rv → Nd × Rv} (hn : ∀ last r, r.s.p ≤ l.length → (nd' last r).2.flt = none → nd last r = nd' last r ∧ (nd' last r).2.s.p ≤ l.length) (hlt : ∀ last r, Lt r (nd' last r).2 1) :
  ∀ (n : Nat) (f : F) (last : ByteArray) (r : Rv), r.s.p ≤ l.length → (kidL nd' n f last r).2.flt = none → kidL nd n f last r = kidL nd' n f last r ∧ (kidL nd' n f last r).2.s.p ≤ l.length
 | 0, _, _, _, hp, _ => ⟨rfl, hp⟩
 | n + 1, f, last, r, hp, h => by
  unfold kidL at h ⊢
  by_cases hs : r.flt.isSome = true
  ·rw [if_pos hs] at h
   simp only at h
   rw [h] at hs; cases hs
  ·rw [if_neg hs] at h
   rw [if_neg hs, if_neg hs]
   obtain ⟨e1, p1⟩ := hn last r hp ((xO nd' hlt _ _ _ _).none h)
   rw [e1]
   exact ez hn hlt n _ _ _ p1 h
theorem dX (here : List ByteArray) (pl : Nat) (hh : List Nat) (x : Option F × Rv) : (kidE here pl hh x).2.flt = x.2.flt ∧ (kidE here pl hh x).2.s = x.2.s := by
 obtain ⟨a, b⟩ := x
 cases a <;> exact ⟨rfl, rfl⟩
theorem nt {nd nd' : ByteArray → Rv → Nd × Rv} (hn : ∀ last r, r.s.p ≤ l.length → (nd' last r).2.flt = none → nd last r = nd' last r ∧ (nd' last r).2.s.p ≤ l.length) (hlt : ∀ last r, Lt r (nd' last r).2 1) {here : List ByteArray} {r : Rv} (hp : r.s.p ≤ l.length)
  (h : (yi l nd' here r).2.flt = none) : yi (l ++ t) nd here r = yi l nd' here r ∧ (yi l nd' here r).2.s.p ≤ l.length := by
 unfold yi cntR at h ⊢
 rw [(dX _ _ _ _).1] at h
 have h1 := (xO nd' hlt _ _ _ _).none h
 obtain ⟨e1, p1⟩ := zM (t := t) hp ((Sm.sum l _).none h1)
 obtain ⟨e2, p2⟩ := iJ (t := t) p1 h1
 obtain ⟨e3, p3⟩ := ez hn hlt _ .nil ⟨#[]⟩ _ p2 h
 rw [e1, e2, e3, (dX _ _ _ _).2]
 exact ⟨rfl, p3⟩
theorem iM {ver : Int} {nd : List ByteArray → ByteArray → Rv → Nd × Rv} {k : Int} {nm : ByteArray} {here : List ByteArray} {r : Rv} (h : (yG l ver nd k nm here r).2.flt = none) : r.flt = none := by
 unfold yG at h
 by_cases hs : r.flt.isSome = true
 ·rw [if_pos hs] at h; exact h
 ·exact yN hs
theorem fA (ver : Int) : ∀ (n : Nat) (u : Option (List ByteArray)) (last : ByteArray) (r : Rv), r.s.p ≤ l.length → (jb l ver n u last r).2.flt = none → jb (l ++ t) ver n u last r = jb l ver n u last r ∧ (jb l ver n u last r).2.s.p ≤ l.length
 | 0, _, _, _, hp, _ => ⟨rfl, hp⟩
 | n + 1, u, last, r, hp, h => by
  have hlt : ∀ here last r, Lt r (jb l ver n (some here) last r).2 1 := fun here last r => zj l ver n (some here) last r
  unfold jb at h ⊢
  obtain ⟨e1, e2, p2⟩ := nr (t := t) hp (iM h)
  rw [e1, e2]
  generalize (qK l (kE u) r).1 = k at *
  generalize (jv l u last r).1 = nm at *
  generalize (jv l u last r).2 = r2 at *
  have hs : ¬ r2.flt.isSome = true := by rw [iM h]; simp
  unfold yG at h ⊢
  rw [if_neg hs] at h
  rw [if_neg hs, if_neg hs]
  by_cases k1 : k = 1
  ·rw [if_pos k1] at h
   rw [if_pos k1, if_pos k1]
   simp only at h ⊢
   have h5 : (modR l ver r2).2.flt = none := by
    unfold yi cntR at h
    rw [(dX _ _ _ _).1] at h
    exact (Sm.num l _ _ _).none ((Sm.sum l _).none ((xO _ (hlt _) _ _ _ _).none h))
   obtain ⟨e3, p3⟩ := iK (t := t) p2 h5
   obtain ⟨e4, p4⟩ := nt (t := t) (nd := jb (l ++ t) ver n (some (aG u nm))) (nd' := jb l ver n (some (aG u nm))) (fun last r hp h => fA ver n _ last r hp h) (hlt _) p3 h
   rw [e3, e4]
   exact ⟨rfl, p4⟩
  ·rw [if_neg k1] at h
   rw [if_neg k1, if_neg k1]
   by_cases k2 : k = 2
   ·rw [if_pos k2] at h
    rw [if_pos k2, if_pos k2]
    simp only at h ⊢
    have h5 := (Sm.marks l ver _).none h
    have h6 := (Sm.mod l ver _).none h5
    obtain ⟨e3, p3⟩ := iL (t := t) p2 h6
    obtain ⟨e4, p4⟩ := iK (t := t) p3 h5
    obtain ⟨e5, p5⟩ := lJ (t := t) p4 h
    simp only [e3, e4, e5]
    exact ⟨trivial, p5⟩
   ·rw [if_neg k2] at h
    rw [if_neg k2, if_neg k2]
    by_cases k3 : k = 3
    ·rw [if_pos k3] at h
     rw [if_pos k3, if_pos k3]
     simp only at h ⊢
     obtain ⟨e3, p3⟩ := iL (t := t) p2 h
     simp only [e3]
     exact ⟨trivial, p3⟩
    ·rw [if_neg k3, if_neg k3]
     exact ⟨rfl, p2⟩
theorem gR {most : Nat} {r : Rv} (hp : r.s.p ≤ l.length) (h : (qm l most r).flt = none) : qm (l ++ t) most r = qm l most r ∧ (qm l most r).s.p ≤ l.length := by
 unfold qm at h ⊢
 obtain ⟨h1, _, _, h4⟩ := kG h
 have hb : ∀ q : Rv, (kC q).s = q.s := fun q => by unfold kC; split <;> rfl
 rw [hb] at h1
 obtain ⟨e, p⟩ := bP (t := t) hp h1
 rw [e, h4, hb]
 exact ⟨rfl, p⟩
theorem lK {ver : Int} {most : Nat} {r : Rv} (hp : r.s.p ≤ l.length) (ht : t ≠ []) (h : (zQ l ver most r).2.flt = none) : (zQ (l ++ t) ver most r).2.flt ≠ none := by
 have hE : ∀ (p : Int) (q : Rv), (zl p q).flt = none → q.flt = none := fun p q hq => by
  unfold zl at hq
  split at hq
  ·cases hq
  ·exact hq
 unfold zQ at h ⊢
 simp only at h ⊢
 have h1 := hE _ _ h
 unfold cF at h1
 obtain ⟨h2, _, h3, _⟩ := kG h1
 simp only at h2 h3
 obtain ⟨e0, p0⟩ := gR (t := t) hp ((zj l ver 66 none ⟨#[]⟩ _).none h3)
 obtain ⟨e1, p1⟩ := fA (t := t) ver 66 none ⟨#[]⟩ _ p0 h3
 rw [e0, e1]
 generalize (jb l ver 66 none ⟨#[]⟩ (qm l most r)).2 = q at *
 intro hq
 have h5 := hE _ _ hq
 unfold cF at h5
 obtain ⟨h6, _⟩ := kG h5
 simp only at h6
 have hfe : q.s.fe = 0 := by
  unfold Wi.endS at h2
  by_cases c : q.s.fe = 0
  ·exact c
  ·rw [if_pos c] at h2; exact h2
 have hlen : 0 < t.length := List.length_pos_iff.2 ht
 unfold Wi.endS at h6
 rw [if_neg (by omega), if_pos (by rw [lA]; omega)] at h6
 simp at h6
end
theorem nu {l : List Int} {p m : Nat} (h : (Wi.uintS l ⟨p, 0, 0⟩ m).2.fe ≠ 0) : (Wi.uintS l ⟨p, 0, 0⟩ m).1 = 0 := by
 unfold Wi.uintS at h ⊢
 rw [if_neg (by simp)] at h ⊢
 split at h
 ·split at h
  ·simp at h
  ·rename_i q; rw [if_neg q]
 ·rfl
 ·rfl
theorem gT {ver : Nat} {v : Vd} {m : Md} {ks : F} {most : Int} (h : Ar ver v m ks) (hb : 1 + ks.size ≤ bnd most) {c : Nat} (hc : c < (arcW ver v m ks).length) (hF : opF ((arcW ver v m ks).take c) = none) :
  (decN ((arcW ver v m ks).take c) most).2.flt ≠ none ∧ (qm (decL ((arcW ver v m ks).take c)) (bnd most) (decR ((arcW ver v m ks).take c))).left ≤ 100000 := by
 obtain ⟨hU, _, hL⟩ := aj h.h1 h.h3 v m ks
 obtain ⟨_, d4, _⟩ := mT h.h1 h.h3 (most := most) hb h.hk h.hc h.h8
 have hbt := ai ver v m ks
 have hl3 := gu h.h1 h.h3 (v := v) (m := m) (most := most) h.sz
 have h5 : (arcW ver v m ks).take 5 = [116, 119, 110, 101, ver] := by
  unfold arcW
  rw [ym ver (by have := h.h3; omega)]
  rfl
 have hBy := h.bytes
 unfold decN at d4
 unfold decR at d4 hl3
 rw [hU] at d4 hl3
 unfold decL at d4 hl3
 generalize arcW ver v m ks = b at *
 have hcl : (b.take c).length = c := by rw [List.length_take]; omega
 obtain ⟨hv, hp5, h9, ht5, _⟩ := eD (fun x hx => hBy x (List.mem_of_mem_take hx)) hF
 rw [hcl] at h9
 have hver : (opU (b.take c)).1 = ver := by
  rw [List.take_take, Nat.min_eq_left (by omega), h5, kP (by omega)] at ht5
  simpa using ht5.symm
 have hsp : up (b.take (b.length - 4)) = up ((b.take c).take ((b.take c).length - 4)) ++ up ((b.take (b.length - 4)).drop (c - 4)) := by
  rw [← qB, hcl, List.take_take, Nat.min_eq_left (by omega)]
  congr 1
  have := List.take_append_drop (c - 4) (b.take (b.length - 4))
  rw [List.take_take, Nat.min_eq_left (by omega)] at this
  exact this.symm
 have htn : up ((b.take (b.length - 4)).drop (c - 4)) ≠ [] := by
  intro q
  have := congrArg List.length q
  rw [qU, List.length_drop, List.length_take] at this
  simp at this
  omega
 have hpl : 5 ≤ (up ((b.take c).take ((b.take c).length - 4))).length := by rw [qU, List.length_take, hcl]; omega
 rw [hsp] at d4 hl3
 unfold decN decR decL
 rw [hver, hp5]
 generalize up ((b.take c).take ((b.take c).length - 4)) = l at *
 generalize up ((b.take (b.length - 4)).drop (c - 4)) = t at *
 constructor
 ·intro q
  exact lK (l := l) (t := t) (by simpa using hpl) htn q d4
 ·rw [zV] at hl3 ⊢
  by_cases hfe : (Wi.uintS l ⟨5, 0, 0⟩ (bnd most)).2.fe = 0
  ·rw [(bP (l := l) (t := t) (by simpa using hpl) hfe).1] at hl3
   exact hl3
  ·show ((Wi.uintS l ⟨5, 0, 0⟩ (bnd most)).1 : Int) ≤ 100000
   rw [nu hfe]
   decide
theorem ru (u : Value) (b : List Nat) (most : Int) (W : World) (hu : Su.Has W u b) (hB : Su.Bytes b) (hl : b.length ≤ 16777216) (hno : opF b = none → (decN b most).2.flt ≠ none ∧ (qm (decL b) (bnd most) (decR b)).left ≤ 100000) (hTb : Su.Tabs W) (hTh : Su.Half W) (hE : ErrT W) (h1 : 1 < W.heap.size) :
  Calls Tryz.prog 13 #[u, .int .i64 most] W fun e w' => ∃ fb, e = .returned (.tuple #[.pointer none, .int .i64 0, .iface 72 (.pointer (some ⟨fb, 0, none⟩))]) ∧ G W w' := by
 refine (xR u b most W hu hB hTh hTb hE h1 hl (fun q => .inl (hno q).2) fun q r => absurd r (hno q).1).mono ?_
 rintro e w' ⟨hg, hp⟩
 rcases hp with ⟨x, _, fb, q1, _⟩ | ⟨q, ⟨x, _, fb, q1, _⟩ | ⟨r, _⟩⟩
 ·exact ⟨fb, q1, hg⟩
 ·exact ⟨fb, q1, hg⟩
 ·exact absurd r (hno q).1
end Go.Proofs.YtjikkhbcbfpocaaGreatDoor
