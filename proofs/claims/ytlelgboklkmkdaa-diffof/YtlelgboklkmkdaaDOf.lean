import Derived.Test.YtlelgboklkmkdaaData
/-
  DiffOf in Lean alone: the joining of two trees' paths is the walk over both.
-/
namespace Go.Proofs.Ytlelgboklkmkdaa.DO
open Go.RowKit
def vz : Vd := ⟨0, 0, 0, List.replicate 32 0, by simp⟩
/-- a path and what stands there -/
structure Ent where
  p : List By
  v : Vd
/-- what differs at a path -/
structure Dif where
  p : List By
  o : Vd
  n : Vd
theorem belowL_self : ∀ a : By, belowL a a = false
  | [] => rfl
  | x :: xs => by rw [belowL_cons]; exact belowL_self xs
theorem belowL_asym : ∀ a b : By, belowL a b = true → belowL b a = false
  | [], [], h => by cases h
  | [], _ :: _, _ => rfl
  | _ :: _, [], h => by cases h
  | x :: xs, y :: ys, h => by
    rw [belowL] at h ⊢
    by_cases e : x = y
    · rw [if_pos e] at h; rw [if_pos e.symm]; exact belowL_asym xs ys h
    · rw [if_neg e] at h
      rw [if_neg (fun q => e q.symm)]
      simp at h ⊢
      omega
theorem belowL_eq : ∀ a b : By, belowL a b = false → belowL b a = false → a = b
  | [], [], _, _ => rfl
  | [], _ :: _, h, _ => by cases h
  | _ :: _, [], _, h => by cases h
  | x :: xs, y :: ys, h1, h2 => by
    rw [belowL] at h1 h2
    by_cases e : x = y
    · rw [if_pos e] at h1; rw [if_pos e.symm] at h2
      rw [e, belowL_eq xs ys h1 h2]
    · rw [if_neg e] at h1
      rw [if_neg (fun q => e q.symm)] at h2
      simp at h1 h2
      exact absurd (UInt8.toNat_inj.1 (Nat.le_antisymm h2 h1)) e
theorem below_trans : ∀ {a b c : By}, belowL a b = true → belowL b c = true → belowL a c = true
  | [], [], _, h, _ => by cases h
  | [], _ :: _, [], _, h => by cases h
  | [], _ :: _, _ :: _, _, _ => rfl
  | _ :: _, [], _, h, _ => by cases h
  | _ :: _, _ :: _, [], _, h => by cases h
  | x :: xs, y :: ys, z :: zs, h1, h2 => by
    rw [belowL] at h1 h2 ⊢
    by_cases e : x = y
    · subst e
      rw [if_pos rfl] at h1
      by_cases e2 : x = z
      · subst e2
        rw [if_pos rfl] at h2 ⊢
        exact below_trans h1 h2
      · rw [if_neg e2] at h2 ⊢
        exact h2
    · rw [if_neg e] at h1
      by_cases e2 : y = z
      · subst e2
        rw [if_neg e]
        exact h1
      · rw [if_neg e2] at h2
        simp at h1 h2
        by_cases e3 : x = z
        · subst e3; omega
        · rw [if_neg e3]
          simp
          omega
theorem cmpP_pre : ∀ (L a b : List By), cmpP (L ++ a) (L ++ b) = cmpP a b
  | [], _, _ => rfl
  | x :: L, a, b => by
    rw [List.cons_append, List.cons_append, cmpP, belowL_self]
    simp only [Bool.false_eq_true, if_false]
    exact cmpP_pre L a b
theorem cmpP_self (L : List By) : cmpP L L = 0 := by
  have := cmpP_pre L [] []
  simpa [cmpP] using this
theorem cmpP_lt {L : List By} {x y : By} (h : belowL x y = true) (p q : List By) : cmpP (L ++ x :: p) (L ++ y :: q) = -1 := by
  rw [cmpP_pre, cmpP, if_pos h]
theorem cmpP_gt {L : List By} {x y : By} (h : belowL y x = true) (p q : List By) : cmpP (L ++ x :: p) (L ++ y :: q) = 1 := by
  rw [cmpP_pre, cmpP, if_neg (by rw [belowL_asym _ _ h]; simp), if_pos h]
/-- a forest's paths, in their order -/
def flatF (L : List By) : F → List Ent
  | .nil => []
  | .cons nm v _ k r => ⟨L ++ [tl nm], v⟩ :: (flatF (L ++ [tl nm]) k ++ flatF L r)
/-- the names of a forest -/
def nms : F → List By
  | .nil => []
  | .cons nm _ _ _ r => tl nm :: nms r
/-- names rise, all the way down, and every value is one -/
def Rise : F → Prop
  | .nil => True
  | .cons nm v _ k r => v ≠ vz ∧ Rise k ∧ Rise r ∧ ∀ x ∈ nms r, belowL (tl nm) x = true
/-- the reference's joining of two lists of paths -/
def mgE : Nat → List Ent → List Ent → List Dif
  | 0, _, _ => []
  | _ + 1, [], [] => []
  | f + 1, x :: a, [] => ⟨x.p, x.v, vz⟩ :: mgE f a []
  | f + 1, [], y :: b => ⟨y.p, vz, y.v⟩ :: mgE f [] b
  | f + 1, x :: a, y :: b =>
    if cmpP x.p y.p < 0 then ⟨x.p, x.v, vz⟩ :: mgE f a (y :: b)
    else if 0 < cmpP x.p y.p then ⟨y.p, vz, y.v⟩ :: mgE f (x :: a) b
    else (if x.v = y.v then [] else [⟨x.p, x.v, y.v⟩]) ++ mgE f a b
/-- what differs between two values at a path -/
def df (L : List By) (o n : Vd) : List Dif := if o = n then [] else [⟨L, o, n⟩]
/-- the program's walk over two forests -/
def wk : Nat → List By → F → F → List Dif
  | 0, _, _, _ => []
  | _ + 1, _, .nil, .nil => []
  | f + 1, L, .cons nm v _ k r, .nil => df (L ++ [tl nm]) v vz ++ (wk f (L ++ [tl nm]) k .nil ++ wk f L r .nil)
  | f + 1, L, .nil, .cons nm v _ k r => df (L ++ [tl nm]) vz v ++ (wk f (L ++ [tl nm]) .nil k ++ wk f L .nil r)
  | f + 1, L, .cons nm v m k r, .cons nm2 v2 m2 k2 r2 =>
    if belowL (tl nm) (tl nm2) then df (L ++ [tl nm]) v vz ++ (wk f (L ++ [tl nm]) k .nil ++ wk f L r (.cons nm2 v2 m2 k2 r2))
    else if belowL (tl nm2) (tl nm) then df (L ++ [tl nm2]) vz v2 ++ (wk f (L ++ [tl nm2]) .nil k2 ++ wk f L (.cons nm v m k r) r2)
    else df (L ++ [tl nm]) v v2 ++ (wk f (L ++ [tl nm]) k k2 ++ wk f L r r2)
/-- a list of paths lies behind all that is below a path -/
def After (L : List By) (A : List Ent) : Prop := ∀ e ∈ A, ∀ x q, cmpP (L ++ x :: q) e.p = -1
theorem flat_in : ∀ (f : F) (L : List By) (e : Ent), e ∈ flatF L f → ∃ x ∈ nms f, ∃ q, e.p = L ++ x :: q
  | .nil, _, _, h => by cases h
  | .cons nm v m k r, L, e, h => by
    rcases List.mem_cons.1 h with rfl | h
    · exact ⟨tl nm, by simp [nms], [], rfl⟩
    · rcases List.mem_append.1 h with h | h
      · obtain ⟨x, _, q, e1⟩ := flat_in k _ e h
        exact ⟨tl nm, by simp [nms], x :: q, by rw [e1]; simp⟩
      · obtain ⟨x, hx, q, e1⟩ := flat_in r L e h
        exact ⟨x, by simp [nms, hx], q, e1⟩
theorem After.down {L : List By} {A : List Ent} (h : After L A) (y : By) : After (L ++ [y]) A := fun e he x q => by
  have := h e he y (x :: q)
  simpa using this
theorem After.flat {L : List By} {A : List Ent} (h : After L A) {y : By} {f : F} (hf : ∀ x ∈ nms f, belowL y x = true) : After (L ++ [y]) (flatF L f ++ A) := fun e he x q => by
  rcases List.mem_append.1 he with he | he
  · obtain ⟨z, hz, q', e1⟩ := flat_in f L e he
    rw [e1, List.append_assoc]
    exact cmpP_lt (hf z hz) _ _
  · exact h.down y e he x q
theorem after_lt {L : List By} {A : List Ent} (h : After L A) (y : By) {e : Ent} (he : e ∈ A) : cmpP (L ++ [y]) e.p = -1 := h e he y []
theorem cmpP_neg : ∀ a b : List By, cmpP b a = - cmpP a b
  | [], [] => rfl
  | [], _ :: _ => rfl
  | _ :: _, [] => rfl
  | x :: a, y :: b => by
    rw [cmpP, cmpP]
    by_cases h : belowL x y = true
    · rw [if_pos h, if_neg (by rw [belowL_asym _ _ h]; simp), if_pos h]; rfl
    · by_cases h2 : belowL y x = true
      · simp [h, h2]
      · rw [if_neg h, if_neg h2, if_neg h2, if_neg h]; exact cmpP_neg a b
/-- one step of the joining -/
theorem mg_left {f : Nat} {x : Ent} {a b : List Ent} (h : ∀ e ∈ b, cmpP x.p e.p = -1) : mgE (f + 1) (x :: a) b = ⟨x.p, x.v, vz⟩ :: mgE f a b := by
  cases b with
  | nil => rfl
  | cons y b =>
    have := h y (by simp)
    rw [mgE, if_pos (by omega)]
theorem mg_right {f : Nat} {y : Ent} {a b : List Ent} (h : ∀ e ∈ a, cmpP y.p e.p = -1) : mgE (f + 1) a (y :: b) = ⟨y.p, vz, y.v⟩ :: mgE f a b := by
  cases a with
  | nil => rfl
  | cons x a =>
    have h1 := h x (by simp)
    have h2 := cmpP_neg x.p y.p
    rw [mgE, if_neg (by omega), if_pos (by omega)]
theorem flat_len : ∀ (f : F) (L : List By), (flatF L f).length = f.size
  | .nil, _ => rfl
  | .cons nm v m k r, L => by
    simp only [flatF, List.length_cons, List.length_append, F.size, flat_len k, flat_len r]
/-- more fuel changes nothing -/
theorem mgE_more : ∀ (f g : Nat) (a b : List Ent), a.length + b.length ≤ f → a.length + b.length ≤ g → mgE f a b = mgE g a b := by
  intro f
  induction f with
  | zero =>
    intro g a b h1 h2
    have ea : a = [] := List.length_eq_zero_iff.1 (by omega)
    have eb : b = [] := List.length_eq_zero_iff.1 (by omega)
    subst ea eb
    cases g <;> rfl
  | succ f ih =>
    intro g a b h1 h2
    cases g with
    | zero =>
      have ea : a = [] := List.length_eq_zero_iff.1 (by omega)
      have eb : b = [] := List.length_eq_zero_iff.1 (by omega)
      subst ea eb
      rfl
    | succ g =>
      cases a with
      | nil => cases b with
        | nil => rfl
        | cons y b => simp only [mgE]; rw [ih g [] b (by simp at h1 ⊢; omega) (by simp at h2 ⊢; omega)]
      | cons x a => cases b with
        | nil => simp only [mgE]; rw [ih g a [] (by simp at h1 ⊢; omega) (by simp at h2 ⊢; omega)]
        | cons y b =>
          simp only [List.length_cons] at h1 h2
          simp only [mgE]
          rw [ih g a (y :: b) (by simp; omega) (by simp; omega), ih g (x :: a) b (by simp; omega) (by simp; omega), ih g a b (by omega) (by omega)]
theorem df_left {L : List By} {v : Vd} (h : v ≠ vz) : df L v vz = [⟨L, v, vz⟩] := by rw [df, if_neg h]
theorem df_right {L : List By} {v : Vd} (h : v ≠ vz) : df L vz v = [⟨L, vz, v⟩] := by rw [df, if_neg (fun e => h e.symm)]
/-- the joining of two forests' paths is the walk, and goes on behind it -/
theorem mg_wk : ∀ (N : Nat) (f g : F) (L : List By) (A B : List Ent) (M : Nat), f.size + g.size ≤ N → Rise f → Rise g → After L A → After L B → f.size + g.size + A.length + B.length ≤ M →
    mgE M (flatF L f ++ A) (flatF L g ++ B) = wk (N + 1) L f g ++ mgE M A B := by
  intro N
  induction N with
  | zero =>
    intro f g L A B M h _ _ _ _ hM
    cases f with
    | nil => cases g with
      | nil => rfl
      | cons nm v m k r => simp [F.size] at h
    | cons nm v m k r => simp [F.size] at h
  | succ N ih =>
    intro f g L A B M h hf hg hA hB hM
    cases f with
    | nil => cases g with
      | nil => rfl
      | cons nm v m k r =>
        obtain ⟨q1, q2, q3, q4⟩ := hg
        simp only [F.size] at h hM
        obtain ⟨M', rfl⟩ : ∃ M', M = M' + 1 := ⟨M - 1, by omega⟩
        rw [wk, df_right q1]
        show mgE (M' + 1) A (⟨L ++ [tl nm], v⟩ :: ((flatF (L ++ [tl nm]) k ++ flatF L r) ++ B)) = _
        rw [mg_right (fun e he => after_lt hA (tl nm) he), List.append_assoc]
        have i1 := ih .nil k (L ++ [tl nm]) A (flatF L r ++ B) M' (by simp [F.size]; omega) trivial q2 (hA.down _) (hB.flat q4) (by simp [F.size, flat_len]; omega)
        have i2 := ih .nil r L A B M' (by simp [F.size]; omega) trivial q3 hA hB (by simp [F.size]; omega)
        simp only [flatF, List.nil_append] at i1 i2
        rw [i1, i2, mgE_more M' (M' + 1) A B (by omega) (by omega)]
        simp
    | cons nm v m k r => cases g with
      | nil =>
        obtain ⟨q1, q2, q3, q4⟩ := hf
        simp only [F.size] at h hM
        obtain ⟨M', rfl⟩ : ∃ M', M = M' + 1 := ⟨M - 1, by omega⟩
        rw [wk, df_left q1]
        show mgE (M' + 1) (⟨L ++ [tl nm], v⟩ :: ((flatF (L ++ [tl nm]) k ++ flatF L r) ++ A)) B = _
        rw [mg_left (fun e he => after_lt hB (tl nm) he), List.append_assoc]
        have i1 := ih k .nil (L ++ [tl nm]) (flatF L r ++ A) B M' (by simp [F.size]; omega) q2 trivial (hA.flat q4) (hB.down _) (by simp [F.size, flat_len]; omega)
        have i2 := ih r .nil L A B M' (by simp [F.size]; omega) q3 trivial hA hB (by simp [F.size]; omega)
        simp only [flatF, List.nil_append] at i1 i2
        rw [i1, i2, mgE_more M' (M' + 1) A B (by omega) (by omega)]
        simp
      | cons nm2 v2 m2 k2 r2 =>
        have hf0 := hf
        have hg0 := hg
        obtain ⟨q1, q2, q3, q4⟩ := hf
        obtain ⟨p1, p2, p3, p4⟩ := hg
        simp only [F.size] at h hM
        obtain ⟨M', rfl⟩ : ∃ M', M = M' + 1 := ⟨M - 1, by omega⟩
        rw [wk]
        by_cases hlt : belowL (tl nm) (tl nm2) = true
        · rw [if_pos hlt, df_left q1]
          show mgE (M' + 1) (⟨L ++ [tl nm], v⟩ :: ((flatF (L ++ [tl nm]) k ++ flatF L r) ++ A)) (flatF L (.cons nm2 v2 m2 k2 r2) ++ B) = _
          have hn : ∀ x ∈ nms (.cons nm2 v2 m2 k2 r2), belowL (tl nm) x = true := fun x hx => by
            rcases List.mem_cons.1 hx with rfl | hx
            · exact hlt
            · exact below_trans hlt (p4 x hx)
          rw [mg_left (fun e he => by
            have := hB.flat hn e he
            rcases List.mem_append.1 he with he | he
            · obtain ⟨z, hz, q', e1⟩ := flat_in _ L e he
              rw [e1]; exact cmpP_lt (hn z hz) [] _
            · exact after_lt hB _ he), List.append_assoc]
          have i1 := ih k .nil (L ++ [tl nm]) (flatF L r ++ A) (flatF L (.cons nm2 v2 m2 k2 r2) ++ B) M' (by simp [F.size]; omega) q2 trivial (hA.flat q4) (hB.flat hn) (by simp [F.size, flat_len]; omega)
          have i2 := ih r (.cons nm2 v2 m2 k2 r2) L A B M' (by simp [F.size]; omega) q3 hg0 hA hB (by simp [F.size]; omega)
          rw [flatF, List.nil_append] at i1
          rw [i1, i2, mgE_more M' (M' + 1) A B (by omega) (by omega)]
          simp
        · rw [if_neg hlt]
          by_cases hgt : belowL (tl nm2) (tl nm) = true
          · rw [if_pos hgt, df_right p1]
            show mgE (M' + 1) (flatF L (.cons nm v m k r) ++ A) (⟨L ++ [tl nm2], v2⟩ :: ((flatF (L ++ [tl nm2]) k2 ++ flatF L r2) ++ B)) = _
            have hn : ∀ x ∈ nms (.cons nm v m k r), belowL (tl nm2) x = true := fun x hx => by
              rcases List.mem_cons.1 hx with rfl | hx
              · exact hgt
              · exact below_trans hgt (q4 x hx)
            rw [mg_right (fun e he => by
              rcases List.mem_append.1 he with he | he
              · obtain ⟨z, hz, q', e1⟩ := flat_in _ L e he
                rw [e1]; exact cmpP_lt (hn z hz) [] _
              · exact after_lt hA _ he), List.append_assoc]
            have i1 := ih .nil k2 (L ++ [tl nm2]) (flatF L (.cons nm v m k r) ++ A) (flatF L r2 ++ B) M' (by simp [F.size]; omega) trivial p2 (hA.flat hn) (hB.flat p4) (by simp [F.size, flat_len]; omega)
            have i2 := ih (.cons nm v m k r) r2 L A B M' (by simp [F.size]; omega) hf0 p3 hA hB (by simp [F.size]; omega)
            rw [flatF, List.nil_append] at i1
            rw [i1, i2, mgE_more M' (M' + 1) A B (by omega) (by omega)]
            simp
          · rw [if_neg hgt]
            have e := belowL_eq _ _ (by simpa using hlt) (by simpa using hgt)
            show mgE (M' + 1) (⟨L ++ [tl nm], v⟩ :: ((flatF (L ++ [tl nm]) k ++ flatF L r) ++ A)) (⟨L ++ [tl nm2], v2⟩ :: ((flatF (L ++ [tl nm2]) k2 ++ flatF L r2) ++ B)) = _
            rw [← e] at p4 ⊢
            rw [mgE, if_neg (by rw [cmpP_self]; omega), if_neg (by rw [cmpP_self]; omega), List.append_assoc, List.append_assoc]
            have i1 := ih k k2 (L ++ [tl nm]) (flatF L r ++ A) (flatF L r2 ++ B) M' (by omega) q2 p2 (hA.flat q4) (hB.flat p4) (by simp [flat_len]; omega)
            have i2 := ih r r2 L A B M' (by omega) q3 p3 hA hB (by omega)
            rw [i1, i2, mgE_more M' (M' + 1) A B (by omega) (by omega)]
            simp [df]
/-- the whole: two roots -/
def flatN (v : Vd) (k : F) : List Ent := ⟨[], v⟩ :: flatF [] k
def wkN (N : Nat) (v v2 : Vd) (k k2 : F) : List Dif := df [] v v2 ++ wk N [] k k2
theorem mg_root {v v2 : Vd} {k k2 : F} (hk : Rise k) (hk2 : Rise k2) (M : Nat) (hM : k.size + k2.size + 2 ≤ M) : mgE M (flatN v k) (flatN v2 k2) = wkN (k.size + k2.size + 1) v v2 k k2 := by
  obtain ⟨M', rfl⟩ : ∃ M', M = M' + 1 := ⟨M - 1, by omega⟩
  have h := mg_wk (k.size + k2.size) k k2 [] [] [] M' (Nat.le_refl _) hk hk2 (fun e he => by cases he) (fun e he => by cases he) (by simp; omega)
  simp only [List.append_nil] at h
  have e0 : mgE M' [] [] = [] := by cases M' <;> rfl
  rw [e0, List.append_nil] at h
  unfold flatN wkN
  rw [mgE, if_neg (by simp [cmpP]), if_neg (by simp [cmpP]), h]
  rfl
end Go.Proofs.Ytlelgboklkmkdaa.DO
