/-
  Names and depth of trees; the paths of all that stands in one, in plain Lean.
-/
import Derived.Test.YtjkbhfkeagfhbaaPutL
import Derived.Test.YtjkbhfkeagfhbaaKnown
namespace Go.Proofs.Ytjkbhfkeagfhbaa
open Go.RowKit

/-- all names are right -/
def namesF : F → Prop
  | .nil => True
  | .cons n _ _ k r => nameB (tl n) = true ∧ namesF k ∧ namesF r
theorem fault_names : ∀ {f : F} {prev : Option ByteArray} {L : List ByteArray}, faultF f prev L = none → L.length ≤ 64 → namesF f ∧ f.depth + L.length ≤ 64
  | .nil, _, _, _, hL => ⟨trivial, by simpa [F.depth] using hL⟩
  | .cons nm v m ks r, prev, L, h, hL => by
    rw [faultF] at h
    split at h
    · cases h
    · rename_i h1
      split at h
      · cases h
      · split at h
        · cases h
        · rename_i h3
          have hp : placeE prev nm (L.length + 1) = 0 := Classical.not_not.1 h1
          unfold placeE at hp
          split at hp
          · cases hp
          · rename_i hlev
            split at hp
            · cases hp
            · rename_i hnm
              have a := fault_names h3 (by simp; omega)
              have b := fault_names h hL
              refine ⟨⟨by simpa using hnm, a.1, b.1⟩, ?_⟩
              have a2 := a.2
              have b2 := b.2
              simp at a2
              simp only [F.depth]
              omega
/-- a tree that a check takes, as far as names and depth go -/
structure Fine (t : T3) : Prop where
  rises : t.2.2.rises
  names : namesF t.2.2
  depth : t.2.2.depth ≤ 64
theorem Fine.of {t : T3} (h : checkE t.1 t.2.1 t.2.2 = 0) : Fine t := by
  have := fault_names (check_none h).2 (by simp)
  exact ⟨rises_of_check h, this.1, by have := this.2; simpa using this⟩
theorem F.put_names {nm : ByteArray} {v : Vd} {m : Md} {fk : F} (hn : nameB (tl nm) = true) (hk : namesF fk) : ∀ {f : F}, namesF f → namesF (f.put nm v m fk)
  | .nil, _ => ⟨hn, hk, trivial⟩
  | .cons n v' m' k' r, ⟨h1, h2, h3⟩ => by
    rw [F.put]
    split
    · exact ⟨h1, hk, h3⟩
    · split
      · exact ⟨hn, hk, h1, h2, h3⟩
      · exact ⟨h1, h2, F.put_names hn hk h3⟩
theorem F.put_depth {nm : ByteArray} {v : Vd} {m : Md} {fk : F} : ∀ {f : F}, (f.put nm v m fk).depth ≤ max f.depth (fk.depth + 1)
  | .nil => by simp [F.put, F.depth]
  | .cons n v' m' k' r => by
    have := F.put_depth (nm := nm) (v := v) (m := m) (fk := fk) (f := r)
    rw [F.put]
    split
    · simp only [F.depth]; omega
    · split
      · simp only [F.depth]; omega
      · simp only [F.depth]; omega
theorem F.get_names {nm : ByteArray} {y : T3} : ∀ {f : F}, namesF f → f.get nm = some y → namesF y.2.2 ∧ y.2.2.depth + 1 ≤ f.depth ∧ nameB (tl nm) = true
  | .nil, _, h => by cases h
  | .cons n v m k r, ⟨h1, h2, h3⟩, h => by
    rw [F.get] at h
    split at h
    · rename_i e
      injection h with h
      subst h
      rw [e]
      exact ⟨h2, by simp only [F.depth]; omega, h1⟩
    · obtain ⟨a, b, c⟩ := F.get_names h3 h
      exact ⟨a, by simp only [F.depth]; omega, c⟩
theorem putT_fine : ∀ {t : T3} {L : List ByteArray} {s : T3}, t.2.2.rises → namesF t.2.2 → namesF s.2.2 → wayTo t L → (∀ x ∈ L, nameB (tl x) = true) → namesF (putT t L s).2.2 ∧ (putT t L s).2.2.depth ≤ max t.2.2.depth (L.length + s.2.2.depth)
  | t, [], s, _, _, hs, _, _ => ⟨hs, by simp [putT]; omega⟩
  | t, nm :: L, s, hr, ht, hs, hw, hL => by
    have hn := hL nm (by simp)
    have hL2 : ∀ x ∈ L, nameB (tl x) = true := fun x hx => hL x (by simp [hx])
    rw [putT]
    rcases hw with rfl | ⟨y, hy, hw⟩
    · simp only [putT]
      refine ⟨F.put_names hn hs ht, ?_⟩
      have := F.put_depth (nm := nm) (v := s.1) (m := s.2.1) (fk := s.2.2) (f := t.2.2)
      simp only [List.length_cons, List.length_nil]
      omega
    · rw [hy, Option.getD_some]
      have g := F.get_names ht hy
      have ih := putT_fine (s := s) (F.rises_get hr hy).1 g.1 hs hw hL2
      refine ⟨F.put_names hn ih.1 ht, ?_⟩
      have := F.put_depth (nm := nm) (v := (putT y L s).1) (m := (putT y L s).2.1) (fk := (putT y L s).2.2) (f := t.2.2)
      have := ih.2
      have := g.2.1
      simp only [List.length_cons]
      omega
/-- names as a path -/
def jn (M : List ByteArray) : ByteArray := ofB (joinL (M.map tl))
/-- the path of a child -/
def bel (p n : ByteArray) : ByteArray := if p.size = 0 then n else p ++ ⟨#[47]⟩ ++ n
theorem name_len {n : ByteArray} (h : nameB (tl n) = true) : 1 ≤ (tl n).length ∧ (tl n).length ≤ 255 := by
  unfold nameB at h
  rw [decide_eq_true_eq] at h
  exact ⟨h.1, h.2.1⟩
theorem joinL_pos : ∀ {l : List By}, l ≠ [] → (∀ x ∈ l, 1 ≤ x.length) → 1 ≤ (joinL l).length
  | [], h, _ => absurd rfl h
  | [a], _, h => h a (by simp)
  | a :: b :: l, _, h => by rw [joinL]; have := h a (by simp); simp; omega
theorem jn_snoc {M : List ByteArray} {n : ByteArray} (hM : ∀ x ∈ M, nameB (tl x) = true) : jn (M ++ [n]) = bel (jn M) n := by
  unfold bel
  by_cases h : M = []
  · subst h
    rw [if_pos (by rfl)]
    show ofB (joinL [tl n]) = n
    rw [joinL, ofB_tl]
  · have hp : (jn M).size ≠ 0 := by
      have := joinL_pos (l := M.map tl) (by simpa using h) (fun x hx => by
        obtain ⟨y, hy, rfl⟩ := List.mem_map.1 hx
        exact (name_len (hM y hy)).1)
      rw [← tl_len]
      unfold jn
      rw [tl_ofB]
      omega
    rw [if_neg hp]
    apply ext_of
    rw [tl_append, tl_append]
    unfold jn
    rw [tl_ofB, tl_ofB, List.map_append, List.map_cons, List.map_nil, joinL_snoc _ _ (by simpa using h)]
    rw [show tl (⟨#[47]⟩ : ByteArray) = [47] from tl_ofB [47]]
    simp
/-- all paths below one, with their values -/
def itemsF : ByteArray → F → List (ByteArray × Vd)
  | _, .nil => []
  | p, .cons n v _ k r => (bel p n, v) :: (itemsF (bel p n) k ++ itemsF p r)
/-- what is told stands there -/
theorem items_dn : ∀ {f : F} {M : List ByteArray} {q : ByteArray} {v : Vd}, f.rises → namesF f → (∀ x ∈ M, nameB (tl x) = true) → (q, v) ∈ itemsF (jn M) f → ∃ (R : List ByteArray) (y z : T3) (n : ByteArray), q = jn (M ++ n :: R) ∧ f.get n = some y ∧ dn y R = some z ∧ z.1 = v ∧ (∀ x ∈ n :: R, nameB (tl x) = true) ∧ R.length + 1 ≤ f.depth
  | .nil, _, _, _, _, _, _, h => by simp [itemsF] at h
  | .cons n v' m k r, M, q, v, hr, hn, hM, h => by
    rw [itemsF, ← jn_snoc hM] at h
    have hM2 : ∀ x ∈ M ++ [n], nameB (tl x) = true := fun x hx => by
      rcases List.mem_append.1 hx with h | h
      · exact hM x h
      · rw [List.mem_singleton] at h; rw [h]; exact hn.1
    rcases List.mem_cons.1 h with h | h
    · injection h with h1 h2
      exact ⟨[], (v', m, k), (v', m, k), n, h1, F.get_cons_eq, rfl, h2.symm, fun x hx => by rw [List.mem_singleton] at hx; rw [hx]; exact hn.1, by simp only [F.depth, List.length_nil]; omega⟩
    · rcases List.mem_append.1 h with h | h
      · obtain ⟨R, y, z, n2, e1, e2, e3, e4, e5, e6⟩ := items_dn hr.2.1 hn.2.1 hM2 h
        refine ⟨n2 :: R, (v', m, k), z, n, ?_, F.get_cons_eq, ?_, e4, ?_, ?_⟩
        · rw [e1, List.append_assoc]; rfl
        · rw [dn, e2]; exact e3
        · intro x hx
          rcases List.mem_cons.1 hx with h | h
          · rw [h]; exact hn.1
          · exact e5 x h
        · simp only [F.depth, List.length_cons]; omega
      · obtain ⟨R, y, z, n2, e1, e2, e3, e4, e5, e6⟩ := items_dn hr.2.2 hn.2.2 hM h
        refine ⟨R, y, z, n2, e1, ?_, e3, e4, e5, by simp only [F.depth]; omega⟩
        have hne : n2 ≠ n := fun e => by
          rw [e, F.get_above hr.1] at e2
          cases e2
        rw [F.get_ne hne]
        exact e2
/-- all paths of a tree -/
def itemsT (t : T3) : List (ByteArray × Vd) := (⟨#[]⟩, t.1) :: itemsF ⟨#[]⟩ t.2.2
theorem itemsT_dn {t : T3} (ht : Fine t) {q : ByteArray} {v : Vd} (h : (q, v) ∈ itemsT t) : ∃ (M : List ByteArray) (z : T3), q = jn M ∧ dn t M = some z ∧ z.1 = v ∧ (∀ x ∈ M, nameB (tl x) = true) ∧ M.length ≤ 64 := by
  rcases List.mem_cons.1 h with h | h
  · injection h with h1 h2
    exact ⟨[], t, h1, rfl, h2.symm, fun x hx => by simp at hx, by simp⟩
  · have h' : (q, v) ∈ itemsF (jn []) t.2.2 := h
    obtain ⟨R, y, z, n, e1, e2, e3, e4, e5, e6⟩ := items_dn ht.rises ht.names (fun x hx => by simp at hx) h'
    exact ⟨n :: R, z, e1, by rw [dn, e2]; exact e3, e4, e5, by have := ht.depth; simp only [List.length_cons]; omega⟩
theorem name_no47 {n : ByteArray} (h : nameB (tl n) = true) : ∀ x ∈ tl n, x ≠ 47 := by
  unfold nameB at h
  rw [decide_eq_true_eq] at h
  exact fun x hx => (h.2.2.2.2 x hx).1
theorem pieces_jn {M : List ByteArray} (hM : ∀ x ∈ M, nameB (tl x) = true) : pieces (tl (jn M)) = M.map tl := by
  unfold jn
  rw [tl_ofB]
  by_cases h : M = []
  · subst h; rfl
  · have h2 : M.map tl ≠ [] := by simpa using h
    have hp := joinL_pos h2 (fun x hx => by
        obtain ⟨y, hy, rfl⟩ := List.mem_map.1 hx
        exact (name_len (hM y hy)).1)
    unfold pieces
    rw [if_neg (fun e => by rw [e] at hp; simp at hp)]
    exact cuts_join h2 (fun p hp x hx => by
        obtain ⟨y, hy, rfl⟩ := List.mem_map.1 hp
        exact name_no47 (hM y hy) x hx)
theorem cutN_jn {M : List ByteArray} (hM : ∀ x ∈ M, nameB (tl x) = true) : cutN (jn M) = M := by
  unfold cutN
  rw [pieces_jn hM, List.map_map]
  have : (ofB ∘ tl) = id := funext fun s => ofB_tl s
  rw [this, List.map_id]
theorem splitE_jn {M : List ByteArray} (hM : ∀ x ∈ M, nameB (tl x) = true) (hl : M.length ≤ 64) : splitE (tl (jn M)) 64 = 0 := by
  unfold splitE
  rw [pieces_jn hM, if_neg (by simp; omega), if_pos]
  rw [List.all_eq_true]
  intro x hx
  obtain ⟨y, hy, rfl⟩ := List.mem_map.1 hx
  exact hM y hy
theorem joinL_len : ∀ {l : List By}, (∀ x ∈ l, x.length ≤ 255) → (joinL l).length ≤ 256 * l.length
  | [], _ => by simp [joinL]
  | [a], h => by have := h a (by simp); simp [joinL]; omega
  | a :: b :: l, h => by
    have h1 := h a (by simp)
    have h2 := joinL_len (l := b :: l) fun x hx => h x (by simp [hx])
    rw [joinL]
    simp at h2 ⊢
    omega
theorem jn_size {M : List ByteArray} (hM : ∀ x ∈ M, nameB (tl x) = true) (hl : M.length ≤ 64) : (jn M).size ≤ 16384 := by
  rw [← tl_len]
  unfold jn
  rw [tl_ofB]
  have := joinL_len (l := M.map tl) fun x hx => by
    obtain ⟨y, hy, rfl⟩ := List.mem_map.1 hx
    exact (name_len (hM y hy)).2
  simp at this
  omega
/-- a path that splits is the path of its names -/
theorem jn_cutN {p : ByteArray} (h : splitE (tl p) 64 = 0) : jn (cutN p) = p ∧ (∀ x ∈ cutN p, nameB (tl x) = true) ∧ (cutN p).length ≤ 64 := by
  refine ⟨?_, ?_, names_few h⟩
  · unfold jn cutN
    rw [List.map_map, show (tl ∘ ofB) = id from funext fun l => tl_ofB l, List.map_id]
    by_cases hp : tl p = []
    · rw [show pieces (tl p) = [] by unfold pieces; rw [if_pos hp]]
      apply ext_of
      rw [tl_ofB, hp]
      rfl
    · rw [show pieces (tl p) = cuts (tl p) by unfold pieces; rw [if_neg hp], join_cuts, ofB_tl]
  · intro x hx
    unfold splitE at h
    split at h
    · cases h
    · split at h
      · rename_i ha
        rw [List.all_eq_true] at ha
        unfold cutN at hx
        obtain ⟨y, hy, rfl⟩ := List.mem_map.1 hx
        rw [tl_ofB]
        exact ha y hy
      · cases h
theorem joinL_app : ∀ (l r : List By), l ≠ [] → r ≠ [] → joinL (l ++ r) = joinL l ++ 47 :: joinL r
  | [], _, h, _ => absurd rfl h
  | [a], [], _, h => absurd rfl h
  | [a], b :: r, _, _ => rfl
  | a :: b :: l, r, _, hr => by
    rw [List.cons_append, List.cons_append, joinL, joinL, ← List.cons_append, joinL_app (b :: l) r (by simp) hr]
    simp
theorem under_jn {L M : List ByteArray} (h : L <+: M) : underB (tl (jn M)) (tl (jn L)) = true := by
  obtain ⟨R, rfl⟩ := h
  rw [underB_iff]
  unfold jn
  rw [tl_ofB, tl_ofB, List.map_append]
  by_cases hL : L = []
  · subst hL; exact .inl rfl
  · by_cases hR : R = []
    · subst hR; rw [List.map_nil, List.append_nil]; exact .inr (.inl rfl)
    · exact .inr (.inr ⟨_, joinL_app _ _ (by simpa using hL) (by simpa using hR)⟩)
/-- what the callback of elsewhere asks: it is under p, or the other tree has the same value there -/
def Els (u : T3) (p q : ByteArray) (v : Vd) : Prop := underB (tl q) (tl p) = true ∨ ((subS u q).isSome = true ∧ atV u q = v)
theorem subS_jn {u : T3} {M : List ByteArray} (hM : ∀ x ∈ M, nameB (tl x) = true) (hl : M.length ≤ 64) : subS u (jn M) = dn u M := by
  unfold subS
  rw [if_pos (splitE_jn hM hl), cutN_jn hM]
theorem els_of {t u : T3} {p : ByteArray} (ht : Fine t) (hp : splitE (tl p) 64 = 0) (h : ∀ M, ¬ cutN p <+: M → (dn u M).map (·.1) = (dn t M).map (·.1)) : ∀ x ∈ itemsT t, Els u p x.1 x.2 := by
  rintro ⟨q, v⟩ hx
  obtain ⟨M, z, rfl, e2, e3, e4, e5⟩ := itemsT_dn ht hx
  by_cases hpre : cutN p <+: M
  · have := under_jn hpre
    rw [(jn_cutN hp).1] at this
    exact .inl this
  · right
    have h1 := h M hpre
    rw [e2] at h1
    have hs := subS_jn (u := u) e4 e5
    have hz : ∃ z2, dn u M = some z2 ∧ z2.1 = v := by
      cases hd : dn u M with
      | none => rw [hd] at h1; cases h1
      | some z2 => rw [hd] at h1; injection h1 with h1; exact ⟨z2, rfl, h1.trans e3⟩
    obtain ⟨z2, h2, h3⟩ := hz
    refine ⟨by rw [hs, h2]; rfl, ?_⟩
    unfold atV
    rw [hs, h2]
    exact h3
end Go.Proofs.Ytjkbhfkeagfhbaa
