import Derived.Test.YtbjjbgaomoihaaaGreatDoorRow
set_option maxRecDepth 100000
set_option maxHeartbeats 1000000
namespace Go.Proofs.YtbjjbgaomoihaaaGreatDoor
open Go.RowKit
theorem bl_irrefl : ∀ l : List UInt8, Op.bytesLess l l = false
  | [] => rfl
  | a :: l => by simp [Op.bytesLess, bl_irrefl l]
theorem bl_trans : ∀ {a b c : List UInt8}, Op.bytesLess a b = true → Op.bytesLess b c = true → Op.bytesLess a c = true
  | _, _, [], _, h => by simp [Op.bytesLess] at h
  | _, [], _ :: _, h, _ => by simp [Op.bytesLess] at h
  | [], _ :: _, _ :: _, _, _ => rfl
  | a :: x, b :: y, c :: z, h, k => by
    simp only [Op.bytesLess, Bool.or_eq_true, decide_eq_true_eq, Bool.and_eq_true, beq_iff_eq] at h k ⊢
    rcases h with h | ⟨rfl, h⟩
    · rcases k with k | ⟨rfl, k⟩
      · exact .inl (UInt8.lt_trans h k)
      · exact .inl h
    · rcases k with k | ⟨rfl, k⟩
      · exact .inl k
      · exact .inr ⟨rfl, bl_trans h k⟩
theorem u8_tri (a b : UInt8) : a < b ∨ a = b ∨ b < a := by
  rcases Nat.lt_trichotomy a.toNat b.toNat with h | h | h
  · exact .inl (UInt8.lt_iff_toNat_lt.2 h)
  · exact .inr (.inl (UInt8.toNat_inj.1 h))
  · exact .inr (.inr (UInt8.lt_iff_toNat_lt.2 h))
theorem bl_tri : ∀ a b : List UInt8, a = b ∨ Op.bytesLess a b = true ∨ Op.bytesLess b a = true
  | [], [] => .inl rfl
  | [], _ :: _ => .inr (.inl rfl)
  | _ :: _, [] => .inr (.inr rfl)
  | a :: x, b :: y => by
    simp only [Op.bytesLess, Bool.or_eq_true, decide_eq_true_eq, Bool.and_eq_true, beq_iff_eq]
    rcases u8_tri a b with h | h | h
    · exact .inr (.inl (.inl h))
    · subst h
      rcases bl_tri x y with h | h | h
      · exact .inl (by rw [h])
      · exact .inr (.inl (.inr ⟨rfl, h⟩))
      · exact .inr (.inr (.inr ⟨rfl, h⟩))
    · exact .inr (.inr (.inl h))
theorem toList_inj {a b : ByteArray} (h : a.toList = b.toList) : a = b := by
  rw [ByteArray.toList_eq, ByteArray.toList_eq] at h
  cases a
  cases b
  simp only [ByteArray.mk.injEq]
  exact Array.toList_inj.1 h
def lt (a b : ByteArray) : Prop := Op.bytesLess a.toList b.toList = true
theorem lt_irrefl (a : ByteArray) : ¬ lt a a := fun h => by unfold lt at h; rw [bl_irrefl] at h; cases h
theorem lt_trans {a b c : ByteArray} (h : lt a b) (k : lt b c) : lt a c := bl_trans h k
theorem lt_tri (a b : ByteArray) : a = b ∨ lt a b ∨ lt b a := (bl_tri a.toList b.toList).imp toList_inj id
theorem lt_no {a b : ByteArray} (h : lt a b) : ¬ lt b a ∧ a ≠ b := ⟨fun k => lt_irrefl _ (lt_trans h k), fun e => lt_irrefl b (e ▸ h)⟩
def F.above (nm : ByteArray) : F → Prop
  | .nil => True
  | .cons n _ _ _ r => lt nm n ∧ F.above nm r
def F.under (nm : ByteArray) : F → Prop
  | .nil => True
  | .cons n _ _ _ r => lt n nm ∧ F.under nm r
def F.rises : F → Prop
  | .nil => True
  | .cons n _ _ k r => F.above n r ∧ F.rises k ∧ F.rises r
theorem F.above_mono {a b : ByteArray} (h : lt a b) : ∀ {f : F}, f.above b → f.above a
  | .nil, _ => trivial
  | .cons _ _ _ _ _, ⟨h1, h2⟩ => ⟨lt_trans h h1, F.above_mono h h2⟩
theorem F.above_app {nm : ByteArray} : ∀ {f g : F}, (f.app g).above nm ↔ f.above nm ∧ g.above nm
  | .nil, g => by simp [F.app, F.above]
  | .cons _ _ _ _ r, g => by simp [F.app, F.above, F.above_app (f := r), and_assoc]
theorem F.rises_app {n : ByteArray} {v : Vd} {m : Md} {k : F} : ∀ {f g : F}, (f.app (.cons n v m k g)).rises ↔ f.rises ∧ f.under n ∧ g.above n ∧ k.rises ∧ g.rises ∧ (∀ x, f.under x ∨ True)
  | .nil, g => by simp [F.app, F.rises, F.under]
  | .cons n' v' m' k' r, g => by
    simp only [F.app, F.rises, F.rises_app (f := r), F.above_app, F.above, F.under]
    constructor
    · rintro ⟨⟨h1, h2, h3⟩, h4, h5, h6, h7, h8, h9, _⟩
      exact ⟨⟨h1, h4, h5⟩, ⟨h2, h6⟩, h7, h8, h9, fun _ => .inr trivial⟩
    · rintro ⟨⟨h1, h4, h5⟩, ⟨h2, h6⟩, h7, h8, h9, _⟩
      exact ⟨⟨h1, h2, F.above_mono h2 h7⟩, h4, h5, h6, h7, h8, h9, fun _ => .inr trivial⟩
def cmp3 (a b : ByteArray) : Int := if Op.bytesLess a.toList b.toList then -1 else if Op.bytesLess b.toList a.toList then 1 else 0
theorem cmp3_eq {a b : ByteArray} : cmp3 a b = 0 ↔ a = b := by
  unfold cmp3
  rcases lt_tri a b with h | h | h
  · subst h; simp [bl_irrefl]
  · have hn := (lt_no h).2
    unfold lt at h
    rw [if_pos h]; exact ⟨fun e => absurd e (by decide), fun e => absurd e hn⟩
  · have := (lt_no h).1
    unfold lt at this h
    rw [if_neg this, if_pos h]
    exact ⟨fun e => absurd e (by decide), fun e => by subst e; rw [bl_irrefl] at h; cases h⟩
theorem cmp3_lt {a b : ByteArray} (h : lt a b) : cmp3 a b = -1 := if_pos h
theorem cmp3_gt {a b : ByteArray} (h : lt b a) : cmp3 a b = 1 := by
  have := (lt_no h).1
  unfold lt at this h
  unfold cmp3
  rw [if_neg this, if_pos h]
theorem isNaN_any (a : ByteArray) (w : World) : Calls Tryz.prog 141 #[.string a] w fun e w' => e = .returned (.bool false) ∧ w' = w := by
  have h : (a.toList != a.toList) = false := by simp
  go_enter Tryz.func141, Tryz.ntmps141
  go_wp2
  go_ret
  exact ⟨rfl, rfl⟩
theorem cmp_any (a b : ByteArray) (w : World) : Calls Tryz.prog 97 #[.string a, .string b] w fun e w' => e = .returned (.int .i64 (cmp3 a b)) ∧ w' = w := by
  have C := fun x W => isNaN_any x W
  unfold cmp3
  cases h1 : Op.bytesLess a.toList b.toList with
  | true =>
    go_enter Tryz.func97, Tryz.ntmps97
    go_wp2_with (go_at_call 141; refine (C _ _).mono ?_; rintro e w2 ⟨rfl, e2⟩; subst e2)
    go_ret
    exact ⟨rfl, rfl⟩
  | false =>
    cases h2 : Op.bytesLess b.toList a.toList with
    | true =>
      have he : (a.toList == b.toList) = false := by
        simp only [beq_eq_false_iff_ne]
        intro e
        rw [e, bl_irrefl] at h2; cases h2
      go_enter Tryz.func97, Tryz.ntmps97
      go_wp2_with (go_at_call 141; refine (C _ _).mono ?_; rintro e w2 ⟨rfl, e2⟩; subst e2)
      go_ret
      exact ⟨rfl, rfl⟩
    | false =>
      have he : (a.toList == b.toList) = true := by
        rcases bl_tri a.toList b.toList with e | e | e
        · rw [e]; simp
        · rw [h1] at e; cases e
        · rw [h2] at e; cases e
      go_enter Tryz.func97, Tryz.ntmps97
      go_wp2_with (go_at_call 141; refine (C _ _).mono ?_; rintro e w2 ⟨rfl, e2⟩; subst e2)
      go_ret
      exact ⟨rfl, rfl⟩
def K.sz : K → Nat
  | .nil => 0
  | .node _ _ _ _ _ kids ah be => kids.sz + ah.sz + be.sz + 1
theorem lies_one {w : World} {g : Nat} {c d : Array Value} (h : Lies w g 0 c) (k : Lies w g 0 d) (j : Nat) (x y : Value) (hx : c[j]? = some x) (hy : d[j]? = some y) : x = y := by
  have h1 := lies_cell h j x hx
  rw [lies_cell k j y hy] at h1
  exact (Option.some.inj h1).symm
theorem lies_tc {w : World} {p : Nat} {v v' : Vd} {m m' : Md} {pk pk' : Value} (h : Lies w p 0 (tc v m pk)) (k : Lies w p 0 (tc v' m' pk')) : v = v' ∧ m = m' ∧ pk = pk' := by
  have e : tc v m pk = tc v' m' pk' := by
    refine Array.ext (by rw [tc_size, tc_size]) fun i h1 h2 => ?_
    exact lies_one h k i _ _ (Array.getElem?_eq_getElem h1) (Array.getElem?_eq_getElem h2)
  have h1 := tc_val v m pk
  rw [e, tc_val] at h1
  have h2 := tc_marks v m pk
  rw [e, tc_marks] at h2
  have h3 := tc_kids v m pk
  rw [e, tc_kids] at h3
  exact ⟨(vx_inj (by simpa using h1)).symm, (mx_inj (by simpa using h2)).symm, (Option.some.inj h3).symm⟩
theorem At.uniq {w : World} : ∀ {k k' : K} {u : Value}, At w k u → At w k' u → k = k'
  | .nil, .nil, _, _, _ => rfl
  | .nil, .node .., _, h, ⟨h', _⟩ => by rw [h] at h'; cases h'
  | .node .., .nil, _, ⟨h, _⟩, h' => by rw [h] at h'; cases h'
  | .node q p nm v m kids ah be, .node q' p' nm' v' m' kids' ah' be', _, ⟨h1, pk, pa, pb, ⟨h2, h3⟩, h4, h5, h6⟩, ⟨g1, pk', pa', pb', ⟨g2, g3⟩, g4, g5, g6⟩ => by
    rw [h1] at g1
    injection g1 with g1
    injection g1 with g1
    injection g1 with g1
    subst g1
    have e0 := lies_one h2 g2 0 (.string nm) (.string nm') rfl rfl
    have e1 := lies_one h2 g2 1 (.pointer (some ⟨p, 0, none⟩)) (.pointer (some ⟨p', 0, none⟩)) rfl rfl
    have e2 := lies_one h2 g2 2 pa pa' rfl rfl
    have e3 := lies_one h2 g2 3 pb pb' rfl rfl
    injection e0 with e0
    injection e1 with e1
    injection e1 with e1
    injection e1 with e1
    subst e0 e1 e2 e3
    obtain ⟨e4, e5, e6⟩ := lies_tc h3 g3
    subst e4 e5 e6
    rw [At.uniq h4 g4, At.uniq h5 g5, At.uniq h6 g6]
open Classical in
noncomputable def msr (w : World) (u : Value) : Nat := if h : ∃ k, At w k u then (Classical.choose h).sz else 0
theorem msr_eq {w : World} {k : K} {u : Value} (h : At w k u) : msr w u = k.sz := by
  have hx : ∃ k, At w k u := ⟨k, h⟩
  unfold msr
  rw [dif_pos hx, (Classical.choose_spec hx).uniq h]
def K.find : K → ByteArray → Option (Nat × Vd × Md × K)
  | .nil, _ => none
  | .node _ p n v m kids ah be, nm => if cmp3 nm n = 0 then some (p, v, m, kids) else if cmp3 nm n = -1 then ah.find nm else be.find nm
def ptrOf : Option (Nat × Vd × Md × K) → Value
  | none => .pointer none
  | some (p, _) => .pointer (some ⟨p, 0, none⟩)
theorem K.find_at {w : World} {nm : ByteArray} : ∀ {k : K} {u : Value}, At w k u → ∀ p v m kk, k.find nm = some (p, v, m, kk) → AtT w p v m kk
  | .nil, _, _, _, _, _, _, h => by cases h
  | .node q p n v m kids ah be, _, ⟨h1, pk, pa, pb, ⟨h2, h3⟩, h4, h5, h6⟩, p', v', m', kk, h => by
    rw [K.find] at h
    split at h
    · cases h; exact ⟨pk, h3, h4⟩
    split at h
    · exact K.find_at h5 p' v' m' kk h
    · exact K.find_at h6 p' v' m' kk h
theorem find_any (k : K) (u : Value) (nm : ByteArray) (w : World) (h : At w k u) : Calls Tryz.prog 63 #[u, .string nm] w fun e w' => e = .returned (ptrOf (k.find nm)) ∧ w' = w := by
  have HA := hid h
  obtain ⟨r, hr⟩ : ∃ r, k.find nm = r := ⟨_, rfl⟩
  have HR := hid hr
  rw [hr]
  obtain ⟨a, rfl⟩ := h.form
  obtain ⟨μ, hμ⟩ : ∃ μ : Value → Nat, ∀ k u, At w k u → μ u = k.sz := ⟨msr w, fun _ _ h => msr_eq h⟩
  have Hμ := hid hμ
  clear h hr hμ
  go_enter Tryz.func63, Tryz.ntmps63
  go_wp2_with fail
  go_loopw [0] (fun u wr => (∃ a, u = .pointer a) ∧ wr = w ∧ Hid (∃ kk, At w kk u ∧ kk.find nm = r)) (fun u _ => μ u)
  case atStart => exact ⟨⟨_, rfl⟩, rfl, k, HA.out, HR.out⟩
  case round =>
    clear HA HR
    obtain ⟨⟨a1, rfl⟩, rfl, HK⟩ := hrel
    obtain ⟨kk, hA, hf⟩ := HK.out
    clear HK
    cases kk with
    | nil =>
      have e : Value.pointer a1 = .pointer none := hA
      injection e with e
      subst e
      have e2 : r = none := hf.symm
      subst e2
      clear hA hf
      go_wp2_with fail
      go_ret
      exact ⟨rfl, rfl⟩
    | node q p n v m kids ah be =>
      have hm := Hμ.out _ _ hA
      obtain ⟨e, pk, pa, pb, ⟨h2, h3⟩, h4, h5, h6⟩ := hA
      injection e with e
      subst e
      have c0 := lies_cell h2 0 (.string n) rfl
      have c1 := lies_cell h2 1 (.pointer (some ⟨p, 0, none⟩)) rfl
      have c2 := lies_cell h2 2 pa rfl
      have c3 := lies_cell h2 3 pb rfl
      obtain ⟨aa, rfl⟩ := h5.form
      obtain ⟨ab, rfl⟩ := h6.form
      have C := cmp_any nm n wr
      have HM := hid (⟨hm, Hμ.out _ _ h5, Hμ.out _ _ h6⟩ : _ ∧ _ ∧ _)
      rw [K.find] at hf
      have H5 := hid h5
      have H6 := hid h6
      clear h2 h3 h4 h5 h6 hm
      rcases lt_tri nm n with hq | hq | hq
      · have e0 : cmp3 nm n = 0 := cmp3_eq.2 hq
        rw [e0] at C
        rw [if_pos e0] at hf
        subst hf
        clear e0 hq
        go_wp2_with (go_at_call 97; refine C.mono ?_; rintro e w2 ⟨rfl, e2⟩; subst e2)
        go_ret
        exact ⟨rfl, rfl⟩
      · have e0 : cmp3 nm n = -1 := cmp3_lt hq
        rw [e0] at C
        rw [if_neg (by rw [e0]; decide), if_pos e0] at hf
        have HF := hid hf
        clear e0 hf hq
        go_wp2_with (go_at_call 97; refine C.mono ?_; rintro e w2 ⟨rfl, e2⟩; subst e2)
        go_roundw
        case rel => exact ⟨⟨_, rfl⟩, by trivial, ah, H5.out, HF.out⟩
        case measure => rw [HM.out.2.1, HM.out.1, K.sz]; omega
      · have e0 : cmp3 nm n = 1 := cmp3_gt hq
        rw [e0] at C
        rw [if_neg (by rw [e0]; decide), if_neg (by rw [e0]; decide)] at hf
        have HF := hid hf
        clear e0 hf hq
        go_wp2_with (go_at_call 97; refine C.mono ?_; rintro e w2 ⟨rfl, e2⟩; subst e2)
        go_roundw
        case rel => exact ⟨⟨_, rfl⟩, by trivial, be, H6.out, HF.out⟩
        case measure => rw [HM.out.2.2, HM.out.1, K.sz]; omega
def F.get : F → ByteArray → Option (Vd × Md × F)
  | .nil, _ => none
  | .cons n v m k r, nm => if nm = n then some (v, m, k) else r.get nm
theorem F.get_app {nm : ByteArray} : ∀ {f g : F}, (f.app g).get nm = (f.get nm).or (g.get nm)
  | .nil, g => by simp [F.app, F.get]
  | .cons n v m k r, g => by
    rw [F.app, F.get, F.get]
    split
    · rfl
    · exact F.get_app
theorem F.get_under {nm : ByteArray} : ∀ {f : F}, f.under nm → f.get nm = none
  | .nil, _ => rfl
  | .cons n _ _ _ r, ⟨h1, h2⟩ => by rw [F.get, if_neg (Ne.symm (lt_no h1).2)]; exact F.get_under h2
theorem F.get_above {nm : ByteArray} : ∀ {f : F}, f.above nm → f.get nm = none
  | .nil, _ => rfl
  | .cons n _ _ _ r, ⟨h1, h2⟩ => by rw [F.get, if_neg (lt_no h1).2]; exact F.get_above h2
theorem F.under_mono {a b : ByteArray} (h : lt a b) : ∀ {f : F}, f.under a → f.under b
  | .nil, _ => trivial
  | .cons _ _ _ _ _, ⟨h1, h2⟩ => ⟨lt_trans h1 h, F.under_mono h h2⟩
theorem K.find_get {nm : ByteArray} : ∀ {k : K}, k.flat.rises → (k.find nm).map (fun x => (x.2.1, x.2.2.1, x.2.2.2.flat)) = k.flat.get nm
  | .nil, _ => rfl
  | .node q p n v m kids ah be, h => by
    rw [K.flat, F.rises_app] at h
    obtain ⟨h1, h2, h3, h4, h5, _⟩ := h
    rw [K.find, K.flat, F.get_app, F.get]
    rcases lt_tri nm n with hq | hq | hq
    · subst hq
      rw [if_pos (cmp3_eq.2 rfl), if_pos rfl, F.get_under h2]
      rfl
    · rw [if_neg (by rw [cmp3_lt hq]; decide), if_pos (cmp3_lt hq), if_neg (lt_no hq).2, F.get_above (F.above_mono hq h3), K.find_get h1]
      simp
    · rw [if_neg (by rw [cmp3_gt hq]; decide), if_neg (by rw [cmp3_gt hq]; decide), if_neg (Ne.symm (lt_no hq).2), F.get_under (F.under_mono hq h2), K.find_get h5]
      rfl
end Go.Proofs.YtbjjbgaomoihaaaGreatDoor
