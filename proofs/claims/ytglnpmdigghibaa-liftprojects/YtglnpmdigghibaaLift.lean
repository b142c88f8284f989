/-
  lift.Project by contract.
-/
import Derived.Test.YtglnpmdigghibaaOf
import Derived.Test.YtglnpmdigghibaaFold
import Derived.Test.YtglnpmdigghibaaOfP
namespace Go.Proofs.Ytglnpmdigghibaa
open Go.RowKit

theorem bl_irrefl : ∀ l : List UInt8, Op.bytesLess l l = false
  | [] => rfl
  | a :: l => by simp [Op.bytesLess, bl_irrefl l]
theorem bl_trans : ∀ {a b c : List UInt8}, Op.bytesLess a b = true → Op.bytesLess b c = true → Op.bytesLess a c = true
  | _, _, [], _, h => by simp [Op.bytesLess] at h
  | _, [], _ :: _, h, _ => by simp [Op.bytesLess] at h
  | [], _ :: _, _ :: _, _, _ => rfl
  | a :: x, b :: y, c :: z, h, k => by
    simp only [Op.bytesLess, Bool.or_eq_true, decide_eq_true_eq, Bool.and_eq_true, beq_iff_eq] at h k ⊢
    rcases h with h | ⟨rfl, h⟩
    · rcases k with k | ⟨rfl, k⟩
      · exact .inl (UInt8.lt_trans h k)
      · exact .inl h
    · rcases k with k | ⟨rfl, k⟩
      · exact .inl k
      · exact .inr ⟨rfl, bl_trans h k⟩
theorem u8_tri (a b : UInt8) : a < b ∨ a = b ∨ b < a := by
  rcases Nat.lt_trichotomy a.toNat b.toNat with h | h | h
  · exact .inl (UInt8.lt_iff_toNat_lt.2 h)
  · exact .inr (.inl (UInt8.toNat_inj.1 h))
  · exact .inr (.inr (UInt8.lt_iff_toNat_lt.2 h))
theorem bl_tri : ∀ a b : List UInt8, a = b ∨ Op.bytesLess a b = true ∨ Op.bytesLess b a = true
  | [], [] => .inl rfl
  | [], _ :: _ => .inr (.inl rfl)
  | _ :: _, [] => .inr (.inr rfl)
  | a :: x, b :: y => by
    simp only [Op.bytesLess, Bool.or_eq_true, decide_eq_true_eq, Bool.and_eq_true, beq_iff_eq]
    rcases u8_tri a b with h | h | h
    · exact .inr (.inl (.inl h))
    · subst h
      rcases bl_tri x y with h | h | h
      · exact .inl (by rw [h])
      · exact .inr (.inl (.inr ⟨rfl, h⟩))
      · exact .inr (.inr (.inr ⟨rfl, h⟩))
    · exact .inr (.inr (.inl h))
theorem toList_inj {a b : ByteArray} (h : a.toList = b.toList) : a = b := by
  rw [ByteArray.toList_eq, ByteArray.toList_eq] at h
  cases a
  cases b
  simp only [ByteArray.mk.injEq]
  exact Array.toList_inj.1 h
/-- a stands ahead of b -/
def lt (a b : ByteArray) : Prop := Op.bytesLess a.toList b.toList = true
theorem lt_irrefl (a : ByteArray) : ¬ lt a a := fun h => by unfold lt at h; rw [bl_irrefl] at h; cases h
theorem lt_trans {a b c : ByteArray} (h : lt a b) (k : lt b c) : lt a c := bl_trans h k
theorem lt_tri (a b : ByteArray) : a = b ∨ lt a b ∨ lt b a := (bl_tri a.toList b.toList).imp toList_inj id
theorem lt_no {a b : ByteArray} (h : lt a b) : ¬ lt b a ∧ a ≠ b := ⟨fun k => lt_irrefl _ (lt_trans h k), fun e => lt_irrefl b (e ▸ h)⟩

/-- all names stand behind nm -/
def F.above (nm : ByteArray) : F → Prop
  | .nil => True
  | .cons n _ _ _ r => lt nm n ∧ F.above nm r
/-- all names stand ahead of nm -/
def F.under (nm : ByteArray) : F → Prop
  | .nil => True
  | .cons n _ _ _ r => lt n nm ∧ F.under nm r
/-- the names rise, at every height -/
def F.rises : F → Prop
  | .nil => True
  | .cons n _ _ k r => F.above n r ∧ F.rises k ∧ F.rises r
theorem F.above_mono {a b : ByteArray} (h : lt a b) : ∀ {f : F}, f.above b → f.above a
  | .nil, _ => trivial
  | .cons _ _ _ _ _, ⟨h1, h2⟩ => ⟨lt_trans h h1, F.above_mono h h2⟩
theorem F.above_app {nm : ByteArray} : ∀ {f g : F}, (f.app g).above nm ↔ f.above nm ∧ g.above nm
  | .nil, g => by simp [F.app, F.above]
  | .cons _ _ _ _ r, g => by simp [F.app, F.above, F.above_app (f := r), and_assoc]
theorem F.rises_app {n : ByteArray} {v : Vd} {m : Md} {k : F} : ∀ {f g : F}, (f.app (.cons n v m k g)).rises ↔ f.rises ∧ f.under n ∧ g.above n ∧ k.rises ∧ g.rises ∧ (∀ x, f.under x ∨ True)
  | .nil, g => by simp [F.app, F.rises, F.under]
  | .cons n' v' m' k' r, g => by
    simp only [F.app, F.rises, F.rises_app (f := r), F.above_app, F.above, F.under]
    constructor
    · rintro ⟨⟨h1, h2, h3⟩, h4, h5, h6, h7, h8, h9, _⟩
      exact ⟨⟨h1, h4, h5⟩, ⟨h2, h6⟩, h7, h8, h9, fun _ => .inr trivial⟩
    · rintro ⟨⟨h1, h4, h5⟩, ⟨h2, h6⟩, h7, h8, h9, _⟩
      exact ⟨⟨h1, h2, F.above_mono h2 h7⟩, h4, h5, h6, h7, h8, h9, fun _ => .inr trivial⟩

theorem leP_lt {nm p : ByteArray} (h : leP nm (some p) = false) : lt p nm := by
  have h' : leB nm p = false := h
  unfold leB at h'
  simp only [Bool.or_eq_false_iff, beq_eq_false_iff_ne] at h'
  rcases lt_tri p nm with e | e | e
  · exact absurd (by rw [e]) h'.2
  · exact e
  · unfold lt at e; rw [h'.1] at e; cases e
/-- what Check takes rises -/
theorem faultF_rises : ∀ {f : F} {prev : Option ByteArray} {L : List ByteArray}, faultF f prev L = none → f.rises ∧ ∀ p, prev = some p → f.above p
  | .nil, _, _, _ => ⟨trivial, fun _ _ => trivial⟩
  | .cons nm v m ks r, prev, L, h => by
    rw [faultF] at h
    by_cases h1 : placeE prev nm (L.length + 1) ≠ 0
    · rw [if_pos h1] at h; cases h
    rw [if_neg h1] at h
    by_cases h2 : ownE v m (decide (0 < ks.len)) ≠ 0
    · rw [if_pos h2] at h; cases h
    rw [if_neg h2] at h
    cases h3 : faultF ks none (L ++ [nm]) with
    | some x => rw [h3] at h; cases h
    | none =>
      rw [h3] at h
      have ih1 := faultF_rises h3
      have ih2 := faultF_rises (f := r) (prev := some nm) (L := L) h
      refine ⟨⟨ih2.2 nm rfl, ih1.1, ih2.1⟩, fun p hp => ?_⟩
      subst hp
      have h4 : lt p nm := by
        refine leP_lt ?_
        have h5 : placeE (some p) nm (L.length + 1) = 0 := by simpa using h1
        unfold placeE at h5
        split at h5
        · cases h5
        split at h5
        · cases h5
        split at h5
        · cases h5
        · rename_i h6; simpa using h6
      exact ⟨h4, F.above_mono h4 (ih2.2 nm rfl)⟩
theorem faultF_nz : ∀ {f : F} {prev : Option ByteArray} {L : List ByteArray} {x : List ByteArray × Int}, faultF f prev L = some x → x.2 ≠ 0
  | .nil, _, _, _, h => by cases h
  | .cons nm v m ks r, prev, L, x, h => by
    rw [faultF] at h
    by_cases h1 : placeE prev nm (L.length + 1) ≠ 0
    · rw [if_pos h1] at h; cases h; exact h1
    rw [if_neg h1] at h
    by_cases h2 : ownE v m (decide (0 < ks.len)) ≠ 0
    · rw [if_pos h2] at h; cases h; exact h2
    rw [if_neg h2] at h
    cases h3 : faultF ks none (L ++ [nm]) with
    | some y => rw [h3] at h; cases h; exact faultF_nz h3
    | none => rw [h3] at h; exact faultF_nz (f := r) h
theorem check_none {v : Vd} {m : Md} {ks : F} (h : checkE v m ks = 0) : ownE v m (decide (0 < ks.len)) = 0 ∧ faultF ks none [] = none := by
  unfold checkE faultN at h
  by_cases h2 : ownE v m (decide (0 < ks.len)) ≠ 0
  · rw [if_pos h2] at h; exact absurd h h2
  rw [if_neg h2] at h
  refine ⟨by simpa using h2, ?_⟩
  cases h3 : faultF ks none [] with
  | none => rfl
  | some x => rw [h3] at h; exact absurd h (faultF_nz h3)
theorem rises_of_check {v : Vd} {m : Md} {ks : F} (h : checkE v m ks = 0) : ks.rises := (faultF_rises (check_none h).2).1

/-- cmp.Compare of two names -/
def cmp3 (a b : ByteArray) : Int := if Op.bytesLess a.toList b.toList then -1 else if Op.bytesLess b.toList a.toList then 1 else 0
theorem cmp3_eq {a b : ByteArray} : cmp3 a b = 0 ↔ a = b := by
  unfold cmp3
  rcases lt_tri a b with h | h | h
  · subst h; simp [bl_irrefl]
  · have hn := (lt_no h).2
    unfold lt at h
    rw [if_pos h]; exact ⟨fun e => absurd e (by decide), fun e => absurd e hn⟩
  · have := (lt_no h).1
    unfold lt at this h
    rw [if_neg this, if_pos h]
    exact ⟨fun e => absurd e (by decide), fun e => by subst e; rw [bl_irrefl] at h; cases h⟩
theorem cmp3_lt {a b : ByteArray} (h : lt a b) : cmp3 a b = -1 := if_pos h
theorem cmp3_gt {a b : ByteArray} (h : lt b a) : cmp3 a b = 1 := by
  have := (lt_no h).1
  unfold lt at this h
  unfold cmp3
  rw [if_neg this, if_pos h]
end Go.Proofs.Ytglnpmdigghibaa
namespace Go.Proofs.Ytglnpmdigghibaa
open Go.RowKit

theorem unkV_kind (v : Vd) : (unkV v).kind = v.kind := by unfold unkV; split <;> rfl
theorem rightVB_unk {v : Vd} (h : rightVB v = true) : rightVB (unkV v) = true := by
  by_cases h3 : v.kind = 3
  · unfold unkV; rw [if_pos h3]; exact h
  · unfold rightVB at h ⊢
    rw [unkV_kind]
    by_cases h1 : v.kind = 1
    · rw [if_pos h1] at h ⊢
      rw [decide_eq_true_eq] at h ⊢
      unfold unkV
      rw [if_neg h3]
      exact ⟨⟨by show (0 : Int) ≤ 8; decide, by show (8 : Int) ≤ 8; decide⟩, h.2⟩
    · rw [if_neg h1] at h ⊢
      by_cases h2 : v.kind = 2
      · rw [if_pos h2] at h ⊢
        rw [decide_eq_true_eq] at h ⊢
        unfold unkV
        rw [if_neg h3]
        exact ⟨⟨by show (0 : Int) ≤ 8; decide, by show (8 : Int) ≤ 8; decide⟩, h.2⟩
      · rw [if_neg h2, if_neg h3] at h
        cases h
theorem rightVB_of_own {v : Vd} {m : Md} {b : Bool} (h : ownE v m b = 0) : rightVB v = true := by
  unfold ownE at h
  split at h
  · cases h
  · split at h
    · cases h
    · split at h
      · cases h
      · rename_i q
        simpa using q
theorem pv_kind (ver : Int) (v : Vd) : (pv ver v).kind = v.kind := by unfold pv; split; exact unkV_kind v; rfl
theorem rightVB_pv (ver : Int) {v : Vd} (h : rightVB v = true) : rightVB (pv ver v) = true := by unfold pv; split; exact rightVB_unk h; exact h
theorem ownE_pv (ver : Int) {v : Vd} {m : Md} {b : Bool} (h : ownE v m b = 0) : ownE (pv ver v) Md.zero b = 0 := by
  have hr := rightVB_of_own h
  have hu := rightVB_pv ver hr
  unfold ownE at h ⊢
  rw [pv_kind, hu]
  split at h
  · cases h
  · rename_i h1
    rw [if_neg h1]
    split at h
    · cases h
    · rename_i h2
      rw [if_neg h2, if_neg (by simp), if_neg (fun q => by rcases q.2 with q | q <;> exact absurd q (by decide)), if_neg (fun q => q.2 rfl)]
theorem faultF_pv (ver : Int) : ∀ (f : F) (prev : Option ByteArray) (L : List ByteArray), faultF f prev L = none → faultF (f.mp (pv ver) noM) prev L = none
  | .nil, _, _, _ => rfl
  | .cons nm v m ks r, prev, L, h => by
    rw [faultF] at h
    rw [F.mp, faultF]
    split at h
    · cases h
    · rename_i h1
      split at h
      · cases h
      · rename_i h2
        split at h
        · cases h
        · rename_i h3
          rw [if_neg h1, F.mp_len, noM, if_neg (by rw [ownE_pv ver (Classical.not_not.1 h2)]; simp), faultF_pv ver ks none (L ++ [nm]) h3]
          exact faultF_pv ver r (some nm) L h
/-- what a version tells of checked data passes Check -/
theorem checkE_pv (ver : Int) {v : Vd} {m : Md} {ks : F} (h : checkE v m ks = 0) : checkE (pv ver v) Md.zero (ks.mp (pv ver) noM) = 0 := by
  obtain ⟨h1, h2⟩ := check_none h
  unfold checkE faultN
  rw [F.mp_len, if_neg (by rw [ownE_pv ver h1]; simp), faultF_pv ver ks none [] h2]
  rfl
end Go.Proofs.Ytglnpmdigghibaa
namespace Go.Proofs.Ytglnpmdigghibaa
open Go.RowKit

/-- what Check takes: right names, at most 64 levels -/
theorem faultF_deep : ∀ {f : F} {prev : Option ByteArray} {L : List ByteArray}, faultF f prev L = none → L.length ≤ 64 → namesF f ∧ L.length + f.depth ≤ 64
  | .nil, _, _, _, h => ⟨trivial, by simpa [F.depth] using h⟩
  | .cons nm v m ks r, prev, L, h, hL => by
    rw [faultF] at h
    by_cases h1 : placeE prev nm (L.length + 1) ≠ 0
    · rw [if_pos h1] at h; cases h
    rw [if_neg h1] at h
    by_cases h2 : ownE v m (decide (0 < ks.len)) ≠ 0
    · rw [if_pos h2] at h; cases h
    rw [if_neg h2] at h
    cases h3 : faultF ks none (L ++ [nm]) with
    | some x => rw [h3] at h; cases h
    | none =>
      rw [h3] at h
      have h5 : placeE prev nm (L.length + 1) = 0 := by simpa using h1
      unfold placeE at h5
      split at h5
      · cases h5
      rename_i h6
      split at h5
      · cases h5
      rename_i h7
      have ih1 := faultF_deep h3 (by simp; omega)
      have ih2 := faultF_deep (f := r) (prev := some nm) (L := L) h hL
      have hl : (L ++ [nm]).length = L.length + 1 := by simp
      rw [hl] at ih1
      refine ⟨⟨by simpa using h7, ih1.1, ih2.1⟩, ?_⟩
      show L.length + max (ks.depth + 1) r.depth ≤ 64
      omega
theorem check_deep {v : Vd} {m : Md} {ks : F} (h : checkE v m ks = 0) : namesF ks ∧ ks.depth ≤ 64 := by
  have := faultF_deep (check_none h).2 (by simp)
  simpa using this
theorem F.mp_same {fv fv' : Vd → Vd} {fm fm' : Md → Md} (hv : ∀ v, fv v = fv' v) (hm : ∀ m, fm m = fm' m) : ∀ f : F, f.mp fv fm = f.mp fv' fm'
  | .nil => rfl
  | .cons nm v m ks r => by rw [F.mp, F.mp, hv, hm, F.mp_same hv hm ks, F.mp_same hv hm r]
theorem F.mp_id {fv : Vd → Vd} {fm : Md → Md} (hv : ∀ v, fv v = v) (hm : ∀ m, fm m = m) : ∀ f : F, f.mp fv fm = f
  | .nil => rfl
  | .cons nm v m ks r => by rw [F.mp, hv, hm, F.mp_id hv hm ks, F.mp_id hv hm r]

/-- a tree that Project answers -/
def Pjd (w w' : World) (u : Value) (v : Vd) (m : Md) (f : F) : Prop := ∃ p k, u = .pointer (some ⟨p, 0, none⟩) ∧ AtT w' p v m k ∧ k.flat = f ∧ Tr w' p ∧ G w w'

set_option maxRecDepth 100000 in
set_option maxHeartbeats 4000000 in
theorem project_low (ver : Int) (hv : ver = 1 ∨ ver = 2) (k : K) (p : Nat) (v : Vd) (m : Md) (w : World) (hT : AtT w p v m k) (hce : checkE v m k.flat = 0) (hw : k.flat.weight ≤ 20000) :
    Calls Try.prog 8 #[.pointer (some ⟨p, 0, none⟩), .int .i64 ver] w fun e w' => ∃ u, e = .returned u ∧ Pjd w w' u (pv ver v) Md.zero (k.flat.mp (pv ver) noM) := by
  have hd := check_deep hce
  have hG1 : G w (w.alloc (.cells #[.int .i64 ver] 3)) := G.alloc _ _
  have hc1 : (w.alloc (.cells #[.int .i64 ver] 3)).cell? ⟨w.heap.size, 0, none⟩ = some (.int .i64 ver) := lies_cell (lies_new w #[.int .i64 ver] 3) 0 _ rfl
  have C20 := fold_any ver k p v m w.heap.size _ (hT.grow hG1) hc1 hd.1 (by omega) (by have := F.size_le_weight k.flat; omega)
  have H1 := hid (⟨hG1, hc1⟩ : _ ∧ _)
  have HE := hid (checkE_pv ver hce)
  have HW : Hid ((k.flat.mp (pv ver) noM).weight ≤ 100000) := by show _ ≤ _; rw [F.mp_weight]; omega
  clear hT hce hw hd hG1 hc1
  unfold fc at C20
  have C5 : Hid (∀ (c2 : Array Value) (W : World), HasN W c2 ⟨#[]⟩ (pv ver v) Md.zero (k.flat.mp (pv ver) noM) → Calls Try.prog 5 #[.agg c2] W fun e w' => ∃ u, e = .returned (.tuple #[u, .int .i64 0]) ∧ G W w' ∧ ∃ p k', u = .pointer (some ⟨p, 0, none⟩) ∧ AtT w' p (pv ver v) Md.zero k' ∧ k'.flat = k.flat.mp (pv ver) noM ∧ Tr w' p) := by
    intro c2 W hN
    have := of_anyP c2 _ _ _ _ W hN HW.out
    rw [HE.out] at this
    refine this.mono ?_
    rintro e w' ⟨u, rfl, hg, ⟨h, _⟩ | ⟨_, p, k', rfl, h1, h2, _, h4⟩⟩
    · exact absurd rfl h
    · exact ⟨_, rfl, hg, p, k', rfl, h1, h2, h4⟩
  clear HE HW
  generalize k.flat.mp (pv ver) noM = ks2 at *
  generalize pv ver v = v2 at *
  go_enter Try.func8, Try.ntmps8
  go_upto_region 1 with fail
  generalize w.alloc (.cells #[.int .i64 ver] 3) = w1 at *
  have hc1 := H1.out.2
  generalize w.heap.size = B at *
  rcases hv with rfl | rfl
  all_goals
    go_upto_region 4 with (first
      | (go_at_call 20; refine C20.mono ?_; rintro e w2 ⟨c2, rfl, hn2, hg2⟩; have hf2 := hn2.facts; have H2 := hid (⟨hn2, H1.out.1.trans hg2⟩ : _ ∧ G w w2); clear C20 hn2 hg2)
      | ((with_reducible refine wpList_execW (.pointer (some ⟨w2.heap.size, 0, none⟩)) (w2.alloc (.cells z30 30)) ?_ ?_ ?_); exact exec_alloc30 rfl _; kernel_rfl)
      | ((with_reducible refine wpList_skipW ((w2.alloc (.cells z30 30)).setRow w2.heap.size c2) ?_ ?_ ?_); exact exec_store30 _ _ rfl w2.heap.size c2 z30 rfl rfl _ (Var.new w2 z30) hf2.1 z30_size hf2.2; kernel_rfl))
    have h3 := new_var w2 c2
    have H3 := hid (⟨h3.2.1, H2.out.2.trans h3.1, H2.out.1.has.below h3.1⟩ : Var _ _ _ ∧ G w _ ∧ HasN _ c2 _ _ _ _)
    clear h3 H2
    generalize (w2.alloc (.cells z30 30)).setRow w2.heap.size c2 = w3 at *
    generalize w2.heap.size = B2 at *
    go_wp2_with (first
      | ((with_reducible refine wpList_exec (.agg c2) ?_ ?_ ?_); exact exec_load30 _ rfl B2 0 rfl c2 hf2.1 H3.out.1.lies; kernel_rfl)
      | (go_at_call 5; refine (C5.out c2 w3 H3.out.2.2).mono ?_; rintro e w4 ⟨u, rfl, hg4, h4⟩; have H4 := hid (And.intro hg4 h4); clear hg4 h4))
    go_ret
    obtain ⟨hg, p2, k2, hu, h1, h2, h3⟩ := H4.out
    exact ⟨_, rfl, p2, k2, hu, h1, h2, h3, H3.out.2.1.trans hg⟩

set_option maxRecDepth 100000 in
set_option maxHeartbeats 1000000 in
theorem project_high (ver : Int) (hv : ¬ (ver = 1 ∨ ver = 2)) (k : K) (p : Nat) (v : Vd) (m : Md) (w : World) (hT : AtT w p v m k) (hTr : Tr w p) :
    Calls Try.prog 8 #[.pointer (some ⟨p, 0, none⟩), .int .i64 ver] w fun e w' => ∃ u, e = .returned u ∧ Pjd w w' u v m k.flat := by
  have hG1 : G w (w.alloc (.cells #[.int .i64 ver] 3)) := G.alloc _ _
  have hc1 : (w.alloc (.cells #[.int .i64 ver] 3)).cell? ⟨w.heap.size, 0, none⟩ = some (.int .i64 ver) := lies_cell (lies_new w #[.int .i64 ver] 3) 0 _ rfl
  have H1 := hid (⟨hG1, hT.grow hG1, hTr.grow hG1⟩ : G w _ ∧ AtT _ p v m k ∧ Tr _ p)
  have h1 : (ver != 1) = true := by have : ¬ ver = 1 := fun h => hv (.inl h); simpa using this
  have h2 : (ver != 2) = true := by have : ¬ ver = 2 := fun h => hv (.inr h); simpa using this
  clear hT hTr hG1 hv
  go_enter Try.func8, Try.ntmps8
  go_upto_region 1 with fail
  generalize w.alloc (.cells #[.int .i64 ver] 3) = w1 at *
  generalize w.heap.size = B at *
  go_wp2_with fail
  go_ret
  exact ⟨_, rfl, p, k, rfl, H1.out.2.1, rfl, H1.out.2.2, H1.out.1⟩

theorem project_any (ver : Int) (k : K) (p : Nat) (v : Vd) (m : Md) (w : World) (hT : AtT w p v m k) (hTr : Tr w p) (hce : checkE v m k.flat = 0) (hw : k.flat.weight ≤ 20000) :
    Calls Try.prog 8 #[.pointer (some ⟨p, 0, none⟩), .int .i64 ver] w fun e w' => ∃ u, e = .returned u ∧ Pjd w w' u (pv ver v) (pm ver m) (k.flat.mp (pv ver) (pm ver)) := by
  by_cases hv : ver = 1 ∨ ver = 2
  · have e1 : pm ver m = Md.zero := if_pos hv
    have e2 : k.flat.mp (pv ver) (pm ver) = k.flat.mp (pv ver) noM := F.mp_same (fun _ => rfl) (fun _ => if_pos hv) _
    rw [e1, e2]
    exact project_low ver hv k p v m w hT hce hw
  · have e1 : pm ver m = m := if_neg hv
    have e0 : ∀ v, pv ver v = v := fun v => if_neg fun h => hv (.inl h)
    have e2 : k.flat.mp (pv ver) (pm ver) = k.flat := F.mp_id e0 (fun _ => if_neg hv) _
    rw [e1, e2, e0]
    exact project_high ver hv k p v m w hT hTr
end Go.Proofs.Ytglnpmdigghibaa
