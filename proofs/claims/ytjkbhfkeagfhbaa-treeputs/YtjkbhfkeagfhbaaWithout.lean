/-
  followed and children.without by contract.
-/
import Derived.Test.YtjkbhfkeagfhbaaCut
namespace Go.Proofs.Ytjkbhfkeagfhbaa
open Go.RowKit
variable {P : Nat → Prop}

/-- a list of children is answered -/
def ToF (P : Nat → Prop) (w : World) (f : F) (e : Ending) (w' : World) : Prop := ∃ au, e = .returned (.pointer au) ∧ AtF P w' (.pointer au) f ∧ G w w'
theorem F.del_none {nm : ByteArray} : ∀ {f : F}, f.get nm = none → f.del nm = f
  | .nil, _ => rfl
  | .cons n v m k r, h => by
    rw [F.get] at h
    split at h
    · cases h
    · rename_i hn
      rw [F.del, if_neg hn, F.del_none h]
theorem F.del_eq {n : ByteArray} {v' : Vd} {m' : Md} {k' fb : F} {nm : ByteArray} (hn : nm = n) : ∀ {fa : F}, fa.under n → (fa.app (.cons n v' m' k' fb)).del nm = fa.app fb
  | .nil, _ => by rw [F.app, F.del, if_pos hn]; rfl
  | .cons n0 v0 m0 k0 r, ⟨h1, h2⟩ => by
    subst hn
    rw [F.app, F.del, if_neg (lt_no h1).2.symm, F.del_eq rfl h2]
    rfl
theorem F.del_lt {n : ByteArray} {v' : Vd} {m' : Md} {k' fb : F} {nm : ByteArray} (hn : lt nm n) (hb : fb.above n) : ∀ {fa : F}, (fa.app (.cons n v' m' k' fb)).del nm = (fa.del nm).app (.cons n v' m' k' fb)
  | .nil => by
    show (F.cons n v' m' k' fb).del nm = F.cons n v' m' k' fb
    rw [F.del, if_neg (lt_no hn).2, F.del_none (F.get_above (F.above_mono hn hb))]
  | .cons n0 v0 m0 k0 r => by
    rw [F.app, F.del, F.del, F.del_lt hn hb]
    split
    · rfl
    · rfl
theorem F.del_gt {n : ByteArray} {v' : Vd} {m' : Md} {k' fb : F} {nm : ByteArray} (hn : lt n nm) : ∀ {fa : F}, fa.under n → (fa.app (.cons n v' m' k' fb)).del nm = fa.app (.cons n v' m' k' (fb.del nm))
  | .nil, _ => by rw [F.app, F.del, if_neg (lt_no hn).2.symm]; rfl
  | .cons n0 v0 m0 k0 r, ⟨h1, h2⟩ => by
    rw [F.app, F.del, if_neg (lt_no (lt_trans h1 hn)).2.symm, F.del_gt hn h2]
    rfl
theorem F.del_size {nm : ByteArray} : ∀ f : F, (f.del nm).size ≤ f.size
  | .nil => Nat.le_refl _
  | .cons n v m k r => by
    have := F.del_size (nm := nm) r
    rw [F.del]
    split <;> simp only [F.size] <;> omega
set_option maxRecDepth 100000 in
set_option maxHeartbeats 2000000 in
theorem followed_any {aa ab : Option Addr} {fa fb : F} {w : World} (ha : AtF P w (.pointer aa) fa) (hb : AtF P w (.pointer ab) fb) (hs : fa.size + fb.size ≤ 900000) (hP : ∀ b, w.heap.size ≤ b → P b) :
    Calls Try.prog 106 #[.pointer aa, .pointer ab] w (ToF P w (fa.app fb)) := by
  cases ab with
  | none =>
    obtain rfl := hb.isNil
    rw [F.app_nil]
    have HA := hid ha
    clear ha hb
    go_enter Try.func106, Try.ntmps106
    go_wp2_with fail
    go_ret
    exact ⟨aa, rfl, HA.out, G.refl _⟩
  | some a =>
    obtain ⟨qb, rfl⟩ := hb.addr
    obtain ⟨n, v, m, k, r, rfl⟩ := hb.more
    have C1 := cut_any _ P n v m k r qb w (Nat.lt_succ_self _) hb (by omega) hP
    have HA := hid (⟨ha, hP, hs⟩ : _ ∧ _ ∧ _)
    clear ha hb hP hs
    go_enter Try.func106, Try.ntmps106
    go_wp2_with fail
    refine C1.mono ?_
    rintro e w2 ⟨p, au, rfl, ht, hr2, hg2⟩
    have hn := new_var109 w2 (ch n p)
    have hV2 : Var109 (w2.alloc (.cells z109 109)) w2.heap.size z109 := Var109.new w2 z109
    have H2 := hid (⟨ht, hr2, hg2, hV2, hn⟩ : _ ∧ _ ∧ _ ∧ _ ∧ _)
    clear C1 ht hr2 hg2 hV2 hn
    go_upto_region 4 with (first
      | ((with_reducible refine wpList_execW (.pointer (some ⟨w2.heap.size, 0, none⟩)) (w2.alloc (.cells z109 109)) ?_ ?_ ?_); exact exec_alloc109 rfl _; kernel_rfl)
      | ((with_reducible refine wpList_skipW ((w2.alloc (.cells z109 109)).setRow w2.heap.size (ch n p)) ?_ ?_ ?_); exact exec_store109 _ _ rfl w2.heap.size _ z109 rfl rfl _ H2.out.2.2.2.1 (ch_size ..) rfl (ch_one ..); kernel_rfl))
    try simp only [Act.put, List.setIfInBounds_toArray, List.set_cons_zero, List.set_cons_succ]
    have H3 := hid (⟨H2.out.1.grow H2.out.2.2.2.2.1, H2.out.2.1.grow H2.out.2.2.2.2.1, HA.out.1.grow (H2.out.2.2.1.trans H2.out.2.2.2.2.1), H2.out.2.2.2.2.2, H2.out.2.2.1.trans H2.out.2.2.2.2.1⟩ : _ ∧ _ ∧ _ ∧ _ ∧ _)
    clear H2
    generalize (w2.alloc (.cells z109 109)).setRow w2.heap.size (ch n p) = w3 at *
    generalize w2.heap.size = g at *
    have C2 := even_any (nm := n) H3.out.2.2.1 H3.out.2.1 H3.out.1 (by have := HA.out.2.2; rw [F.size] at this; omega) (fun b hb => HA.out.2.1 b (by have := H3.out.2.2.2.2.size; omega))
    go_wp2_with ((with_reducible refine wpList_exec (.agg (ch n p)) ?_ ?_ ?_); exact exec_load109 _ rfl g rfl (ch n p) rfl H3.out.2.2.2.1.lies; kernel_rfl)
    refine C2.mono ?_
    rintro e w5 ⟨q2, rfl, hq2, hg5⟩
    have H5 := hid (⟨hq2, H3.out.2.2.2.2.trans hg5⟩ : _ ∧ _)
    clear C2 hq2 hg5 H3
    go_wp2_with fail
    go_ret
    exact ⟨_, rfl, H5.out.1, H5.out.2⟩
/-- children.without by contract -/
def WithoutOk (P : Nat → Prop) (nm : ByteArray) (f : F) : Prop := ∀ (w : World) (au : Option Addr), AtF P w (.pointer au) f → f.rises → f.size ≤ 900000 → (∀ b, w.heap.size ≤ b → P b) →
    Calls Try.prog 84 #[.pointer au, .string nm] w (ToF P w (f.del nm))
set_option maxRecDepth 100000 in
set_option maxHeartbeats 2000000 in
theorem without_any (nm : ByteArray) : ∀ (Z : Nat) (f : F), f.size < Z → WithoutOk P nm f := by
  intro Z
  induction Z with
  | zero => intro f h; omega
  | succ Z ih =>
    intro f hZ w au hu hr hs hP
    have HP : Hid (∀ W, G w W → ∀ b, W.heap.size ≤ b → P b) := fun W hW b hb => hP b (Nat.le_trans hW.size hb)
    clear hP
    cases au with
    | none =>
      obtain rfl := hu.isNil
      clear hu hr ih
      go_enter Try.func84, Try.ntmps84
      go_wp2_with fail
      go_ret
      exact ⟨none, rfl, AtF.leaf _, G.refl _⟩
    | some a =>
      obtain ⟨q, rfl⟩ := hu.addr
      obtain ⟨n, p1, v1, m1, f1, aa, ab, fa, fb, c0, c1, c2, c3, h1, ha, hb, rfl⟩ := hu.node
      obtain ⟨ra, rua, rab, rk, rb, _⟩ := F.rises_app.1 hr
      have hsz : fa.size + (f1.size + fb.size + 1) ≤ 900000 := by rw [F.app_size, F.size] at hs; omega
      have hZ2 : fa.size + (f1.size + fb.size + 1) < Z + 1 := by rw [F.app_size, F.size] at hZ; omega
      have HA := hid (⟨ha, hb, h1⟩ : AtF P w (.pointer aa) fa ∧ AtF P w (.pointer ab) fb ∧ AtTF P w p1 v1 m1 f1)
      have HIH := hid ih
      have HR := hid (⟨ra, rb⟩ : _ ∧ _)
      have C94 := cmp_any nm n w
      clear hu hr hs hZ ha hb h1 ra rk rb ih
      rcases lt_tri nm n with hq | hq | hq
      · rw [F.del_eq hq rua]
        rw [show cmp3 nm n = 0 from cmp3_eq.2 hq] at C94
        clear rua rab hq
        go_enter Try.func84, Try.ntmps84
        go_upto_region 5 with (go_at_call 94; refine C94.mono ?_; rintro e w2 ⟨rfl, e2⟩; subst e2)
        refine wp_region_G ?_
        replace c0 := (G.drew w2).cell c0
        replace c1 := (G.drew w2).cell c1
        replace c2 := (G.drew w2).cell c2
        replace c3 := (G.drew w2).cell c3
        have HD := hid (G.drew w2)
        generalize w2.drew = w3 at *
        refine takeG 0 16 (.pointer (some ⟨q, 0, none⟩)) rfl rfl (by kernel_rfl) (by kernel_rfl) (by kernel_rfl) (fun _ _ _ h => h) (by kernel_rfl) (fun wz hz => ?_) ?_
        · rfl
        try simp only [Act.put, List.setIfInBounds_toArray, List.set_cons_zero, List.set_cons_succ]
        refine takeG 1 17 (.pointer (some ⟨q, 0, none⟩)) rfl rfl (by kernel_rfl) (by kernel_rfl) (by kernel_rfl) (fun _ _ _ h => h) (by kernel_rfl) (fun wz hz => ?_) ?_
        · go_simp
        try simp only [Act.put, List.setIfInBounds_toArray, List.set_cons_zero, List.set_cons_succ]
        refine takeG 2 18 (.pointer (some ⟨q, 2, none⟩)) rfl rfl (by kernel_rfl) (by kernel_rfl) (by kernel_rfl) (fun _ _ _ h => h) (by kernel_rfl) (fun wz hz => ?_) ?_
        · go_simp
        try simp only [Act.put, List.setIfInBounds_toArray, List.set_cons_zero, List.set_cons_succ]
        refine takeG 3 19 (.pointer aa) rfl rfl (by kernel_rfl) (by kernel_rfl) (by kernel_rfl) (fun _ _ _ h => h) (by kernel_rfl) (fun wz hz => ?_) ?_
        · have y0 := hz.cell c2; go_simp
        try simp only [Act.put, List.setIfInBounds_toArray, List.set_cons_zero, List.set_cons_succ]
        refine takeG 4 20 (.pointer (some ⟨q, 0, none⟩)) rfl rfl (by kernel_rfl) (by kernel_rfl) (by kernel_rfl) (fun _ _ _ h => h) (by kernel_rfl) (fun wz hz => ?_) ?_
        · rfl
        try simp only [Act.put, List.setIfInBounds_toArray, List.set_cons_zero, List.set_cons_succ]
        refine takeG 5 21 (.pointer (some ⟨q, 0, none⟩)) rfl rfl (by kernel_rfl) (by kernel_rfl) (by kernel_rfl) (fun _ _ _ h => h) (by kernel_rfl) (fun wz hz => ?_) ?_
        · go_simp
        try simp only [Act.put, List.setIfInBounds_toArray, List.set_cons_zero, List.set_cons_succ]
        refine takeG 6 22 (.pointer (some ⟨q, 3, none⟩)) rfl rfl (by kernel_rfl) (by kernel_rfl) (by kernel_rfl) (fun _ _ _ h => h) (by kernel_rfl) (fun wz hz => ?_) ?_
        · go_simp
        try simp only [Act.put, List.setIfInBounds_toArray, List.set_cons_zero, List.set_cons_succ]
        refine takeG 7 23 (.pointer ab) rfl rfl (by kernel_rfl) (by kernel_rfl) (by kernel_rfl) (fun _ _ _ h => h) (by kernel_rfl) (fun wz hz => ?_) ?_
        · have y0 := hz.cell c3; go_simp
        try simp only [Act.put, List.setIfInBounds_toArray, List.set_cons_zero, List.set_cons_succ]
        refine readyG [8] (by kernel_rfl) (by simp) fun w5 hg5 => ?_
        have hG5 := HD.out.trans hg5
        refine AllG.call 8 24 106 #[.pointer aa, .pointer ab] rfl rfl (by kernel_rfl) (by go_simp) ((followed_any (HA.out.1.grow hG5) (HA.out.2.1.grow hG5) (by omega) (HP.out _ hG5)).mono ?_) AllG.nil
        rintro e w6 ⟨a2, rfl, hq2, hg6⟩
        refine ⟨_, rfl, hg6, ?_⟩
        try simp only [Act.put, List.setIfInBounds_toArray, List.set_cons_zero, List.set_cons_succ]
        have hG7 := hG5.trans hg6
        refine takeG 9 4 (.pointer a2) rfl rfl (by kernel_rfl) (by kernel_rfl) (by kernel_rfl) (fun _ _ _ h => h) (by kernel_rfl) (fun wz hz => ?_) ?_
        · rfl
        try simp only [Act.put, List.setIfInBounds_toArray, List.set_cons_zero, List.set_cons_succ]
        refine doneG (by kernel_rfl) (fun w9 hg9 => ?_)
        have HQ := hid (⟨hq2.grow hg9, hG7.trans hg9⟩ : _ ∧ _)
        clear hq2 hg9
        go_wp2
        go_ret
        exact ⟨_, rfl, HQ.out.1, HQ.out.2⟩
      · rw [F.del_lt hq rab]
        rw [show cmp3 nm n = -1 from cmp3_lt hq] at C94
        clear rua rab hq
        go_enter Try.func84, Try.ntmps84
        go_upto_region 7 with (go_at_call 94; refine C94.mono ?_; rintro e w2 ⟨rfl, e2⟩; subst e2)
        refine wp_region_G ?_
        replace c0 := (G.drew w2).cell c0
        replace c1 := (G.drew w2).cell c1
        replace c2 := (G.drew w2).cell c2
        replace c3 := (G.drew w2).cell c3
        have HD := hid (G.drew w2)
        generalize w2.drew = w3 at *
        refine takeG 0 27 (.pointer (some ⟨q, 0, none⟩)) rfl rfl (by kernel_rfl) (by kernel_rfl) (by kernel_rfl) (fun _ _ _ h => h) (by kernel_rfl) (fun wz hz => ?_) ?_
        · rfl
        try simp only [Act.put, List.setIfInBounds_toArray, List.set_cons_zero, List.set_cons_succ]
        refine takeG 1 28 (.pointer (some ⟨q, 0, none⟩)) rfl rfl (by kernel_rfl) (by kernel_rfl) (by kernel_rfl) (fun _ _ _ h => h) (by kernel_rfl) (fun wz hz => ?_) ?_
        · go_simp
        try simp only [Act.put, List.setIfInBounds_toArray, List.set_cons_zero, List.set_cons_succ]
        refine takeG 2 29 (.pointer (some ⟨q, 2, none⟩)) rfl rfl (by kernel_rfl) (by kernel_rfl) (by kernel_rfl) (fun _ _ _ h => h) (by kernel_rfl) (fun wz hz => ?_) ?_
        · go_simp
        try simp only [Act.put, List.setIfInBounds_toArray, List.set_cons_zero, List.set_cons_succ]
        refine takeG 3 30 (.pointer aa) rfl rfl (by kernel_rfl) (by kernel_rfl) (by kernel_rfl) (fun _ _ _ h => h) (by kernel_rfl) (fun wz hz => ?_) ?_
        · have y0 := hz.cell c2; go_simp
        try simp only [Act.put, List.setIfInBounds_toArray, List.set_cons_zero, List.set_cons_succ]
        refine takeG 4 31 (.string nm) rfl rfl (by kernel_rfl) (by kernel_rfl) (by kernel_rfl) (fun _ _ _ h => h) (by kernel_rfl) (fun wz hz => ?_) ?_
        · rfl
        try simp only [Act.put, List.setIfInBounds_toArray, List.set_cons_zero, List.set_cons_succ]
        refine takeG 6 33 (.pointer (some ⟨q, 0, none⟩)) rfl rfl (by kernel_rfl) (by kernel_rfl) (by kernel_rfl) (fun _ _ _ h => h) (by kernel_rfl) (fun wz hz => ?_) ?_
        · rfl
        try simp only [Act.put, List.setIfInBounds_toArray, List.set_cons_zero, List.set_cons_succ]
        refine takeG 7 34 (.pointer (some ⟨q, 0, none⟩)) rfl rfl (by kernel_rfl) (by kernel_rfl) (by kernel_rfl) (fun _ _ _ h => h) (by kernel_rfl) (fun wz hz => ?_) ?_
        · go_simp
        try simp only [Act.put, List.setIfInBounds_toArray, List.set_cons_zero, List.set_cons_succ]
        refine takeG 8 35 (.pointer (some ⟨q, 0, none⟩)) rfl rfl (by kernel_rfl) (by kernel_rfl) (by kernel_rfl) (fun _ _ _ h => h) (by kernel_rfl) (fun wz hz => ?_) ?_
        · go_simp
        try simp only [Act.put, List.setIfInBounds_toArray, List.set_cons_zero, List.set_cons_succ]
        refine takeG 9 36 (.agg #[.string n, .pointer (some ⟨p1, 0, none⟩)]) rfl rfl (by kernel_rfl) (by kernel_rfl) (by kernel_rfl) (fun _ _ _ h => h) (by kernel_rfl) (fun wz hz => ?_) ?_
        · have y0 := hz.cell c0; have y1 := hz.cell c1; go_simp
        try simp only [Act.put, List.setIfInBounds_toArray, List.set_cons_zero, List.set_cons_succ]
        refine takeG 10 37 (.pointer (some ⟨q, 0, none⟩)) rfl rfl (by kernel_rfl) (by kernel_rfl) (by kernel_rfl) (fun _ _ _ h => h) (by kernel_rfl) (fun wz hz => ?_) ?_
        · rfl
        try simp only [Act.put, List.setIfInBounds_toArray, List.set_cons_zero, List.set_cons_succ]
        refine takeG 11 38 (.pointer (some ⟨q, 0, none⟩)) rfl rfl (by kernel_rfl) (by kernel_rfl) (by kernel_rfl) (fun _ _ _ h => h) (by kernel_rfl) (fun wz hz => ?_) ?_
        · go_simp
        try simp only [Act.put, List.setIfInBounds_toArray, List.set_cons_zero, List.set_cons_succ]
        refine takeG 12 39 (.pointer (some ⟨q, 3, none⟩)) rfl rfl (by kernel_rfl) (by kernel_rfl) (by kernel_rfl) (fun _ _ _ h => h) (by kernel_rfl) (fun wz hz => ?_) ?_
        · go_simp
        try simp only [Act.put, List.setIfInBounds_toArray, List.set_cons_zero, List.set_cons_succ]
        refine takeG 13 40 (.pointer ab) rfl rfl (by kernel_rfl) (by kernel_rfl) (by kernel_rfl) (fun _ _ _ h => h) (by kernel_rfl) (fun wz hz => ?_) ?_
        · have y0 := hz.cell c3; go_simp
        try simp only [Act.put, List.setIfInBounds_toArray, List.set_cons_zero, List.set_cons_succ]
        refine readyG [5] (by kernel_rfl) (by simp) fun w5 hg5 => ?_
        have hG5 := HD.out.trans hg5
        refine AllG.call 5 32 84 #[.pointer aa, .string nm] rfl rfl (by kernel_rfl) (by go_simp) ((HIH.out fa (by omega) w5 aa (HA.out.1.grow hG5) HR.out.1 (by omega) (HP.out _ hG5)).mono ?_) AllG.nil
        rintro e w6 ⟨a1, rfl, hq1, hg6⟩
        refine ⟨_, rfl, hg6, ?_⟩
        try simp only [Act.put, List.setIfInBounds_toArray, List.set_cons_zero, List.set_cons_succ]
        refine readyG [14] (by kernel_rfl) (by simp) fun w7 hg7 => ?_
        have hG6 := (hG5.trans hg6).trans hg7
        refine AllG.call 14 41 105 #[.pointer a1, .agg #[.string n, .pointer (some ⟨p1, 0, none⟩)], .pointer ab] rfl rfl (by kernel_rfl) (by go_simp) ((even_any (nm := n) (hq1.grow hg7) (HA.out.2.1.grow hG6) (HA.out.2.2.grow hG6) (by have := F.del_size (nm := nm) fa; omega) (HP.out _ hG6)).mono ?_) AllG.nil
        rintro e w8 ⟨q2, rfl, hq2, hg8⟩
        refine ⟨_, rfl, hg8, ?_⟩
        try simp only [Act.put, List.setIfInBounds_toArray, List.set_cons_zero, List.set_cons_succ]
        have hG7 := hG6.trans hg8
        refine takeG 15 4 (.pointer (some ⟨q2, 0, none⟩)) rfl rfl (by kernel_rfl) (by kernel_rfl) (by kernel_rfl) (fun _ _ _ h => h) (by kernel_rfl) (fun wz hz => ?_) ?_
        · rfl
        try simp only [Act.put, List.setIfInBounds_toArray, List.set_cons_zero, List.set_cons_succ]
        refine doneG (by kernel_rfl) (fun w9 hg9 => ?_)
        have HQ := hid (⟨hq2.grow hg9, hG7.trans hg9⟩ : _ ∧ _)
        clear hq2 hg9
        go_wp2
        go_ret
        exact ⟨_, rfl, HQ.out.1, HQ.out.2⟩
      · rw [F.del_gt hq rua]
        rw [show cmp3 nm n = 1 from cmp3_gt hq] at C94
        clear rua rab hq
        go_enter Try.func84, Try.ntmps84
        go_upto_region 8 with (go_at_call 94; refine C94.mono ?_; rintro e w2 ⟨rfl, e2⟩; subst e2)
        refine wp_region_G ?_
        replace c0 := (G.drew w2).cell c0
        replace c1 := (G.drew w2).cell c1
        replace c2 := (G.drew w2).cell c2
        replace c3 := (G.drew w2).cell c3
        have HD := hid (G.drew w2)
        generalize w2.drew = w3 at *
        refine takeG 0 42 (.pointer (some ⟨q, 0, none⟩)) rfl rfl (by kernel_rfl) (by kernel_rfl) (by kernel_rfl) (fun _ _ _ h => h) (by kernel_rfl) (fun wz hz => ?_) ?_
        · rfl
        try simp only [Act.put, List.setIfInBounds_toArray, List.set_cons_zero, List.set_cons_succ]
        refine takeG 1 43 (.pointer (some ⟨q, 0, none⟩)) rfl rfl (by kernel_rfl) (by kernel_rfl) (by kernel_rfl) (fun _ _ _ h => h) (by kernel_rfl) (fun wz hz => ?_) ?_
        · go_simp
        try simp only [Act.put, List.setIfInBounds_toArray, List.set_cons_zero, List.set_cons_succ]
        refine takeG 2 44 (.pointer (some ⟨q, 2, none⟩)) rfl rfl (by kernel_rfl) (by kernel_rfl) (by kernel_rfl) (fun _ _ _ h => h) (by kernel_rfl) (fun wz hz => ?_) ?_
        · go_simp
        try simp only [Act.put, List.setIfInBounds_toArray, List.set_cons_zero, List.set_cons_succ]
        refine takeG 3 45 (.pointer aa) rfl rfl (by kernel_rfl) (by kernel_rfl) (by kernel_rfl) (fun _ _ _ h => h) (by kernel_rfl) (fun wz hz => ?_) ?_
        · have y0 := hz.cell c2; go_simp
        try simp only [Act.put, List.setIfInBounds_toArray, List.set_cons_zero, List.set_cons_succ]
        refine takeG 4 46 (.pointer (some ⟨q, 0, none⟩)) rfl rfl (by kernel_rfl) (by kernel_rfl) (by kernel_rfl) (fun _ _ _ h => h) (by kernel_rfl) (fun wz hz => ?_) ?_
        · rfl
        try simp only [Act.put, List.setIfInBounds_toArray, List.set_cons_zero, List.set_cons_succ]
        refine takeG 5 47 (.pointer (some ⟨q, 0, none⟩)) rfl rfl (by kernel_rfl) (by kernel_rfl) (by kernel_rfl) (fun _ _ _ h => h) (by kernel_rfl) (fun wz hz => ?_) ?_
        · go_simp
        try simp only [Act.put, List.setIfInBounds_toArray, List.set_cons_zero, List.set_cons_succ]
        refine takeG 6 48 (.pointer (some ⟨q, 0, none⟩)) rfl rfl (by kernel_rfl) (by kernel_rfl) (by kernel_rfl) (fun _ _ _ h => h) (by kernel_rfl) (fun wz hz => ?_) ?_
        · go_simp
        try simp only [Act.put, List.setIfInBounds_toArray, List.set_cons_zero, List.set_cons_succ]
        refine takeG 7 49 (.agg #[.string n, .pointer (some ⟨p1, 0, none⟩)]) rfl rfl (by kernel_rfl) (by kernel_rfl) (by kernel_rfl) (fun _ _ _ h => h) (by kernel_rfl) (fun wz hz => ?_) ?_
        · have y0 := hz.cell c0; have y1 := hz.cell c1; go_simp
        try simp only [Act.put, List.setIfInBounds_toArray, List.set_cons_zero, List.set_cons_succ]
        refine takeG 8 50 (.pointer (some ⟨q, 0, none⟩)) rfl rfl (by kernel_rfl) (by kernel_rfl) (by kernel_rfl) (fun _ _ _ h => h) (by kernel_rfl) (fun wz hz => ?_) ?_
        · rfl
        try simp only [Act.put, List.setIfInBounds_toArray, List.set_cons_zero, List.set_cons_succ]
        refine takeG 9 51 (.pointer (some ⟨q, 0, none⟩)) rfl rfl (by kernel_rfl) (by kernel_rfl) (by kernel_rfl) (fun _ _ _ h => h) (by kernel_rfl) (fun wz hz => ?_) ?_
        · go_simp
        try simp only [Act.put, List.setIfInBounds_toArray, List.set_cons_zero, List.set_cons_succ]
        refine takeG 10 52 (.pointer (some ⟨q, 3, none⟩)) rfl rfl (by kernel_rfl) (by kernel_rfl) (by kernel_rfl) (fun _ _ _ h => h) (by kernel_rfl) (fun wz hz => ?_) ?_
        · go_simp
        try simp only [Act.put, List.setIfInBounds_toArray, List.set_cons_zero, List.set_cons_succ]
        refine takeG 11 53 (.pointer ab) rfl rfl (by kernel_rfl) (by kernel_rfl) (by kernel_rfl) (fun _ _ _ h => h) (by kernel_rfl) (fun wz hz => ?_) ?_
        · have y0 := hz.cell c3; go_simp
        try simp only [Act.put, List.setIfInBounds_toArray, List.set_cons_zero, List.set_cons_succ]
        refine takeG 12 54 (.string nm) rfl rfl (by kernel_rfl) (by kernel_rfl) (by kernel_rfl) (fun _ _ _ h => h) (by kernel_rfl) (fun wz hz => ?_) ?_
        · rfl
        try simp only [Act.put, List.setIfInBounds_toArray, List.set_cons_zero, List.set_cons_succ]
        refine readyG [13] (by kernel_rfl) (by simp) fun w5 hg5 => ?_
        have hG5 := HD.out.trans hg5
        refine AllG.call 13 55 84 #[.pointer ab, .string nm] rfl rfl (by kernel_rfl) (by go_simp) ((HIH.out fb (by omega) w5 ab (HA.out.2.1.grow hG5) HR.out.2 (by omega) (HP.out _ hG5)).mono ?_) AllG.nil
        rintro e w6 ⟨a1, rfl, hq1, hg6⟩
        refine ⟨_, rfl, hg6, ?_⟩
        try simp only [Act.put, List.setIfInBounds_toArray, List.set_cons_zero, List.set_cons_succ]
        refine readyG [14] (by kernel_rfl) (by simp) fun w7 hg7 => ?_
        have hG6 := (hG5.trans hg6).trans hg7
        refine AllG.call 14 56 105 #[.pointer aa, .agg #[.string n, .pointer (some ⟨p1, 0, none⟩)], .pointer a1] rfl rfl (by kernel_rfl) (by go_simp) ((even_any (nm := n) (HA.out.1.grow hG6) (hq1.grow hg7) (HA.out.2.2.grow hG6) (by have := F.del_size (nm := nm) fb; omega) (HP.out _ hG6)).mono ?_) AllG.nil
        rintro e w8 ⟨q2, rfl, hq2, hg8⟩
        refine ⟨_, rfl, hg8, ?_⟩
        try simp only [Act.put, List.setIfInBounds_toArray, List.set_cons_zero, List.set_cons_succ]
        have hG7 := hG6.trans hg8
        refine takeG 15 4 (.pointer (some ⟨q2, 0, none⟩)) rfl rfl (by kernel_rfl) (by kernel_rfl) (by kernel_rfl) (fun _ _ _ h => h) (by kernel_rfl) (fun wz hz => ?_) ?_
        · rfl
        try simp only [Act.put, List.setIfInBounds_toArray, List.set_cons_zero, List.set_cons_succ]
        refine doneG (by kernel_rfl) (fun w9 hg9 => ?_)
        have HQ := hid (⟨hq2.grow hg9, hG7.trans hg9⟩ : _ ∧ _)
        clear hq2 hg9
        go_wp2
        go_ret
        exact ⟨_, rfl, HQ.out.1, HQ.out.2⟩
end Go.Proofs.Ytjkbhfkeagfhbaa
