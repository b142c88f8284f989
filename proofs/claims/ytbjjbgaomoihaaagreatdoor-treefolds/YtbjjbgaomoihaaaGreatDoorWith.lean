import Derived.Shelf.Strconv.Clone
import Derived.Test.YtbjjbgaomoihaaaGreatDoorEven
set_option maxRecDepth 100000
set_option maxHeartbeats 2000000
namespace Go.Proofs.YtbjjbgaomoihaaaGreatDoor
open Go.Shelf
variable {P : Nat → Prop}
def Tryz.lays316_ren : Go.Shelf.Ren := ⟨fun | 316 => 142 | n => n, fun | 0 => 0 | 3 => 3 | 4 => 4 | 5 => 5 | 9 => 9 | 37 => 121 | 127 => 200 | n => n, fun n => n⟩
theorem Tryz.lays316 : Go.Proofs.LaysM.n316 Tryz.prog Tryz.lays316_ren := {
  mixed := by kernel_rfl
  f316 := Tryz.func142.trans (congrArg some (by kernel_rfl))
  t0 := Tryz.underlying0
  a0 := Tryz.isAgg0
  z0 := Tryz.sizeOf0
  v0 := Tryz.zeroValue0
  i0 := by kernel_rfl
  t3 := Tryz.underlying3
  a3 := Tryz.isAgg3
  z3 := Tryz.sizeOf3
  v3 := Tryz.zeroValue3
  i3 := by kernel_rfl
  t4 := Tryz.underlying4
  a4 := Tryz.isAgg4
  z4 := Tryz.sizeOf4
  v4 := Tryz.zeroValue4
  i4 := by kernel_rfl
  t5 := Tryz.underlying5
  a5 := Tryz.isAgg5
  z5 := Tryz.sizeOf5
  v5 := Tryz.zeroValue5
  i5 := by kernel_rfl
  t9 := Tryz.underlying9
  a9 := Tryz.isAgg9
  z9 := Tryz.sizeOf9
  v9 := Tryz.zeroValue9
  i9 := by kernel_rfl
  t37 := Tryz.underlying121
  a37 := Tryz.isAgg121
  z37 := Tryz.sizeOf121
  v37 := Tryz.zeroValue121
  i37 := by kernel_rfl
  t127 := Tryz.underlying200
  a127 := Tryz.isAgg200
  z127 := Tryz.sizeOf200
  v127 := Tryz.zeroValue200
  i127 := by kernel_rfl }
open Go.RowKit in
theorem Tryz.stringslite_Clone (s : ByteArray) (w : World) (hs : s.size ≤ 281474976710656) : Calls Tryz.prog 142 #[.string s] w fun e w' => e = .returned (.string s) ∧ Below w.heap.size w w' := Any.stringslite_Clone Tryz.lays316 s w hs
open Go.RowKit
theorem clone_any (s : ByteArray) (w : World) (hs : s.size ≤ 281474976710656) : Calls Tryz.prog 98 #[.string s] w fun e w' => e = .returned (.string s) ∧ G w w' := by
  have C := Tryz.stringslite_Clone s w hs
  go_enter Tryz.func98, Tryz.ntmps98
  go_wp2_with (go_at_call 142; refine C.mono ?_; rintro e w1 ⟨rfl, hg⟩)
  go_ret
  exact ⟨rfl, hg⟩
theorem even_any {aa ab : Option Addr} {p : Nat} {nm : ByteArray} {v : Vd} {m : Md} {fa fb fk : F} {w : World} (ha : AtF P w (.pointer aa) fa) (hb : AtF P w (.pointer ab) fb) (hk : AtTF P w p v m fk) (hs : fa.size + fb.size + fk.size ≤ 1000000) (hP : ∀ b, w.heap.size ≤ b → P b) :
    Calls Tryz.prog 99 #[.pointer aa, .agg #[.string nm, .pointer (some ⟨p, 0, none⟩)], .pointer ab] w (EvenTo P w (fa.app (.cons nm v m fk fb))) := by
  have la := F.len_le_size fa
  have lb := F.len_le_size fb
  have hG : G w (w.alloc (.cells #[.string nm, .pointer (some ⟨p, 0, none⟩)] 84)) := G.alloc w _
  have hb0 := lies_new w #[.string nm, .pointer (some ⟨p, 0, none⟩)] 84
  have z0 := lies_cell hb0 0 (.string nm) rfl
  have z1 := lies_cell hb0 1 (.pointer (some ⟨p, 0, none⟩)) rfl
  have CA := weight_any (ha.grow hG) (by omega)
  have CB := weight_any (hb.grow hG) (by omega)
  have HA := hid (⟨ha.grow hG, hb.grow hG, hk.grow hG, hG⟩ : AtF P (w.alloc (.cells #[.string nm, .pointer (some ⟨p, 0, none⟩)] 84)) (.pointer aa) fa ∧ AtF P (w.alloc (.cells #[.string nm, .pointer (some ⟨p, 0, none⟩)] 84)) (.pointer ab) fb ∧ AtTF P (w.alloc (.cells #[.string nm, .pointer (some ⟨p, 0, none⟩)] 84)) p v m fk ∧ G w (w.alloc (.cells #[.string nm, .pointer (some ⟨p, 0, none⟩)] 84)))
  have HP : Hid (∀ b, (w.alloc (.cells #[.string nm, .pointer (some ⟨p, 0, none⟩)] 84)).heap.size ≤ b → P b) := fun b hb => hP b (Nat.le_trans hG.size hb)
  clear ha hb hk hG hb0 hP
  obtain ⟨La, hLa⟩ : ∃ L, fa.len + 1 = L := ⟨_, rfl⟩
  obtain ⟨Lb, hLb⟩ : ∃ L, fb.len + 1 = L := ⟨_, rfl⟩
  rw [hLa] at CA
  rw [hLb] at CB
  have HL := hid (⟨hLa, hLb⟩ : fa.len + 1 = La ∧ fb.len + 1 = Lb)
  have ea : IntKind.i64.wrap (3 * (La : Int)) = 3 * (La : Int) := by rw [IntKind.wrap_i64]; omega
  have eb : IntKind.i64.wrap (3 * (Lb : Int)) = 3 * (Lb : Int) := by rw [IntKind.wrap_i64]; omega
  clear hLa hLb la lb
  go_enter Tryz.func99, Tryz.ntmps99
  go_upto_region 1 with fail
  generalize w.alloc (.cells #[.string nm, .pointer (some ⟨p, 0, none⟩)] 84) = w1 at *
  generalize w.heap.size = H at *
  by_cases h1 : 3 * (La : Int) < (Lb : Int)
  · obtain ⟨q, rfl⟩ : ∃ q, ab = some ⟨q, 0, none⟩ := by
      cases ab with
      | none => exfalso; have := HL.out.2; rw [HA.out.2.1.isNil] at this; simp [F.len] at this; have := HL.out.1; omega
      | some a => obtain ⟨q, rfl⟩ := HA.out.2.1.addr; exact ⟨q, rfl⟩
    have CT := turnA_any (nm := nm) HA.out.1 HA.out.2.1 HA.out.2.2.1 (by omega) HP.out
    clear HL
    go_wp2_with (first
      | (go_at_call 143; first | (refine CA.mono ?_; rintro e w2 ⟨rfl, e2⟩; subst e2) | (refine CB.mono ?_; rintro e w2 ⟨rfl, e2⟩; subst e2))
      | (go_at_call 144; refine CT.mono ?_; rintro e w3 ⟨q3, rfl, h3, hg3⟩; have H3 := hid (⟨h3, HA.out.2.2.2.trans hg3⟩ : _ ∧ _); clear h3 hg3))
    go_ret
    exact ⟨q3, rfl, H3.out.1, H3.out.2⟩
  · by_cases h2 : 3 * (Lb : Int) < (La : Int)
    · obtain ⟨q, rfl⟩ : ∃ q, aa = some ⟨q, 0, none⟩ := by
        cases aa with
        | none => exfalso; have := HL.out.1; rw [HA.out.1.isNil] at this; simp [F.len] at this; have := HL.out.2; omega
        | some a => obtain ⟨q, rfl⟩ := HA.out.1.addr; exact ⟨q, rfl⟩
      have CT := turnB_any (nm := nm) HA.out.2.1 HA.out.1 HA.out.2.2.1 (by omega) HP.out
      clear HL
      go_wp2_with (first
        | (go_at_call 143; first | (refine CA.mono ?_; rintro e w2 ⟨rfl, e2⟩; subst e2) | (refine CB.mono ?_; rintro e w2 ⟨rfl, e2⟩; subst e2))
        | (go_at_call 145; refine CT.mono ?_; rintro e w3 ⟨q3, rfl, h3, hg3⟩; have H3 := hid (⟨h3, HA.out.2.2.2.trans hg3⟩ : _ ∧ _); clear h3 hg3))
      go_ret
      exact ⟨q3, rfl, H3.out.1, H3.out.2⟩
    · have CT := joinF_any (nm := nm) HA.out.1 HA.out.2.1 HA.out.2.2.1 (by omega) HP.out
      clear HL
      go_wp2_with (first
        | (go_at_call 143; first | (refine CA.mono ?_; rintro e w2 ⟨rfl, e2⟩; subst e2) | (refine CB.mono ?_; rintro e w2 ⟨rfl, e2⟩; subst e2))
        | (go_at_call 87; refine CT.mono ?_; rintro e w3 ⟨q3, rfl, h3, hg3⟩; have H3 := hid (⟨h3, HA.out.2.2.2.trans hg3⟩ : _ ∧ _); clear h3 hg3))
      go_ret
      exact ⟨q3, rfl, H3.out.1, H3.out.2⟩
end Go.Proofs.YtbjjbgaomoihaaaGreatDoor
namespace Go.Proofs.YtbjjbgaomoihaaaGreatDoor
open Go.RowKit
variable {P : Nat → Prop}
def F.put : F → ByteArray → Vd → Md → F → F
  | .nil, nm, v, m, fk => .cons nm v m fk .nil
  | .cons n v' m' k' r, nm, v, m, fk => if cmp3 nm n = 0 then .cons n v m fk r else if cmp3 nm n = -1 then .cons nm v m fk (.cons n v' m' k' r) else .cons n v' m' k' (r.put nm v m fk)
section
variable {nm : ByteArray} {v : Vd} {m : Md} {fk : F}
theorem F.put_size : ∀ f : F, (f.put nm v m fk).size ≤ f.size + fk.size + 1
  | .nil => by simp [F.put, F.size]
  | .cons n v' m' k' r => by
    have := F.put_size r
    rw [F.put]
    split
    · simp only [F.size]; omega
    split
    · simp only [F.size]; omega
    · simp only [F.size]; omega
theorem F.put_eq {n : ByteArray} {v' : Vd} {m' : Md} {k' fb : F} (hn : nm = n) : ∀ {fa : F}, fa.under n → (fa.app (.cons n v' m' k' fb)).put nm v m fk = fa.app (.cons n v m fk fb)
  | .nil, _ => by rw [F.app, F.put, if_pos (cmp3_eq.2 hn)]; rfl
  | .cons n0 v0 m0 k0 r, ⟨h1, h2⟩ => by
    subst hn
    rw [F.app, F.put, if_neg (by rw [cmp3_gt h1]; decide), if_neg (by rw [cmp3_gt h1]; decide), F.put_eq rfl h2]
    rfl
theorem F.put_lt {n : ByteArray} {v' : Vd} {m' : Md} {k' fb : F} (hn : lt nm n) : ∀ {fa : F}, (fa.app (.cons n v' m' k' fb)).put nm v m fk = (fa.put nm v m fk).app (.cons n v' m' k' fb)
  | .nil => by
    show (F.cons n v' m' k' fb).put nm v m fk = F.cons nm v m fk (F.cons n v' m' k' fb)
    rw [F.put, if_neg (by rw [cmp3_lt hn]; decide), if_pos (cmp3_lt hn)]
  | .cons n0 v0 m0 k0 r => by
    rw [F.app, F.put, F.put, F.put_lt hn]
    split
    · rfl
    split
    · rfl
    · rfl
theorem F.put_gt {n : ByteArray} {v' : Vd} {m' : Md} {k' fb : F} (hn : lt n nm) : ∀ {fa : F}, fa.under n → (fa.app (.cons n v' m' k' fb)).put nm v m fk = fa.app (.cons n v' m' k' (fb.put nm v m fk))
  | .nil, _ => by rw [F.app, F.put, if_neg (by rw [cmp3_gt hn]; decide), if_neg (by rw [cmp3_gt hn]; decide)]; rfl
  | .cons n0 v0 m0 k0 r, ⟨h1, h2⟩ => by
    have h3 := lt_trans h1 hn
    rw [F.app, F.put, if_neg (by rw [cmp3_gt h3]; decide), if_neg (by rw [cmp3_gt h3]; decide), F.put_gt hn h2]
    rfl
end
def WithOk (P : Nat → Prop) (nm : ByteArray) (v : Vd) (m : Md) (fk f : F) : Prop := ∀ (w : World) (au : Option Addr) (p : Nat), AtF P w (.pointer au) f → AtTF P w p v m fk → f.rises → f.size + fk.size ≤ 900000 → nm.size ≤ 281474976710656 → (∀ b, w.heap.size ≤ b → P b) →
    Calls Tryz.prog 64 #[.pointer au, .string nm, .pointer (some ⟨p, 0, none⟩)] w (EvenTo P w (f.put nm v m fk))
theorem with_any (nm : ByteArray) (v : Vd) (m : Md) (fk : F) : ∀ (Z : Nat) (f : F), f.size < Z → WithOk P nm v m fk f := by
  intro Z
  induction Z with
  | zero => intro f h; omega
  | succ Z ih =>
    intro f hZ w au p hu hk hr hs hnm hP
    have HP : Hid (∀ W, G w W → ∀ b, W.heap.size ≤ b → P b) := fun W hW b hb => hP b (Nat.le_trans hW.size hb)
    clear hP
    cases au with
    | none =>
      obtain rfl := hu.isNil
      have C1 := clone_any nm w hnm
      have HK := hid hk
      clear hk hu hr ih
      go_enter Tryz.func64, Tryz.ntmps64
      go_wp2_with (first
        | (go_at_call 98; refine C1.mono ?_; rintro e w1 ⟨rfl, hg1⟩; have CJ := joinF_any (nm := nm) (AtF.leaf w1) (AtF.leaf w1) (HK.out.grow hg1) (by simp [F.size] at hs ⊢; omega) (HP.out _ hg1); have HG1 := hid hg1; clear hg1)
        | (go_at_call 87; refine CJ.mono ?_; rintro e w3 ⟨q3, rfl, h3, hg3⟩; have H3 := hid (⟨h3, HG1.out.trans hg3⟩ : _ ∧ _); clear h3 hg3))
      go_ret
      exact ⟨q3, rfl, H3.out.1, H3.out.2⟩
    | some a =>
      obtain ⟨q, rfl⟩ := hu.addr
      obtain ⟨n, p1, v1, m1, f1, aa, ab, fa, fb, c0, c1, c2, c3, h1, ha, hb, rfl⟩ := hu.node
      obtain ⟨ra, rua, rab, rk, rb, _⟩ := F.rises_app.1 hr
      have hsz : fa.size + (f1.size + fb.size + 1) + fk.size ≤ 900000 := by rw [F.app_size, F.size] at hs; omega
      have hZ2 : fa.size + (f1.size + fb.size + 1) < Z + 1 := by rw [F.app_size, F.size] at hZ; omega
      have HA := hid (⟨ha, hb, h1, hk⟩ : AtF P w (.pointer aa) fa ∧ AtF P w (.pointer ab) fb ∧ AtTF P w p1 v1 m1 f1 ∧ AtTF P w p v m fk)
      have HIH := hid ih
      have HR := hid (⟨ra, rb, hnm⟩ : _ ∧ _ ∧ _)
      have C94 := cmp_any nm n w
      clear hu hk hr hs hZ ha hb h1 ra rab rk rb ih hnm
      rcases lt_tri nm n with hq | hq | hq
      · rw [F.put_eq hq rua]
        rw [show cmp3 nm n = 0 from cmp3_eq.2 hq] at C94
        clear rua hq
        go_enter Tryz.func64, Tryz.ntmps64
        go_upto_region 5 with (go_at_call 97; refine C94.mono ?_; rintro e w2 ⟨rfl, e2⟩; subst e2)
        refine wp_region_G ?_
        replace c0 := (G.drew w2).cell c0
        replace c1 := (G.drew w2).cell c1
        replace c2 := (G.drew w2).cell c2
        replace c3 := (G.drew w2).cell c3
        have HD := hid (G.drew w2)
        generalize w2.drew = w3 at *
        refine takeG 0 23 (.pointer (some ⟨q, 0, none⟩)) rfl rfl (by kernel_rfl) (by kernel_rfl) (by kernel_rfl) (fun _ _ _ h => h) (by kernel_rfl) (fun wz hz => ?_) ?_
        · rfl
        try simp only [Act.put, List.setIfInBounds_toArray, List.set_cons_zero, List.set_cons_succ]
        refine takeG 1 24 (.pointer (some ⟨q, 0, none⟩)) rfl rfl (by kernel_rfl) (by kernel_rfl) (by kernel_rfl) (fun _ _ _ h => h) (by kernel_rfl) (fun wz hz => ?_) ?_
        · go_simp
        try simp only [Act.put, List.setIfInBounds_toArray, List.set_cons_zero, List.set_cons_succ]
        refine takeG 2 25 (.pointer (some ⟨q, 2, none⟩)) rfl rfl (by kernel_rfl) (by kernel_rfl) (by kernel_rfl) (fun _ _ _ h => h) (by kernel_rfl) (fun wz hz => ?_) ?_
        · go_simp
        try simp only [Act.put, List.setIfInBounds_toArray, List.set_cons_zero, List.set_cons_succ]
        refine takeG 3 26 (.pointer aa) rfl rfl (by kernel_rfl) (by kernel_rfl) (by kernel_rfl) (fun _ _ _ h => h) (by kernel_rfl) (fun wz hz => ?_) ?_
        · have y0 := hz.cell c2; go_simp
        try simp only [Act.put, List.setIfInBounds_toArray, List.set_cons_zero, List.set_cons_succ]
        refine takeG 4 27 (.pointer (some ⟨q, 0, none⟩)) rfl rfl (by kernel_rfl) (by kernel_rfl) (by kernel_rfl) (fun _ _ _ h => h) (by kernel_rfl) (fun wz hz => ?_) ?_
        · rfl
        try simp only [Act.put, List.setIfInBounds_toArray, List.set_cons_zero, List.set_cons_succ]
        refine takeG 5 28 (.pointer (some ⟨q, 0, none⟩)) rfl rfl (by kernel_rfl) (by kernel_rfl) (by kernel_rfl) (fun _ _ _ h => h) (by kernel_rfl) (fun wz hz => ?_) ?_
        · go_simp
        try simp only [Act.put, List.setIfInBounds_toArray, List.set_cons_zero, List.set_cons_succ]
        refine takeG 6 29 (.pointer (some ⟨q, 0, none⟩)) rfl rfl (by kernel_rfl) (by kernel_rfl) (by kernel_rfl) (fun _ _ _ h => h) (by kernel_rfl) (fun wz hz => ?_) ?_
        · go_simp
        try simp only [Act.put, List.setIfInBounds_toArray, List.set_cons_zero, List.set_cons_succ]
        refine takeG 7 30 (.pointer (some ⟨q, 0, none⟩)) rfl rfl (by kernel_rfl) (by kernel_rfl) (by kernel_rfl) (fun _ _ _ h => h) (by kernel_rfl) (fun wz hz => ?_) ?_
        · go_simp
        try simp only [Act.put, List.setIfInBounds_toArray, List.set_cons_zero, List.set_cons_succ]
        refine takeG 8 31 (.string n) rfl rfl (by kernel_rfl) (by kernel_rfl) (by kernel_rfl) (fun _ _ _ h => h) (by kernel_rfl) (fun wz hz => ?_) ?_
        · have y0 := hz.cell c0; go_simp
        try simp only [Act.put, List.setIfInBounds_toArray, List.set_cons_zero, List.set_cons_succ]
        refine takeG 9 32 (.pointer (some ⟨p, 0, none⟩)) rfl rfl (by kernel_rfl) (by kernel_rfl) (by kernel_rfl) (fun _ _ _ h => h) (by kernel_rfl) (fun wz hz => ?_) ?_
        · rfl
        try simp only [Act.put, List.setIfInBounds_toArray, List.set_cons_zero, List.set_cons_succ]
        refine takeG 10 33 (.agg #[.string n, .pointer (some ⟨p, 0, none⟩)]) rfl rfl (by kernel_rfl) (by kernel_rfl) (by kernel_rfl) (fun _ _ _ h => h) (by kernel_rfl) (fun wz hz => ?_) ?_
        · go_simp
        try simp only [Act.put, List.setIfInBounds_toArray, List.set_cons_zero, List.set_cons_succ]
        refine takeG 11 34 (.pointer (some ⟨q, 0, none⟩)) rfl rfl (by kernel_rfl) (by kernel_rfl) (by kernel_rfl) (fun _ _ _ h => h) (by kernel_rfl) (fun wz hz => ?_) ?_
        · rfl
        try simp only [Act.put, List.setIfInBounds_toArray, List.set_cons_zero, List.set_cons_succ]
        refine takeG 12 35 (.pointer (some ⟨q, 0, none⟩)) rfl rfl (by kernel_rfl) (by kernel_rfl) (by kernel_rfl) (fun _ _ _ h => h) (by kernel_rfl) (fun wz hz => ?_) ?_
        · go_simp
        try simp only [Act.put, List.setIfInBounds_toArray, List.set_cons_zero, List.set_cons_succ]
        refine takeG 13 36 (.pointer (some ⟨q, 3, none⟩)) rfl rfl (by kernel_rfl) (by kernel_rfl) (by kernel_rfl) (fun _ _ _ h => h) (by kernel_rfl) (fun wz hz => ?_) ?_
        · go_simp
        try simp only [Act.put, List.setIfInBounds_toArray, List.set_cons_zero, List.set_cons_succ]
        refine takeG 14 37 (.pointer ab) rfl rfl (by kernel_rfl) (by kernel_rfl) (by kernel_rfl) (fun _ _ _ h => h) (by kernel_rfl) (fun wz hz => ?_) ?_
        · have y0 := hz.cell c3; go_simp
        try simp only [Act.put, List.setIfInBounds_toArray, List.set_cons_zero, List.set_cons_succ]
        refine readyG [15] (by kernel_rfl) (by simp) fun w5 hg5 => ?_
        have hG5 := HD.out.trans hg5
        refine AllG.call 15 38 87 #[.pointer aa, .agg #[.string n, .pointer (some ⟨p, 0, none⟩)], .pointer ab] rfl rfl (by kernel_rfl) (by go_simp) ((joinF_any (nm := n) (HA.out.1.grow hG5) (HA.out.2.1.grow hG5) (HA.out.2.2.2.grow hG5) (by omega) (HP.out _ hG5)).mono ?_) AllG.nil
        rintro e w6 ⟨q2, rfl, hq2, hg6⟩
        refine ⟨_, rfl, hg6, ?_⟩
        try simp only [Act.put, List.setIfInBounds_toArray, List.set_cons_zero, List.set_cons_succ]
        have hG7 := hG5.trans hg6
        refine takeG 16 6 (.pointer (some ⟨q2, 0, none⟩)) rfl rfl (by kernel_rfl) (by kernel_rfl) (by kernel_rfl) (fun _ _ _ h => h) (by kernel_rfl) (fun wz hz => ?_) ?_
        · rfl
        try simp only [Act.put, List.setIfInBounds_toArray, List.set_cons_zero, List.set_cons_succ]
        refine doneG (by kernel_rfl) (fun w9 hg9 => ?_)
        have HQ := hid (⟨hq2.grow hg9, hG7.trans hg9⟩ : _ ∧ _)
        clear hq2 hg9
        go_wp2
        go_ret
        exact ⟨q2, rfl, HQ.out.1, HQ.out.2⟩
      · rw [F.put_lt hq]
        rw [show cmp3 nm n = -1 from cmp3_lt hq] at C94
        clear rua hq
        go_enter Tryz.func64, Tryz.ntmps64
        go_upto_region 7 with (go_at_call 97; refine C94.mono ?_; rintro e w2 ⟨rfl, e2⟩; subst e2)
        refine wp_region_G ?_
        replace c0 := (G.drew w2).cell c0
        replace c1 := (G.drew w2).cell c1
        replace c2 := (G.drew w2).cell c2
        replace c3 := (G.drew w2).cell c3
        have HD := hid (G.drew w2)
        generalize w2.drew = w3 at *
        refine takeG 0 41 (.pointer (some ⟨q, 0, none⟩)) rfl rfl (by kernel_rfl) (by kernel_rfl) (by kernel_rfl) (fun _ _ _ h => h) (by kernel_rfl) (fun wz hz => ?_) ?_
        · rfl
        try simp only [Act.put, List.setIfInBounds_toArray, List.set_cons_zero, List.set_cons_succ]
        refine takeG 1 42 (.pointer (some ⟨q, 0, none⟩)) rfl rfl (by kernel_rfl) (by kernel_rfl) (by kernel_rfl) (fun _ _ _ h => h) (by kernel_rfl) (fun wz hz => ?_) ?_
        · go_simp
        try simp only [Act.put, List.setIfInBounds_toArray, List.set_cons_zero, List.set_cons_succ]
        refine takeG 2 43 (.pointer (some ⟨q, 2, none⟩)) rfl rfl (by kernel_rfl) (by kernel_rfl) (by kernel_rfl) (fun _ _ _ h => h) (by kernel_rfl) (fun wz hz => ?_) ?_
        · go_simp
        try simp only [Act.put, List.setIfInBounds_toArray, List.set_cons_zero, List.set_cons_succ]
        refine takeG 3 44 (.pointer aa) rfl rfl (by kernel_rfl) (by kernel_rfl) (by kernel_rfl) (fun _ _ _ h => h) (by kernel_rfl) (fun wz hz => ?_) ?_
        · have y0 := hz.cell c2; go_simp
        try simp only [Act.put, List.setIfInBounds_toArray, List.set_cons_zero, List.set_cons_succ]
        refine takeG 4 45 (.string nm) rfl rfl (by kernel_rfl) (by kernel_rfl) (by kernel_rfl) (fun _ _ _ h => h) (by kernel_rfl) (fun wz hz => ?_) ?_
        · rfl
        try simp only [Act.put, List.setIfInBounds_toArray, List.set_cons_zero, List.set_cons_succ]
        refine takeG 5 46 (.pointer (some ⟨p, 0, none⟩)) rfl rfl (by kernel_rfl) (by kernel_rfl) (by kernel_rfl) (fun _ _ _ h => h) (by kernel_rfl) (fun wz hz => ?_) ?_
        · rfl
        try simp only [Act.put, List.setIfInBounds_toArray, List.set_cons_zero, List.set_cons_succ]
        refine takeG 7 48 (.pointer (some ⟨q, 0, none⟩)) rfl rfl (by kernel_rfl) (by kernel_rfl) (by kernel_rfl) (fun _ _ _ h => h) (by kernel_rfl) (fun wz hz => ?_) ?_
        · rfl
        try simp only [Act.put, List.setIfInBounds_toArray, List.set_cons_zero, List.set_cons_succ]
        refine takeG 8 49 (.pointer (some ⟨q, 0, none⟩)) rfl rfl (by kernel_rfl) (by kernel_rfl) (by kernel_rfl) (fun _ _ _ h => h) (by kernel_rfl) (fun wz hz => ?_) ?_
        · go_simp
        try simp only [Act.put, List.setIfInBounds_toArray, List.set_cons_zero, List.set_cons_succ]
        refine takeG 9 50 (.pointer (some ⟨q, 0, none⟩)) rfl rfl (by kernel_rfl) (by kernel_rfl) (by kernel_rfl) (fun _ _ _ h => h) (by kernel_rfl) (fun wz hz => ?_) ?_
        · go_simp
        try simp only [Act.put, List.setIfInBounds_toArray, List.set_cons_zero, List.set_cons_succ]
        refine takeG 10 51 (.agg #[.string n, .pointer (some ⟨p1, 0, none⟩)]) rfl rfl (by kernel_rfl) (by kernel_rfl) (by kernel_rfl) (fun _ _ _ h => h) (by kernel_rfl) (fun wz hz => ?_) ?_
        · have y0 := hz.cell c0; have y1 := hz.cell c1; go_simp
        try simp only [Act.put, List.setIfInBounds_toArray, List.set_cons_zero, List.set_cons_succ]
        refine takeG 11 52 (.pointer (some ⟨q, 0, none⟩)) rfl rfl (by kernel_rfl) (by kernel_rfl) (by kernel_rfl) (fun _ _ _ h => h) (by kernel_rfl) (fun wz hz => ?_) ?_
        · rfl
        try simp only [Act.put, List.setIfInBounds_toArray, List.set_cons_zero, List.set_cons_succ]
        refine takeG 12 53 (.pointer (some ⟨q, 0, none⟩)) rfl rfl (by kernel_rfl) (by kernel_rfl) (by kernel_rfl) (fun _ _ _ h => h) (by kernel_rfl) (fun wz hz => ?_) ?_
        · go_simp
        try simp only [Act.put, List.setIfInBounds_toArray, List.set_cons_zero, List.set_cons_succ]
        refine takeG 13 54 (.pointer (some ⟨q, 3, none⟩)) rfl rfl (by kernel_rfl) (by kernel_rfl) (by kernel_rfl) (fun _ _ _ h => h) (by kernel_rfl) (fun wz hz => ?_) ?_
        · go_simp
        try simp only [Act.put, List.setIfInBounds_toArray, List.set_cons_zero, List.set_cons_succ]
        refine takeG 14 55 (.pointer ab) rfl rfl (by kernel_rfl) (by kernel_rfl) (by kernel_rfl) (fun _ _ _ h => h) (by kernel_rfl) (fun wz hz => ?_) ?_
        · have y0 := hz.cell c3; go_simp
        try simp only [Act.put, List.setIfInBounds_toArray, List.set_cons_zero, List.set_cons_succ]
        refine readyG [6] (by kernel_rfl) (by simp) fun w5 hg5 => ?_
        have hG5 := HD.out.trans hg5
        refine AllG.call 6 47 64 #[.pointer aa, .string nm, .pointer (some ⟨p, 0, none⟩)] rfl rfl (by kernel_rfl) (by go_simp) ((HIH.out fa (by omega) w5 aa p (HA.out.1.grow hG5) (HA.out.2.2.2.grow hG5) HR.out.1 (by omega) HR.out.2.2 (HP.out _ hG5)).mono ?_) AllG.nil
        rintro e w6 ⟨q1, rfl, hq1, hg6⟩
        refine ⟨_, rfl, hg6, ?_⟩
        try simp only [Act.put, List.setIfInBounds_toArray, List.set_cons_zero, List.set_cons_succ]
        refine readyG [15] (by kernel_rfl) (by simp) fun w7 hg7 => ?_
        have hG6 := (hG5.trans hg6).trans hg7
        refine AllG.call 15 56 99 #[.pointer (some ⟨q1, 0, none⟩), .agg #[.string n, .pointer (some ⟨p1, 0, none⟩)], .pointer ab] rfl rfl (by kernel_rfl) (by go_simp) ((even_any (nm := n) (hq1.grow hg7) (HA.out.2.1.grow hG6) (HA.out.2.2.1.grow hG6) (by have := F.put_size (nm := nm) (v := v) (m := m) (fk := fk) fa; omega) (HP.out _ hG6)).mono ?_) AllG.nil
        rintro e w8 ⟨q2, rfl, hq2, hg8⟩
        refine ⟨_, rfl, hg8, ?_⟩
        try simp only [Act.put, List.setIfInBounds_toArray, List.set_cons_zero, List.set_cons_succ]
        have hG7 := hG6.trans hg8
        refine takeG 16 6 (.pointer (some ⟨q2, 0, none⟩)) rfl rfl (by kernel_rfl) (by kernel_rfl) (by kernel_rfl) (fun _ _ _ h => h) (by kernel_rfl) (fun wz hz => ?_) ?_
        · rfl
        try simp only [Act.put, List.setIfInBounds_toArray, List.set_cons_zero, List.set_cons_succ]
        refine doneG (by kernel_rfl) (fun w9 hg9 => ?_)
        have HQ := hid (⟨hq2.grow hg9, hG7.trans hg9⟩ : _ ∧ _)
        clear hq2 hg9
        go_wp2
        go_ret
        exact ⟨q2, rfl, HQ.out.1, HQ.out.2⟩
      · rw [F.put_gt hq rua]
        rw [show cmp3 nm n = 1 from cmp3_gt hq] at C94
        clear rua hq
        go_enter Tryz.func64, Tryz.ntmps64
        go_upto_region 8 with (go_at_call 97; refine C94.mono ?_; rintro e w2 ⟨rfl, e2⟩; subst e2)
        refine wp_region_G ?_
        replace c0 := (G.drew w2).cell c0
        replace c1 := (G.drew w2).cell c1
        replace c2 := (G.drew w2).cell c2
        replace c3 := (G.drew w2).cell c3
        have HD := hid (G.drew w2)
        generalize w2.drew = w3 at *
        refine takeG 0 57 (.pointer (some ⟨q, 0, none⟩)) rfl rfl (by kernel_rfl) (by kernel_rfl) (by kernel_rfl) (fun _ _ _ h => h) (by kernel_rfl) (fun wz hz => ?_) ?_
        · rfl
        try simp only [Act.put, List.setIfInBounds_toArray, List.set_cons_zero, List.set_cons_succ]
        refine takeG 1 58 (.pointer (some ⟨q, 0, none⟩)) rfl rfl (by kernel_rfl) (by kernel_rfl) (by kernel_rfl) (fun _ _ _ h => h) (by kernel_rfl) (fun wz hz => ?_) ?_
        · go_simp
        try simp only [Act.put, List.setIfInBounds_toArray, List.set_cons_zero, List.set_cons_succ]
        refine takeG 2 59 (.pointer (some ⟨q, 2, none⟩)) rfl rfl (by kernel_rfl) (by kernel_rfl) (by kernel_rfl) (fun _ _ _ h => h) (by kernel_rfl) (fun wz hz => ?_) ?_
        · go_simp
        try simp only [Act.put, List.setIfInBounds_toArray, List.set_cons_zero, List.set_cons_succ]
        refine takeG 3 60 (.pointer aa) rfl rfl (by kernel_rfl) (by kernel_rfl) (by kernel_rfl) (fun _ _ _ h => h) (by kernel_rfl) (fun wz hz => ?_) ?_
        · have y0 := hz.cell c2; go_simp
        try simp only [Act.put, List.setIfInBounds_toArray, List.set_cons_zero, List.set_cons_succ]
        refine takeG 4 61 (.pointer (some ⟨q, 0, none⟩)) rfl rfl (by kernel_rfl) (by kernel_rfl) (by kernel_rfl) (fun _ _ _ h => h) (by kernel_rfl) (fun wz hz => ?_) ?_
        · rfl
        try simp only [Act.put, List.setIfInBounds_toArray, List.set_cons_zero, List.set_cons_succ]
        refine takeG 5 62 (.pointer (some ⟨q, 0, none⟩)) rfl rfl (by kernel_rfl) (by kernel_rfl) (by kernel_rfl) (fun _ _ _ h => h) (by kernel_rfl) (fun wz hz => ?_) ?_
        · go_simp
        try simp only [Act.put, List.setIfInBounds_toArray, List.set_cons_zero, List.set_cons_succ]
        refine takeG 6 63 (.pointer (some ⟨q, 0, none⟩)) rfl rfl (by kernel_rfl) (by kernel_rfl) (by kernel_rfl) (fun _ _ _ h => h) (by kernel_rfl) (fun wz hz => ?_) ?_
        · go_simp
        try simp only [Act.put, List.setIfInBounds_toArray, List.set_cons_zero, List.set_cons_succ]
        refine takeG 7 64 (.agg #[.string n, .pointer (some ⟨p1, 0, none⟩)]) rfl rfl (by kernel_rfl) (by kernel_rfl) (by kernel_rfl) (fun _ _ _ h => h) (by kernel_rfl) (fun wz hz => ?_) ?_
        · have y0 := hz.cell c0; have y1 := hz.cell c1; go_simp
        try simp only [Act.put, List.setIfInBounds_toArray, List.set_cons_zero, List.set_cons_succ]
        refine takeG 8 65 (.pointer (some ⟨q, 0, none⟩)) rfl rfl (by kernel_rfl) (by kernel_rfl) (by kernel_rfl) (fun _ _ _ h => h) (by kernel_rfl) (fun wz hz => ?_) ?_
        · rfl
        try simp only [Act.put, List.setIfInBounds_toArray, List.set_cons_zero, List.set_cons_succ]
        refine takeG 9 66 (.pointer (some ⟨q, 0, none⟩)) rfl rfl (by kernel_rfl) (by kernel_rfl) (by kernel_rfl) (fun _ _ _ h => h) (by kernel_rfl) (fun wz hz => ?_) ?_
        · go_simp
        try simp only [Act.put, List.setIfInBounds_toArray, List.set_cons_zero, List.set_cons_succ]
        refine takeG 10 67 (.pointer (some ⟨q, 3, none⟩)) rfl rfl (by kernel_rfl) (by kernel_rfl) (by kernel_rfl) (fun _ _ _ h => h) (by kernel_rfl) (fun wz hz => ?_) ?_
        · go_simp
        try simp only [Act.put, List.setIfInBounds_toArray, List.set_cons_zero, List.set_cons_succ]
        refine takeG 11 68 (.pointer ab) rfl rfl (by kernel_rfl) (by kernel_rfl) (by kernel_rfl) (fun _ _ _ h => h) (by kernel_rfl) (fun wz hz => ?_) ?_
        · have y0 := hz.cell c3; go_simp
        try simp only [Act.put, List.setIfInBounds_toArray, List.set_cons_zero, List.set_cons_succ]
        refine takeG 12 69 (.string nm) rfl rfl (by kernel_rfl) (by kernel_rfl) (by kernel_rfl) (fun _ _ _ h => h) (by kernel_rfl) (fun wz hz => ?_) ?_
        · rfl
        try simp only [Act.put, List.setIfInBounds_toArray, List.set_cons_zero, List.set_cons_succ]
        refine takeG 13 70 (.pointer (some ⟨p, 0, none⟩)) rfl rfl (by kernel_rfl) (by kernel_rfl) (by kernel_rfl) (fun _ _ _ h => h) (by kernel_rfl) (fun wz hz => ?_) ?_
        · rfl
        try simp only [Act.put, List.setIfInBounds_toArray, List.set_cons_zero, List.set_cons_succ]
        refine readyG [14] (by kernel_rfl) (by simp) fun w5 hg5 => ?_
        have hG5 := HD.out.trans hg5
        refine AllG.call 14 71 64 #[.pointer ab, .string nm, .pointer (some ⟨p, 0, none⟩)] rfl rfl (by kernel_rfl) (by go_simp) ((HIH.out fb (by omega) w5 ab p (HA.out.2.1.grow hG5) (HA.out.2.2.2.grow hG5) HR.out.2.1 (by omega) HR.out.2.2 (HP.out _ hG5)).mono ?_) AllG.nil
        rintro e w6 ⟨q1, rfl, hq1, hg6⟩
        refine ⟨_, rfl, hg6, ?_⟩
        try simp only [Act.put, List.setIfInBounds_toArray, List.set_cons_zero, List.set_cons_succ]
        refine readyG [15] (by kernel_rfl) (by simp) fun w7 hg7 => ?_
        have hG6 := (hG5.trans hg6).trans hg7
        refine AllG.call 15 72 99 #[.pointer aa, .agg #[.string n, .pointer (some ⟨p1, 0, none⟩)], .pointer (some ⟨q1, 0, none⟩)] rfl rfl (by kernel_rfl) (by go_simp) ((even_any (nm := n) (HA.out.1.grow hG6) (hq1.grow hg7) (HA.out.2.2.1.grow hG6) (by have := F.put_size (nm := nm) (v := v) (m := m) (fk := fk) fb; omega) (HP.out _ hG6)).mono ?_) AllG.nil
        rintro e w8 ⟨q2, rfl, hq2, hg8⟩
        refine ⟨_, rfl, hg8, ?_⟩
        try simp only [Act.put, List.setIfInBounds_toArray, List.set_cons_zero, List.set_cons_succ]
        have hG7 := hG6.trans hg8
        refine takeG 16 6 (.pointer (some ⟨q2, 0, none⟩)) rfl rfl (by kernel_rfl) (by kernel_rfl) (by kernel_rfl) (fun _ _ _ h => h) (by kernel_rfl) (fun wz hz => ?_) ?_
        · rfl
        try simp only [Act.put, List.setIfInBounds_toArray, List.set_cons_zero, List.set_cons_succ]
        refine doneG (by kernel_rfl) (fun w9 hg9 => ?_)
        have HQ := hid (⟨hq2.grow hg9, hG7.trans hg9⟩ : _ ∧ _)
        clear hq2 hg9
        go_wp2
        go_ret
        exact ⟨q2, rfl, HQ.out.1, HQ.out.2⟩
end Go.Proofs.YtbjjbgaomoihaaaGreatDoor
