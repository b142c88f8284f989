import Derived.Test.YtbjjbgaomoihaaaGreatDoorFind
import Derived.Test.YtbjjbgaomoihaaaGreatDoorJoinQ
set_option maxRecDepth 100000
set_option maxHeartbeats 2000000
namespace Go.Proofs.YtbjjbgaomoihaaaGreatDoor
open Go.RowKit
def K.all (P : Nat → Prop) : K → Prop
  | .nil => True
  | .node q p _ _ _ kids ah be => P q ∧ P p ∧ kids.all P ∧ ah.all P ∧ be.all P
theorem K.all_mono {P P' : Nat → Prop} (h : ∀ b, P b → P' b) : ∀ {k : K}, k.all P → k.all P'
  | .nil, _ => trivial
  | .node _ _ _ _ _ _ _ _, ⟨h1, h2, h3, h4, h5⟩ => ⟨h _ h1, h _ h2, K.all_mono h h3, K.all_mono h h4, K.all_mono h h5⟩
theorem At.lt {w : World} : ∀ {k : K} {u : Value}, At w k u → k.all (· < w.heap.size)
  | .nil, _, _ => trivial
  | .node _ _ _ _ _ _ _ _, _, ⟨_, _, _, _, ⟨h2, h3⟩, h4, h5, h6⟩ => ⟨World.block_lt_of_cell? w _ (lies_cell h2 0 _ rfl), World.block_lt_of_cell? w _ (lies_cell h3 39 _ (tc_kids ..)), h4.lt, h5.lt, h6.lt⟩
theorem At.keepP {P : Nat → Prop} {w w' : World} (hb : ∀ b, P b → w'.heap[b]? = w.heap[b]?) : ∀ {k : K} {u : Value}, k.all P → At w k u → At w' k u
  | .nil, _, _, h => h
  | .node _ _ _ _ _ _ _ _, _, ⟨a1, a2, a3, a4, a5⟩, ⟨h1, pk, pa, pb, ⟨h2, h3⟩, h4, h5, h6⟩ => ⟨h1, pk, pa, pb, ⟨fun j u hj => (World.cell?_of_block (w := w) (a := ⟨_, 0 + j, none⟩) (hb _ a1)).trans (h2 j u hj), fun j u hj => (World.cell?_of_block (w := w) (a := ⟨_, 0 + j, none⟩) (hb _ a2)).trans (h3 j u hj)⟩, h4.keepP hb a3, h5.keepP hb a4, h6.keepP hb a5⟩
variable {P : Nat → Prop}
def AtF (P : Nat → Prop) (w : World) (u : Value) (f : F) : Prop := ∃ k, At w k u ∧ k.flat = f ∧ k.all P
def AtTF (P : Nat → Prop) (w : World) (p : Nat) (v : Vd) (m : Md) (f : F) : Prop := ∃ k, AtT w p v m k ∧ k.flat = f ∧ k.all P ∧ P p
theorem AtF.grow {w w' : World} {u : Value} {f : F} (h : AtF P w u f) (hg : G w w') : AtF P w' u f := by obtain ⟨k, h, e⟩ := h; exact ⟨k, h.grow hg, e⟩
theorem AtTF.grow {w w' : World} {p : Nat} {v : Vd} {m : Md} {f : F} (h : AtTF P w p v m f) (hg : G w w') : AtTF P w' p v m f := by obtain ⟨k, h, e⟩ := h; exact ⟨k, h.grow hg, e⟩
theorem AtF.mono {P' : Nat → Prop} {w : World} {u : Value} {f : F} (h : AtF P w u f) (hp : ∀ b, P b → P' b) : AtF P' w u f := by obtain ⟨k, h, e, ha⟩ := h; exact ⟨k, h, e, K.all_mono hp ha⟩
theorem AtTF.mono {P' : Nat → Prop} {w : World} {p : Nat} {v : Vd} {m : Md} {f : F} (h : AtTF P w p v m f) (hp : ∀ b, P b → P' b) : AtTF P' w p v m f := by obtain ⟨k, h, e, ha, hb⟩ := h; exact ⟨k, h, e, K.all_mono hp ha, hp _ hb⟩
theorem K.all_and {P' : Nat → Prop} : ∀ {k : K}, k.all P → k.all P' → k.all fun b => P b ∧ P' b
  | .nil, _, _ => trivial
  | .node _ _ _ _ _ _ _ _, ⟨h1, h2, h3, h4, h5⟩, ⟨g1, g2, g3, g4, g5⟩ => ⟨⟨h1, g1⟩, ⟨h2, g2⟩, K.all_and h3 g3, K.all_and h4 g4, K.all_and h5 g5⟩
theorem AtF.lt {w : World} {u : Value} {f : F} (h : AtF P w u f) : AtF (fun b => P b ∧ b < w.heap.size) w u f := by obtain ⟨k, h, e, ha⟩ := h; exact ⟨k, h, e, K.all_and ha h.lt⟩
theorem AtTF.lt {w : World} {p : Nat} {v : Vd} {m : Md} {f : F} (h : AtTF P w p v m f) : AtTF (fun b => P b ∧ b < w.heap.size) w p v m f := by
  obtain ⟨k, ⟨pk, h1, h2⟩, e, ha, hb⟩ := h
  exact ⟨k, ⟨pk, h1, h2⟩, e, K.all_and ha h2.lt, hb, World.block_lt_of_cell? w _ (lies_cell h1 39 _ (tc_kids ..))⟩
theorem AtF.keepP {w w' : World} {u : Value} {f : F} (h : AtF P w u f) (hb : ∀ b, P b → w'.heap[b]? = w.heap[b]?) : AtF P w' u f := by obtain ⟨k, h, e, ha⟩ := h; exact ⟨k, h.keepP hb ha, e, ha⟩
theorem AtF.form {w : World} {u : Value} {f : F} (h : AtF P w u f) : ∃ a, u = .pointer a := by obtain ⟨k, h, _⟩ := h; exact h.form
theorem AtF.leaf (w : World) : AtF P w (.pointer none) .nil := ⟨.nil, rfl, rfl, trivial⟩
theorem AtF.isNil {w : World} {f : F} (h : AtF P w (.pointer none) f) : f = .nil := by
  obtain ⟨k, h, e, _⟩ := h
  cases k with
  | nil => exact e.symm
  | node => obtain ⟨h, _⟩ := h; cases h
theorem AtF.node {w : World} {q : Nat} {f : F} (h : AtF P w (.pointer (some ⟨q, 0, none⟩)) f) : ∃ nm p v m fk aa ab fa fb, w.cell? ⟨q, 0, none⟩ = some (.string nm) ∧ w.cell? ⟨q, 1, none⟩ = some (.pointer (some ⟨p, 0, none⟩)) ∧ w.cell? ⟨q, 2, none⟩ = some (.pointer aa) ∧ w.cell? ⟨q, 3, none⟩ = some (.pointer ab) ∧
    AtTF P w p v m fk ∧ AtF P w (.pointer aa) fa ∧ AtF P w (.pointer ab) fb ∧ f = fa.app (.cons nm v m fk fb) := by
  obtain ⟨k, h, e, ha⟩ := h
  cases k with
  | nil => cases h
  | node q' p nm v m kids ah be =>
    obtain ⟨h1, pk, pa, pb, ⟨h2, h3⟩, h4, h5, h6⟩ := h
    obtain ⟨a1, a2, a3, a4, a5⟩ := ha
    injection h1 with h1
    injection h1 with h1
    injection h1 with h1
    subst h1
    obtain ⟨aa, rfl⟩ := h5.form
    obtain ⟨ab, rfl⟩ := h6.form
    exact ⟨nm, p, v, m, kids.flat, aa, ab, ah.flat, be.flat, lies_cell h2 0 _ rfl, lies_cell h2 1 _ rfl, lies_cell h2 2 _ rfl, lies_cell h2 3 _ rfl, ⟨kids, ⟨pk, h3, h4⟩, rfl, a3, a2⟩, ⟨ah, h5, rfl, a4⟩, ⟨be, h6, rfl, a5⟩, e.symm⟩
theorem AtF.addr {w : World} {a : Addr} {f : F} (h : AtF P w (.pointer (some a)) f) : ∃ q, a = ⟨q, 0, none⟩ := by
  obtain ⟨k, h, e, _⟩ := h
  cases k with
  | nil => cases h
  | node q' p nm v m kids ah be => obtain ⟨h1, _⟩ := h; injection h1 with h1; injection h1 with h1; exact ⟨q', h1⟩
theorem joinF_any {fa fb fk : F} {ua ub : Value} {nm : ByteArray} {p : Nat} {v : Vd} {m : Md} {w : World} (ha : AtF P w ua fa) (hb : AtF P w ub fb) (hk : AtTF P w p v m fk) (hs : fa.size + fb.size + fk.size + 1 ≤ 9223372036854775807) (hP : ∀ b, w.heap.size ≤ b → P b) :
    Calls Tryz.prog 87 #[ua, .agg #[.string nm, .pointer (some ⟨p, 0, none⟩)], ub] w fun e w' => ∃ q, e = .returned (.pointer (some ⟨q, 0, none⟩)) ∧ AtF P w' (.pointer (some ⟨q, 0, none⟩)) (fa.app (.cons nm v m fk fb)) ∧ G w w' := by
  obtain ⟨ka, ha, rfl, aa⟩ := ha
  obtain ⟨kb, hb, rfl, ab⟩ := hb
  obtain ⟨kk, hk, rfl, ak, ap⟩ := hk
  refine (joinQ_any ka kb kk ua ub nm p v m w ha hb hk hs).mono ?_
  rintro e w' ⟨q, rfl, h, hg, hq⟩
  exact ⟨q, rfl, ⟨_, h, rfl, hP q hq, ap, ak, aa, ab⟩, hg⟩
theorem weight_any {u : Value} {f : F} {w : World} (h : AtF P w u f) (hs : f.size + 1 ≤ 9223372036854775807) : Calls Tryz.prog 143 #[u] w fun e w' => e = .returned (.int .i64 ((f.len + 1 : Nat) : Int)) ∧ w' = w := by
  obtain ⟨k, h, rfl, _⟩ := h
  have C := many2_any k u w h
  obtain ⟨a, rfl⟩ := h.form
  have hl := F.len_le_size k.flat
  generalize k.flat.len = n at *
  clear h
  go_enter Tryz.func143, Tryz.ntmps143
  go_wp2_with (go_at_call 67; refine C.mono ?_; rintro e w1 ⟨rfl, e1⟩; subst e1)
  go_ret
  exact ⟨by simp, rfl⟩
def EvenTo (P : Nat → Prop) (w : World) (f : F) (e : Ending) (w' : World) : Prop := ∃ q, e = .returned (.pointer (some ⟨q, 0, none⟩)) ∧ AtF P w' (.pointer (some ⟨q, 0, none⟩)) f ∧ G w w'
theorem turnA_any {ax : Option Addr} {q p : Nat} {nm : ByteArray} {v : Vd} {m : Md} {fx f fk : F} {w : World} (hx : AtF P w (.pointer ax) fx) (hq : AtF P w (.pointer (some ⟨q, 0, none⟩)) f) (hk : AtTF P w p v m fk) (hs : fx.size + f.size + fk.size ≤ 1000000) (hP : ∀ b, w.heap.size ≤ b → P b) :
    Calls Tryz.prog 144 #[.pointer ax, .agg #[.string nm, .pointer (some ⟨p, 0, none⟩)], .pointer (some ⟨q, 0, none⟩)] w (EvenTo P w (fx.app (.cons nm v m fk f))) := by
  obtain ⟨n1, p1, v1, m1, f1, am, ao, fm, fo, c0, c1, c2, c3, h1, hm, ho, rfl⟩ := hq.node
  have hsz : fx.size + (fm.size + f1.size + fo.size + 1) + fk.size ≤ 1000000 := by
    rw [F.app_size, F.size] at hs
    omega
  have lm := F.len_le_size fm
  have lo := F.len_le_size fo
  have HA := hid (⟨hx, hm, ho, hk, h1⟩ : AtF P w (.pointer ax) fx ∧ AtF P w (.pointer am) fm ∧ AtF P w (.pointer ao) fo ∧ AtTF P w p v m fk ∧ AtTF P w p1 v1 m1 f1)
  have C1 := hid (fun (W : World) (hW : G w W) => Calls.grown (weight_any (hm.grow hW) (by omega)))
  have C2 := hid (fun (W : World) (hW : G w W) => Calls.grown (weight_any (ho.grow hW) (by omega)))
  have hmn : am = none ∧ fm = .nil ∨ ∃ qm, am = some ⟨qm, 0, none⟩ := by
    cases am with
    | none => exact .inl ⟨rfl, hm.isNil⟩
    | some a => obtain ⟨qm, rfl⟩ := hm.addr; exact .inr ⟨qm, rfl⟩
  have HP : Hid (∀ W, G w W → ∀ b, W.heap.size ≤ b → P b) := fun W hW b hb => hP b (Nat.le_trans hW.size hb)
  clear hx hm ho hk h1 hs hq hP
  have hb0 := lies_new w #[.string nm, .pointer (some ⟨p, 0, none⟩)] 84
  have z0 := lies_cell hb0 0 (.string nm) rfl
  have z1 := lies_cell hb0 1 (.pointer (some ⟨p, 0, none⟩)) rfl
  have HG : Hid (G w (w.alloc (.cells #[.string nm, .pointer (some ⟨p, 0, none⟩)] 84))) := G.alloc w _
  replace c0 := HG.out.cell c0
  replace c1 := HG.out.cell c1
  replace c2 := HG.out.cell c2
  replace c3 := HG.out.cell c3
  clear hb0
  go_enter Tryz.func144, Tryz.ntmps144
  go_upto_region 2 with fail
  generalize hH : w.heap.size = H at *
  generalize (w.alloc (.cells #[.string nm, .pointer (some ⟨p, 0, none⟩)] 84)) = w1 at *
  refine wp_region_G ?_
  replace c0 := (G.drew w1).cell c0
  replace c1 := (G.drew w1).cell c1
  replace c2 := (G.drew w1).cell c2
  replace c3 := (G.drew w1).cell c3
  replace z0 := (G.drew w1).cell z0
  replace z1 := (G.drew w1).cell z1
  have HD : Hid (G w w1.drew) := HG.out.trans (G.drew w1)
  generalize w1.drew = w2 at *
  clear HG
  have HLm := hid (rfl : fm.len = fm.len)
  obtain ⟨Lm, hLm⟩ : ∃ L, fm.len + 1 = L := ⟨_, rfl⟩
  obtain ⟨Lo, hLo⟩ : ∃ L, fo.len + 1 = L := ⟨_, rfl⟩
  rw [hLm] at C1
  rw [hLo] at C2
  have e2 : IntKind.i64.wrap (2 * (Lo : Int)) = 2 * (Lo : Int) := by rw [IntKind.wrap_i64]; omega
  have HL := hid (⟨hLm, hLo⟩ : fm.len + 1 = Lm ∧ fo.len + 1 = Lo)
  clear hLm hLo lm lo HLm
  refine takeG 0 12 (.pointer am) rfl rfl (by kernel_rfl) (by kernel_rfl) (by kernel_rfl) (fun _ _ _ h => h) (by kernel_rfl) (fun wz hz => ?_) ?_
  · rfl
  try simp only [Act.put, List.setIfInBounds_toArray, List.set_cons_zero, List.set_cons_succ]
  refine callG 1 13 (.int .i64 Lm) 143 #[.pointer am] rfl rfl (by kernel_rfl) (by kernel_rfl) (by kernel_rfl) (fun _ _ _ h => h) (by kernel_rfl) (fun wz => by go_simp) (fun wz hz => ?_) ?_
  · exact C1.out wz (HD.out.trans hz)
  try simp only [Act.put, List.setIfInBounds_toArray, List.set_cons_zero, List.set_cons_succ]
  refine takeG 2 14 (.pointer (some ⟨q, 0, none⟩)) rfl rfl (by kernel_rfl) (by kernel_rfl) (by kernel_rfl) (fun _ _ _ h => h) (by kernel_rfl) (fun wz hz => ?_) ?_
  · rfl
  try simp only [Act.put, List.setIfInBounds_toArray, List.set_cons_zero, List.set_cons_succ]
  refine takeG 3 15 (.pointer (some ⟨q, 0, none⟩)) rfl rfl (by kernel_rfl) (by kernel_rfl) (by kernel_rfl) (fun _ _ _ h => h) (by kernel_rfl) (fun wz hz => ?_) ?_
  · go_simp
  try simp only [Act.put, List.setIfInBounds_toArray, List.set_cons_zero, List.set_cons_succ]
  refine takeG 4 16 (.pointer (some ⟨q, 3, none⟩)) rfl rfl (by kernel_rfl) (by kernel_rfl) (by kernel_rfl) (fun _ _ _ h => h) (by kernel_rfl) (fun wz hz => ?_) ?_
  · go_simp
  try simp only [Act.put, List.setIfInBounds_toArray, List.set_cons_zero, List.set_cons_succ]
  refine takeG 5 17 (.pointer ao) rfl rfl (by kernel_rfl) (by kernel_rfl) (by kernel_rfl) (fun _ _ _ h => h) (by kernel_rfl) (fun wz hz => ?_) ?_
  · have y0 := hz.cell c3; go_simp
  try simp only [Act.put, List.setIfInBounds_toArray, List.set_cons_zero, List.set_cons_succ]
  refine callG 6 18 (.int .i64 Lo) 143 #[.pointer ao] rfl rfl (by kernel_rfl) (by kernel_rfl) (by kernel_rfl) (fun _ _ _ h => h) (by kernel_rfl) (fun wz => by go_simp) (fun wz hz => ?_) ?_
  · exact C2.out wz (HD.out.trans hz)
  try simp only [Act.put, List.setIfInBounds_toArray, List.set_cons_zero, List.set_cons_succ]
  refine takeG 7 19 (.int .i64 (2 * (Lo : Int))) rfl rfl (by kernel_rfl) (by kernel_rfl) (by kernel_rfl) (fun _ _ _ h => h) (by kernel_rfl) (fun wz hz => ?_) ?_
  · go_simp
  try simp only [Act.put, List.setIfInBounds_toArray, List.set_cons_zero, List.set_cons_succ]
  refine takeG 8 20 (.bool (decide ((Lm : Int) < 2 * (Lo : Int)))) rfl rfl (by kernel_rfl) (by kernel_rfl) (by kernel_rfl) (fun _ _ _ h => h) (by kernel_rfl) (fun wz hz => ?_) ?_
  · go_simp
  try simp only [Act.put, List.setIfInBounds_toArray, List.set_cons_zero, List.set_cons_succ]
  refine doneG (by kernel_rfl) (fun w3 hg3 => ?_)
  replace c0 := hg3.cell c0
  replace c1 := hg3.cell c1
  replace c2 := hg3.cell c2
  replace c3 := hg3.cell c3
  replace z0 := hg3.cell z0
  replace z1 := hg3.cell z1
  replace HD := hid (HD.out.trans hg3)
  clear hg3 C1 C2 e2
  by_cases hlt : (Lm : Int) < 2 * (Lo : Int)
  · rw [decide_eq_true hlt]
    clear HL hmn hlt
    go_upto_region 3 with fail
    refine wp_region_G ?_
    replace c0 := (G.drew w3).cell c0
    replace c1 := (G.drew w3).cell c1
    replace c2 := (G.drew w3).cell c2
    replace c3 := (G.drew w3).cell c3
    replace z0 := (G.drew w3).cell z0
    replace z1 := (G.drew w3).cell z1
    replace HD := hid (HD.out.trans (G.drew w3))
    generalize w3.drew = w4 at *
    refine takeG 0 21 (.pointer ax) rfl rfl (by kernel_rfl) (by kernel_rfl) (by kernel_rfl) (fun _ _ _ h => h) (by kernel_rfl) (fun wz hz => ?_) ?_
    · rfl
    try simp only [Act.put, List.setIfInBounds_toArray, List.set_cons_zero, List.set_cons_succ]
    refine takeG 1 22 (.agg #[.string nm, .pointer (some ⟨p, 0, none⟩)]) rfl rfl (by kernel_rfl) (by kernel_rfl) (by kernel_rfl) (fun _ _ _ h => h) (by kernel_rfl) (fun wz hz => ?_) ?_
    · have y0 := hz.cell z0; have y1 := hz.cell z1; go_simp
    try simp only [Act.put, List.setIfInBounds_toArray, List.set_cons_zero, List.set_cons_succ]
    refine takeG 2 23 (.pointer am) rfl rfl (by kernel_rfl) (by kernel_rfl) (by kernel_rfl) (fun _ _ _ h => h) (by kernel_rfl) (fun wz hz => ?_) ?_
    · rfl
    try simp only [Act.put, List.setIfInBounds_toArray, List.set_cons_zero, List.set_cons_succ]
    refine takeG 4 25 (.pointer (some ⟨q, 0, none⟩)) rfl rfl (by kernel_rfl) (by kernel_rfl) (by kernel_rfl) (fun _ _ _ h => h) (by kernel_rfl) (fun wz hz => ?_) ?_
    · rfl
    try simp only [Act.put, List.setIfInBounds_toArray, List.set_cons_zero, List.set_cons_succ]
    refine takeG 5 26 (.pointer (some ⟨q, 0, none⟩)) rfl rfl (by kernel_rfl) (by kernel_rfl) (by kernel_rfl) (fun _ _ _ h => h) (by kernel_rfl) (fun wz hz => ?_) ?_
    · go_simp
    try simp only [Act.put, List.setIfInBounds_toArray, List.set_cons_zero, List.set_cons_succ]
    refine takeG 6 27 (.pointer (some ⟨q, 0, none⟩)) rfl rfl (by kernel_rfl) (by kernel_rfl) (by kernel_rfl) (fun _ _ _ h => h) (by kernel_rfl) (fun wz hz => ?_) ?_
    · go_simp
    try simp only [Act.put, List.setIfInBounds_toArray, List.set_cons_zero, List.set_cons_succ]
    refine takeG 7 28 (.agg #[.string n1, .pointer (some ⟨p1, 0, none⟩)]) rfl rfl (by kernel_rfl) (by kernel_rfl) (by kernel_rfl) (fun _ _ _ h => h) (by kernel_rfl) (fun wz hz => ?_) ?_
    · have y0 := hz.cell c0; have y1 := hz.cell c1; go_simp
    try simp only [Act.put, List.setIfInBounds_toArray, List.set_cons_zero, List.set_cons_succ]
    refine takeG 8 29 (.pointer (some ⟨q, 0, none⟩)) rfl rfl (by kernel_rfl) (by kernel_rfl) (by kernel_rfl) (fun _ _ _ h => h) (by kernel_rfl) (fun wz hz => ?_) ?_
    · rfl
    try simp only [Act.put, List.setIfInBounds_toArray, List.set_cons_zero, List.set_cons_succ]
    refine takeG 9 30 (.pointer (some ⟨q, 0, none⟩)) rfl rfl (by kernel_rfl) (by kernel_rfl) (by kernel_rfl) (fun _ _ _ h => h) (by kernel_rfl) (fun wz hz => ?_) ?_
    · go_simp
    try simp only [Act.put, List.setIfInBounds_toArray, List.set_cons_zero, List.set_cons_succ]
    refine takeG 10 31 (.pointer (some ⟨q, 3, none⟩)) rfl rfl (by kernel_rfl) (by kernel_rfl) (by kernel_rfl) (fun _ _ _ h => h) (by kernel_rfl) (fun wz hz => ?_) ?_
    · go_simp
    try simp only [Act.put, List.setIfInBounds_toArray, List.set_cons_zero, List.set_cons_succ]
    refine takeG 11 32 (.pointer ao) rfl rfl (by kernel_rfl) (by kernel_rfl) (by kernel_rfl) (fun _ _ _ h => h) (by kernel_rfl) (fun wz hz => ?_) ?_
    · have y0 := hz.cell c3; go_simp
    try simp only [Act.put, List.setIfInBounds_toArray, List.set_cons_zero, List.set_cons_succ]
    refine readyG [3] (by kernel_rfl) (by simp) fun w5 hg5 => ?_
    have hG5 := HD.out.trans hg5
    refine AllG.call 3 24 87 #[.pointer ax, .agg #[.string nm, .pointer (some ⟨p, 0, none⟩)], .pointer am] rfl rfl (by kernel_rfl) (by go_simp) ((joinF_any (HA.out.1.grow hG5) (HA.out.2.1.grow hG5) (HA.out.2.2.2.1.grow hG5) (by omega) (HP.out _ hG5)).mono ?_) AllG.nil
    rintro e w6 ⟨q1, rfl, hq1, hg5'⟩
    refine ⟨_, rfl, hg5', ?_⟩
    try simp only [Act.put, List.setIfInBounds_toArray, List.set_cons_zero, List.set_cons_succ]
    have hG5b := hG5.trans hg5'
    refine readyG [12] (by kernel_rfl) (by simp) fun w7 hg6 => ?_
    have hG6 := hG5b.trans hg6
    refine AllG.call 12 33 87 #[.pointer (some ⟨q1, 0, none⟩), .agg #[.string n1, .pointer (some ⟨p1, 0, none⟩)], .pointer ao] rfl rfl (by kernel_rfl) (by go_simp) ((joinF_any (hq1.grow hg6) (HA.out.2.2.1.grow hG6) (HA.out.2.2.2.2.grow hG6) (by rw [F.app_size, F.size]; omega) (HP.out _ hG6)).mono ?_) AllG.nil
    rintro e w8 ⟨q2, rfl, hq2, hg7⟩
    refine ⟨_, rfl, hg7, ?_⟩
    try simp only [Act.put, List.setIfInBounds_toArray, List.set_cons_zero, List.set_cons_succ]
    have hG7 := hG6.trans hg7
    refine takeG 13 6 (.pointer (some ⟨q2, 0, none⟩)) rfl rfl (by kernel_rfl) (by kernel_rfl) (by kernel_rfl) (fun _ _ _ h => h) (by kernel_rfl) (fun wz hz => ?_) ?_
    · rfl
    try simp only [Act.put, List.setIfInBounds_toArray, List.set_cons_zero, List.set_cons_succ]
    refine doneG (by kernel_rfl) (fun w9 hg9 => ?_)
    have HQ := hid (⟨hq2.grow hg9, hG7.trans hg9⟩ : _ ∧ _)
    clear hq2 hg9 hq1
    go_wp2
    go_ret
    refine ⟨q2, rfl, ?_, HQ.out.2⟩
    have h := HQ.out.1
    rwa [show (fx.app (.cons nm v m fk fm)).app (.cons n1 v1 m1 f1 fo) = fx.app (.cons nm v m fk (fm.app (.cons n1 v1 m1 f1 fo))) from by rw [F.app_assoc]; rfl] at h
  · rw [decide_eq_false hlt]
    have hne : ∃ qm, am = some ⟨qm, 0, none⟩ := by
      rcases hmn with ⟨_, h⟩ | h
      · exfalso
        obtain ⟨h1, h2⟩ := HL.out
        rw [h] at h1
        simp [F.len] at h1
        omega
      · exact h
    obtain ⟨qm, rfl⟩ := hne
    obtain ⟨n2, p2, v2, m2, f2, aa, ab, fa, fb, d0, d1, d2, d3, h2, ha, hb, efm⟩ := (HA.out.2.1.grow HD.out).node
    subst efm
    have hsz2 : fx.size + (fa.size + f2.size + fb.size + 1 + f1.size + fo.size + 1) + fk.size ≤ 1000000 := by
      rw [F.app_size, F.size] at hsz
      omega
    have HB := hid (⟨h2, ha, hb⟩ : AtTF P w3 p2 v2 m2 f2 ∧ AtF P w3 (.pointer aa) fa ∧ AtF P w3 (.pointer ab) fb)
    clear HL hmn hlt h2 ha hb hsz
    go_upto_region 4 with fail
    refine wp_region_G ?_
    replace c0 := (G.drew w3).cell c0
    replace c1 := (G.drew w3).cell c1
    replace c2 := (G.drew w3).cell c2
    replace c3 := (G.drew w3).cell c3
    replace z0 := (G.drew w3).cell z0
    replace z1 := (G.drew w3).cell z1
    replace d0 := (G.drew w3).cell d0
    replace d1 := (G.drew w3).cell d1
    replace d2 := (G.drew w3).cell d2
    replace d3 := (G.drew w3).cell d3
    have HE := hid (G.drew w3)
    replace HD := hid (HD.out.trans (G.drew w3))
    generalize w3.drew = w4 at *
    refine takeG 0 34 (.pointer ax) rfl rfl (by kernel_rfl) (by kernel_rfl) (by kernel_rfl) (fun _ _ _ h => h) (by kernel_rfl) (fun wz hz => ?_) ?_
    · rfl
    try simp only [Act.put, List.setIfInBounds_toArray, List.set_cons_zero, List.set_cons_succ]
    refine takeG 1 35 (.agg #[.string nm, .pointer (some ⟨p, 0, none⟩)]) rfl rfl (by kernel_rfl) (by kernel_rfl) (by kernel_rfl) (fun _ _ _ h => h) (by kernel_rfl) (fun wz hz => ?_) ?_
    · have y0 := hz.cell z0; have y1 := hz.cell z1; go_simp
    try simp only [Act.put, List.setIfInBounds_toArray, List.set_cons_zero, List.set_cons_succ]
    refine takeG 2 36 (.pointer (some ⟨qm, 0, none⟩)) rfl rfl (by kernel_rfl) (by kernel_rfl) (by kernel_rfl) (fun _ _ _ h => h) (by kernel_rfl) (fun wz hz => ?_) ?_
    · rfl
    try simp only [Act.put, List.setIfInBounds_toArray, List.set_cons_zero, List.set_cons_succ]
    refine takeG 3 37 (.pointer (some ⟨qm, 0, none⟩)) rfl rfl (by kernel_rfl) (by kernel_rfl) (by kernel_rfl) (fun _ _ _ h => h) (by kernel_rfl) (fun wz hz => ?_) ?_
    · go_simp
    try simp only [Act.put, List.setIfInBounds_toArray, List.set_cons_zero, List.set_cons_succ]
    refine takeG 4 38 (.pointer (some ⟨qm, 2, none⟩)) rfl rfl (by kernel_rfl) (by kernel_rfl) (by kernel_rfl) (fun _ _ _ h => h) (by kernel_rfl) (fun wz hz => ?_) ?_
    · go_simp
    try simp only [Act.put, List.setIfInBounds_toArray, List.set_cons_zero, List.set_cons_succ]
    refine takeG 5 39 (.pointer aa) rfl rfl (by kernel_rfl) (by kernel_rfl) (by kernel_rfl) (fun _ _ _ h => h) (by kernel_rfl) (fun wz hz => ?_) ?_
    · have y0 := hz.cell d2; go_simp
    try simp only [Act.put, List.setIfInBounds_toArray, List.set_cons_zero, List.set_cons_succ]
    refine takeG 7 41 (.pointer (some ⟨qm, 0, none⟩)) rfl rfl (by kernel_rfl) (by kernel_rfl) (by kernel_rfl) (fun _ _ _ h => h) (by kernel_rfl) (fun wz hz => ?_) ?_
    · rfl
    try simp only [Act.put, List.setIfInBounds_toArray, List.set_cons_zero, List.set_cons_succ]
    refine takeG 8 42 (.pointer (some ⟨qm, 0, none⟩)) rfl rfl (by kernel_rfl) (by kernel_rfl) (by kernel_rfl) (fun _ _ _ h => h) (by kernel_rfl) (fun wz hz => ?_) ?_
    · go_simp
    try simp only [Act.put, List.setIfInBounds_toArray, List.set_cons_zero, List.set_cons_succ]
    refine takeG 9 43 (.pointer (some ⟨qm, 0, none⟩)) rfl rfl (by kernel_rfl) (by kernel_rfl) (by kernel_rfl) (fun _ _ _ h => h) (by kernel_rfl) (fun wz hz => ?_) ?_
    · go_simp
    try simp only [Act.put, List.setIfInBounds_toArray, List.set_cons_zero, List.set_cons_succ]
    refine takeG 10 44 (.agg #[.string n2, .pointer (some ⟨p2, 0, none⟩)]) rfl rfl (by kernel_rfl) (by kernel_rfl) (by kernel_rfl) (fun _ _ _ h => h) (by kernel_rfl) (fun wz hz => ?_) ?_
    · have y0 := hz.cell d0; have y1 := hz.cell d1; go_simp
    try simp only [Act.put, List.setIfInBounds_toArray, List.set_cons_zero, List.set_cons_succ]
    refine takeG 11 45 (.pointer (some ⟨qm, 0, none⟩)) rfl rfl (by kernel_rfl) (by kernel_rfl) (by kernel_rfl) (fun _ _ _ h => h) (by kernel_rfl) (fun wz hz => ?_) ?_
    · rfl
    try simp only [Act.put, List.setIfInBounds_toArray, List.set_cons_zero, List.set_cons_succ]
    refine takeG 12 46 (.pointer (some ⟨qm, 0, none⟩)) rfl rfl (by kernel_rfl) (by kernel_rfl) (by kernel_rfl) (fun _ _ _ h => h) (by kernel_rfl) (fun wz hz => ?_) ?_
    · go_simp
    try simp only [Act.put, List.setIfInBounds_toArray, List.set_cons_zero, List.set_cons_succ]
    refine takeG 13 47 (.pointer (some ⟨qm, 3, none⟩)) rfl rfl (by kernel_rfl) (by kernel_rfl) (by kernel_rfl) (fun _ _ _ h => h) (by kernel_rfl) (fun wz hz => ?_) ?_
    · go_simp
    try simp only [Act.put, List.setIfInBounds_toArray, List.set_cons_zero, List.set_cons_succ]
    refine takeG 14 48 (.pointer ab) rfl rfl (by kernel_rfl) (by kernel_rfl) (by kernel_rfl) (fun _ _ _ h => h) (by kernel_rfl) (fun wz hz => ?_) ?_
    · have y0 := hz.cell d3; go_simp
    try simp only [Act.put, List.setIfInBounds_toArray, List.set_cons_zero, List.set_cons_succ]
    refine takeG 15 49 (.pointer (some ⟨q, 0, none⟩)) rfl rfl (by kernel_rfl) (by kernel_rfl) (by kernel_rfl) (fun _ _ _ h => h) (by kernel_rfl) (fun wz hz => ?_) ?_
    · rfl
    try simp only [Act.put, List.setIfInBounds_toArray, List.set_cons_zero, List.set_cons_succ]
    refine takeG 16 50 (.pointer (some ⟨q, 0, none⟩)) rfl rfl (by kernel_rfl) (by kernel_rfl) (by kernel_rfl) (fun _ _ _ h => h) (by kernel_rfl) (fun wz hz => ?_) ?_
    · go_simp
    try simp only [Act.put, List.setIfInBounds_toArray, List.set_cons_zero, List.set_cons_succ]
    refine takeG 17 51 (.pointer (some ⟨q, 0, none⟩)) rfl rfl (by kernel_rfl) (by kernel_rfl) (by kernel_rfl) (fun _ _ _ h => h) (by kernel_rfl) (fun wz hz => ?_) ?_
    · go_simp
    try simp only [Act.put, List.setIfInBounds_toArray, List.set_cons_zero, List.set_cons_succ]
    refine takeG 18 52 (.agg #[.string n1, .pointer (some ⟨p1, 0, none⟩)]) rfl rfl (by kernel_rfl) (by kernel_rfl) (by kernel_rfl) (fun _ _ _ h => h) (by kernel_rfl) (fun wz hz => ?_) ?_
    · have y0 := hz.cell c0; have y1 := hz.cell c1; go_simp
    try simp only [Act.put, List.setIfInBounds_toArray, List.set_cons_zero, List.set_cons_succ]
    refine takeG 19 53 (.pointer (some ⟨q, 0, none⟩)) rfl rfl (by kernel_rfl) (by kernel_rfl) (by kernel_rfl) (fun _ _ _ h => h) (by kernel_rfl) (fun wz hz => ?_) ?_
    · rfl
    try simp only [Act.put, List.setIfInBounds_toArray, List.set_cons_zero, List.set_cons_succ]
    refine takeG 20 54 (.pointer (some ⟨q, 0, none⟩)) rfl rfl (by kernel_rfl) (by kernel_rfl) (by kernel_rfl) (fun _ _ _ h => h) (by kernel_rfl) (fun wz hz => ?_) ?_
    · go_simp
    try simp only [Act.put, List.setIfInBounds_toArray, List.set_cons_zero, List.set_cons_succ]
    refine takeG 21 55 (.pointer (some ⟨q, 3, none⟩)) rfl rfl (by kernel_rfl) (by kernel_rfl) (by kernel_rfl) (fun _ _ _ h => h) (by kernel_rfl) (fun wz hz => ?_) ?_
    · go_simp
    try simp only [Act.put, List.setIfInBounds_toArray, List.set_cons_zero, List.set_cons_succ]
    refine takeG 22 56 (.pointer ao) rfl rfl (by kernel_rfl) (by kernel_rfl) (by kernel_rfl) (fun _ _ _ h => h) (by kernel_rfl) (fun wz hz => ?_) ?_
    · have y0 := hz.cell c3; go_simp
    try simp only [Act.put, List.setIfInBounds_toArray, List.set_cons_zero, List.set_cons_succ]
    have FIN : ∀ (qa qb : Nat) (W : World), G w3 W → G w W → AtF P W (.pointer (some ⟨qa, 0, none⟩)) (fx.app (.cons nm v m fk fa)) → AtF P W (.pointer (some ⟨qb, 0, none⟩)) (fb.app (.cons n1 v1 m1 f1 fo)) → Calls Tryz.prog 87 #[.pointer (some ⟨qa, 0, none⟩), .agg #[.string n2, .pointer (some ⟨p2, 0, none⟩)], .pointer (some ⟨qb, 0, none⟩)] W fun e w' => ∃ q3, e = .returned (.pointer (some ⟨q3, 0, none⟩)) ∧ AtF P w' (.pointer (some ⟨q3, 0, none⟩)) (fx.app (.cons nm v m fk ((fa.app (.cons n2 v2 m2 f2 fb)).app (.cons n1 v1 m1 f1 fo)))) ∧ G W w' := by
      intro qa qb W hE hW h1 h2
      have h := joinF_any h1 h2 (nm := n2) (HB.out.1.grow hE) (by rw [F.app_size, F.app_size, F.size, F.size]; omega) (HP.out _ hW)
      rwa [show (fx.app (.cons nm v m fk fa)).app (.cons n2 v2 m2 f2 (fb.app (.cons n1 v1 m1 f1 fo))) = fx.app (.cons nm v m fk ((fa.app (.cons n2 v2 m2 f2 fb)).app (.cons n1 v1 m1 f1 fo))) by simp only [F.app_assoc, F.app]] at h
    refine readyG [6] (by kernel_rfl) (by simp) fun w5 hg5 => ?_
    have hE5 := HE.out.trans hg5
    have hG5 := HD.out.trans hg5
    refine AllG.call 6 40 87 #[.pointer ax, .agg #[.string nm, .pointer (some ⟨p, 0, none⟩)], .pointer aa] rfl rfl (by kernel_rfl) (by go_simp) ((joinF_any (HA.out.1.grow hG5) (HB.out.2.1.grow hE5) (HA.out.2.2.2.1.grow hG5) (by omega) (HP.out _ hG5)).mono ?_) AllG.nil
    rintro e w6 ⟨qa, rfl, h6, hg6⟩
    refine ⟨_, rfl, hg6, ?_⟩
    try simp only [Act.put, List.setIfInBounds_toArray, List.set_cons_zero, List.set_cons_succ]
    refine readyG [23] (by kernel_rfl) (by simp) fun w7 hg7 => ?_
    have hE7 := (hE5.trans hg6).trans hg7
    have hG7 := (hG5.trans hg6).trans hg7
    refine AllG.call 23 57 87 #[.pointer ab, .agg #[.string n1, .pointer (some ⟨p1, 0, none⟩)], .pointer ao] rfl rfl (by kernel_rfl) (by go_simp) ((joinF_any (HB.out.2.2.grow hE7) (HA.out.2.2.1.grow hG7) (HA.out.2.2.2.2.grow hG7) (by omega) (HP.out _ hG7)).mono ?_) AllG.nil
    rintro e w8 ⟨qb, rfl, h8, hg8⟩
    refine ⟨_, rfl, hg8, ?_⟩
    try simp only [Act.put, List.setIfInBounds_toArray, List.set_cons_zero, List.set_cons_succ]
    refine readyG [24] (by kernel_rfl) (by simp) fun w9 hg9 => ?_
    refine AllG.call 24 58 87 #[.pointer (some ⟨qa, 0, none⟩), .agg #[.string n2, .pointer (some ⟨p2, 0, none⟩)], .pointer (some ⟨qb, 0, none⟩)] rfl rfl (by kernel_rfl) (by go_simp) ((FIN qa qb w9 ((hE7.trans hg8).trans hg9) ((hG7.trans hg8).trans hg9) (((h6.grow hg7).grow hg8).grow hg9) (h8.grow hg9)).mono ?_) AllG.nil
    rintro e w10 ⟨q3, rfl, h10, hg10⟩
    refine ⟨_, rfl, hg10, ?_⟩
    try simp only [Act.put, List.setIfInBounds_toArray, List.set_cons_zero, List.set_cons_succ]
    have hG10 := ((hG7.trans hg8).trans hg9).trans hg10
    refine takeG 25 6 (.pointer (some ⟨q3, 0, none⟩)) rfl rfl (by kernel_rfl) (by kernel_rfl) (by kernel_rfl) (fun _ _ _ h => h) (by kernel_rfl) (fun wz hz => ?_) ?_
    · rfl
    try simp only [Act.put, List.setIfInBounds_toArray, List.set_cons_zero, List.set_cons_succ]
    refine doneG (by kernel_rfl) (fun w11 hg11 => ?_)
    have HQ := hid (⟨h10.grow hg11, hG10.trans hg11⟩ : _ ∧ _)
    clear h10 hg11 h8 h6
    go_wp2
    go_ret
    exact ⟨q3, rfl, HQ.out.1, HQ.out.2⟩
theorem turnB_any {ax : Option Addr} {q p : Nat} {nm : ByteArray} {v : Vd} {m : Md} {fx f fk : F} {w : World} (hx : AtF P w (.pointer ax) fx) (hq : AtF P w (.pointer (some ⟨q, 0, none⟩)) f) (hk : AtTF P w p v m fk) (hs : fx.size + f.size + fk.size ≤ 1000000) (hP : ∀ b, w.heap.size ≤ b → P b) :
    Calls Tryz.prog 145 #[.pointer (some ⟨q, 0, none⟩), .agg #[.string nm, .pointer (some ⟨p, 0, none⟩)], .pointer ax] w (EvenTo P w (f.app (.cons nm v m fk fx))) := by
  obtain ⟨n1, p1, v1, m1, f1, ao, am, fo, fm, c0, c1, c2, c3, h1, ho, hm, rfl⟩ := hq.node
  have hsz : fx.size + (fm.size + f1.size + fo.size + 1) + fk.size ≤ 1000000 := by
    rw [F.app_size, F.size] at hs
    omega
  have lm := F.len_le_size fm
  have lo := F.len_le_size fo
  have HA := hid (⟨hx, hm, ho, hk, h1⟩ : AtF P w (.pointer ax) fx ∧ AtF P w (.pointer am) fm ∧ AtF P w (.pointer ao) fo ∧ AtTF P w p v m fk ∧ AtTF P w p1 v1 m1 f1)
  have C1 := hid (fun (W : World) (hW : G w W) => Calls.grown (weight_any (hm.grow hW) (by omega)))
  have C2 := hid (fun (W : World) (hW : G w W) => Calls.grown (weight_any (ho.grow hW) (by omega)))
  have hmn : am = none ∧ fm = .nil ∨ ∃ qm, am = some ⟨qm, 0, none⟩ := by
    cases am with
    | none => exact .inl ⟨rfl, hm.isNil⟩
    | some a => obtain ⟨qm, rfl⟩ := hm.addr; exact .inr ⟨qm, rfl⟩
  have HP : Hid (∀ W, G w W → ∀ b, W.heap.size ≤ b → P b) := fun W hW b hb => hP b (Nat.le_trans hW.size hb)
  clear hx hm ho hk h1 hs hq hP
  have hb0 := lies_new w #[.string nm, .pointer (some ⟨p, 0, none⟩)] 84
  have z0 := lies_cell hb0 0 (.string nm) rfl
  have z1 := lies_cell hb0 1 (.pointer (some ⟨p, 0, none⟩)) rfl
  have HG : Hid (G w (w.alloc (.cells #[.string nm, .pointer (some ⟨p, 0, none⟩)] 84))) := G.alloc w _
  replace c0 := HG.out.cell c0
  replace c1 := HG.out.cell c1
  replace c2 := HG.out.cell c2
  replace c3 := HG.out.cell c3
  clear hb0
  go_enter Tryz.func145, Tryz.ntmps145
  go_upto_region 2 with fail
  generalize hH : w.heap.size = H at *
  generalize (w.alloc (.cells #[.string nm, .pointer (some ⟨p, 0, none⟩)] 84)) = w1 at *
  refine wp_region_G ?_
  replace c0 := (G.drew w1).cell c0
  replace c1 := (G.drew w1).cell c1
  replace c2 := (G.drew w1).cell c2
  replace c3 := (G.drew w1).cell c3
  replace z0 := (G.drew w1).cell z0
  replace z1 := (G.drew w1).cell z1
  have HD : Hid (G w w1.drew) := HG.out.trans (G.drew w1)
  generalize w1.drew = w2 at *
  clear HG
  have HLm := hid (rfl : fm.len = fm.len)
  obtain ⟨Lm, hLm⟩ : ∃ L, fm.len + 1 = L := ⟨_, rfl⟩
  obtain ⟨Lo, hLo⟩ : ∃ L, fo.len + 1 = L := ⟨_, rfl⟩
  rw [hLm] at C1
  rw [hLo] at C2
  have e2 : IntKind.i64.wrap (2 * (Lo : Int)) = 2 * (Lo : Int) := by rw [IntKind.wrap_i64]; omega
  have HL := hid (⟨hLm, hLo⟩ : fm.len + 1 = Lm ∧ fo.len + 1 = Lo)
  clear hLm hLo lm lo HLm
  refine takeG 0 12 (.pointer am) rfl rfl (by kernel_rfl) (by kernel_rfl) (by kernel_rfl) (fun _ _ _ h => h) (by kernel_rfl) (fun wz hz => ?_) ?_
  · rfl
  try simp only [Act.put, List.setIfInBounds_toArray, List.set_cons_zero, List.set_cons_succ]
  refine callG 1 13 (.int .i64 Lm) 143 #[.pointer am] rfl rfl (by kernel_rfl) (by kernel_rfl) (by kernel_rfl) (fun _ _ _ h => h) (by kernel_rfl) (fun wz => by go_simp) (fun wz hz => ?_) ?_
  · exact C1.out wz (HD.out.trans hz)
  try simp only [Act.put, List.setIfInBounds_toArray, List.set_cons_zero, List.set_cons_succ]
  refine takeG 2 14 (.pointer (some ⟨q, 0, none⟩)) rfl rfl (by kernel_rfl) (by kernel_rfl) (by kernel_rfl) (fun _ _ _ h => h) (by kernel_rfl) (fun wz hz => ?_) ?_
  · rfl
  try simp only [Act.put, List.setIfInBounds_toArray, List.set_cons_zero, List.set_cons_succ]
  refine takeG 3 15 (.pointer (some ⟨q, 0, none⟩)) rfl rfl (by kernel_rfl) (by kernel_rfl) (by kernel_rfl) (fun _ _ _ h => h) (by kernel_rfl) (fun wz hz => ?_) ?_
  · go_simp
  try simp only [Act.put, List.setIfInBounds_toArray, List.set_cons_zero, List.set_cons_succ]
  refine takeG 4 16 (.pointer (some ⟨q, 2, none⟩)) rfl rfl (by kernel_rfl) (by kernel_rfl) (by kernel_rfl) (fun _ _ _ h => h) (by kernel_rfl) (fun wz hz => ?_) ?_
  · go_simp
  try simp only [Act.put, List.setIfInBounds_toArray, List.set_cons_zero, List.set_cons_succ]
  refine takeG 5 17 (.pointer ao) rfl rfl (by kernel_rfl) (by kernel_rfl) (by kernel_rfl) (fun _ _ _ h => h) (by kernel_rfl) (fun wz hz => ?_) ?_
  · have y0 := hz.cell c2; go_simp
  try simp only [Act.put, List.setIfInBounds_toArray, List.set_cons_zero, List.set_cons_succ]
  refine callG 6 18 (.int .i64 Lo) 143 #[.pointer ao] rfl rfl (by kernel_rfl) (by kernel_rfl) (by kernel_rfl) (fun _ _ _ h => h) (by kernel_rfl) (fun wz => by go_simp) (fun wz hz => ?_) ?_
  · exact C2.out wz (HD.out.trans hz)
  try simp only [Act.put, List.setIfInBounds_toArray, List.set_cons_zero, List.set_cons_succ]
  refine takeG 7 19 (.int .i64 (2 * (Lo : Int))) rfl rfl (by kernel_rfl) (by kernel_rfl) (by kernel_rfl) (fun _ _ _ h => h) (by kernel_rfl) (fun wz hz => ?_) ?_
  · go_simp
  try simp only [Act.put, List.setIfInBounds_toArray, List.set_cons_zero, List.set_cons_succ]
  refine takeG 8 20 (.bool (decide ((Lm : Int) < 2 * (Lo : Int)))) rfl rfl (by kernel_rfl) (by kernel_rfl) (by kernel_rfl) (fun _ _ _ h => h) (by kernel_rfl) (fun wz hz => ?_) ?_
  · go_simp
  try simp only [Act.put, List.setIfInBounds_toArray, List.set_cons_zero, List.set_cons_succ]
  refine doneG (by kernel_rfl) (fun w3 hg3 => ?_)
  replace c0 := hg3.cell c0
  replace c1 := hg3.cell c1
  replace c2 := hg3.cell c2
  replace c3 := hg3.cell c3
  replace z0 := hg3.cell z0
  replace z1 := hg3.cell z1
  replace HD := hid (HD.out.trans hg3)
  clear hg3 C1 C2 e2
  by_cases hlt : (Lm : Int) < 2 * (Lo : Int)
  · rw [decide_eq_true hlt]
    clear HL hmn hlt
    go_upto_region 3 with fail
    refine wp_region_G ?_
    replace c0 := (G.drew w3).cell c0
    replace c1 := (G.drew w3).cell c1
    replace c2 := (G.drew w3).cell c2
    replace c3 := (G.drew w3).cell c3
    replace z0 := (G.drew w3).cell z0
    replace z1 := (G.drew w3).cell z1
    replace HD := hid (HD.out.trans (G.drew w3))
    generalize w3.drew = w4 at *
    refine takeG 0 21 (.pointer (some ⟨q, 0, none⟩)) rfl rfl (by kernel_rfl) (by kernel_rfl) (by kernel_rfl) (fun _ _ _ h => h) (by kernel_rfl) (fun wz hz => ?_) ?_
    · rfl
    try simp only [Act.put, List.setIfInBounds_toArray, List.set_cons_zero, List.set_cons_succ]
    refine takeG 1 22 (.pointer (some ⟨q, 0, none⟩)) rfl rfl (by kernel_rfl) (by kernel_rfl) (by kernel_rfl) (fun _ _ _ h => h) (by kernel_rfl) (fun wz hz => ?_) ?_
    · go_simp
    try simp only [Act.put, List.setIfInBounds_toArray, List.set_cons_zero, List.set_cons_succ]
    refine takeG 2 23 (.pointer (some ⟨q, 2, none⟩)) rfl rfl (by kernel_rfl) (by kernel_rfl) (by kernel_rfl) (fun _ _ _ h => h) (by kernel_rfl) (fun wz hz => ?_) ?_
    · go_simp
    try simp only [Act.put, List.setIfInBounds_toArray, List.set_cons_zero, List.set_cons_succ]
    refine takeG 3 24 (.pointer ao) rfl rfl (by kernel_rfl) (by kernel_rfl) (by kernel_rfl) (fun _ _ _ h => h) (by kernel_rfl) (fun wz hz => ?_) ?_
    · have y0 := hz.cell c2; go_simp
    try simp only [Act.put, List.setIfInBounds_toArray, List.set_cons_zero, List.set_cons_succ]
    refine takeG 4 25 (.pointer (some ⟨q, 0, none⟩)) rfl rfl (by kernel_rfl) (by kernel_rfl) (by kernel_rfl) (fun _ _ _ h => h) (by kernel_rfl) (fun wz hz => ?_) ?_
    · rfl
    try simp only [Act.put, List.setIfInBounds_toArray, List.set_cons_zero, List.set_cons_succ]
    refine takeG 5 26 (.pointer (some ⟨q, 0, none⟩)) rfl rfl (by kernel_rfl) (by kernel_rfl) (by kernel_rfl) (fun _ _ _ h => h) (by kernel_rfl) (fun wz hz => ?_) ?_
    · go_simp
    try simp only [Act.put, List.setIfInBounds_toArray, List.set_cons_zero, List.set_cons_succ]
    refine takeG 6 27 (.pointer (some ⟨q, 0, none⟩)) rfl rfl (by kernel_rfl) (by kernel_rfl) (by kernel_rfl) (fun _ _ _ h => h) (by kernel_rfl) (fun wz hz => ?_) ?_
    · go_simp
    try simp only [Act.put, List.setIfInBounds_toArray, List.set_cons_zero, List.set_cons_succ]
    refine takeG 7 28 (.agg #[.string n1, .pointer (some ⟨p1, 0, none⟩)]) rfl rfl (by kernel_rfl) (by kernel_rfl) (by kernel_rfl) (fun _ _ _ h => h) (by kernel_rfl) (fun wz hz => ?_) ?_
    · have y0 := hz.cell c0; have y1 := hz.cell c1; go_simp
    try simp only [Act.put, List.setIfInBounds_toArray, List.set_cons_zero, List.set_cons_succ]
    refine takeG 8 29 (.pointer am) rfl rfl (by kernel_rfl) (by kernel_rfl) (by kernel_rfl) (fun _ _ _ h => h) (by kernel_rfl) (fun wz hz => ?_) ?_
    · rfl
    try simp only [Act.put, List.setIfInBounds_toArray, List.set_cons_zero, List.set_cons_succ]
    refine takeG 9 30 (.agg #[.string nm, .pointer (some ⟨p, 0, none⟩)]) rfl rfl (by kernel_rfl) (by kernel_rfl) (by kernel_rfl) (fun _ _ _ h => h) (by kernel_rfl) (fun wz hz => ?_) ?_
    · have y0 := hz.cell z0; have y1 := hz.cell z1; go_simp
    try simp only [Act.put, List.setIfInBounds_toArray, List.set_cons_zero, List.set_cons_succ]
    refine takeG 10 31 (.pointer ax) rfl rfl (by kernel_rfl) (by kernel_rfl) (by kernel_rfl) (fun _ _ _ h => h) (by kernel_rfl) (fun wz hz => ?_) ?_
    · rfl
    try simp only [Act.put, List.setIfInBounds_toArray, List.set_cons_zero, List.set_cons_succ]
    refine readyG [11] (by kernel_rfl) (by simp) fun w5 hg5 => ?_
    have hG5 := HD.out.trans hg5
    refine AllG.call 11 32 87 #[.pointer am, .agg #[.string nm, .pointer (some ⟨p, 0, none⟩)], .pointer ax] rfl rfl (by kernel_rfl) (by go_simp) ((joinF_any (HA.out.2.1.grow hG5) (HA.out.1.grow hG5) (HA.out.2.2.2.1.grow hG5) (by omega) (HP.out _ hG5)).mono ?_) AllG.nil
    rintro e w6 ⟨q1, rfl, hq1, hg5'⟩
    refine ⟨_, rfl, hg5', ?_⟩
    try simp only [Act.put, List.setIfInBounds_toArray, List.set_cons_zero, List.set_cons_succ]
    have hG5b := hG5.trans hg5'
    refine readyG [12] (by kernel_rfl) (by simp) fun w7 hg6 => ?_
    have hG6 := hG5b.trans hg6
    refine AllG.call 12 33 87 #[.pointer ao, .agg #[.string n1, .pointer (some ⟨p1, 0, none⟩)], .pointer (some ⟨q1, 0, none⟩)] rfl rfl (by kernel_rfl) (by go_simp) ((joinF_any (HA.out.2.2.1.grow hG6) (hq1.grow hg6) (HA.out.2.2.2.2.grow hG6) (by rw [F.app_size, F.size]; omega) (HP.out _ hG6)).mono ?_) AllG.nil
    rintro e w8 ⟨q2, rfl, hq2, hg7⟩
    refine ⟨_, rfl, hg7, ?_⟩
    try simp only [Act.put, List.setIfInBounds_toArray, List.set_cons_zero, List.set_cons_succ]
    have hG7 := hG6.trans hg7
    refine takeG 13 6 (.pointer (some ⟨q2, 0, none⟩)) rfl rfl (by kernel_rfl) (by kernel_rfl) (by kernel_rfl) (fun _ _ _ h => h) (by kernel_rfl) (fun wz hz => ?_) ?_
    · rfl
    try simp only [Act.put, List.setIfInBounds_toArray, List.set_cons_zero, List.set_cons_succ]
    refine doneG (by kernel_rfl) (fun w9 hg9 => ?_)
    have HQ := hid (⟨hq2.grow hg9, hG7.trans hg9⟩ : _ ∧ _)
    clear hq2 hg9 hq1
    go_wp2
    go_ret
    refine ⟨q2, rfl, ?_, HQ.out.2⟩
    have h := HQ.out.1
    rwa [show fo.app (.cons n1 v1 m1 f1 (fm.app (.cons nm v m fk fx))) = (fo.app (.cons n1 v1 m1 f1 fm)).app (.cons nm v m fk fx) from by rw [F.app_assoc]; rfl] at h
  · rw [decide_eq_false hlt]
    have hne : ∃ qm, am = some ⟨qm, 0, none⟩ := by
      rcases hmn with ⟨_, h⟩ | h
      · exfalso
        obtain ⟨h1, h2⟩ := HL.out
        rw [h] at h1
        simp [F.len] at h1
        omega
      · exact h
    obtain ⟨qm, rfl⟩ := hne
    obtain ⟨n2, p2, v2, m2, f2, aa, ab, fa, fb, d0, d1, d2, d3, h2, ha, hb, efm⟩ := (HA.out.2.1.grow HD.out).node
    subst efm
    have hsz2 : fx.size + (fa.size + f2.size + fb.size + 1 + f1.size + fo.size + 1) + fk.size ≤ 1000000 := by
      rw [F.app_size, F.size] at hsz
      omega
    have HB := hid (⟨h2, ha, hb⟩ : AtTF P w3 p2 v2 m2 f2 ∧ AtF P w3 (.pointer aa) fa ∧ AtF P w3 (.pointer ab) fb)
    clear HL hmn hlt h2 ha hb hsz
    go_upto_region 4 with fail
    refine wp_region_G ?_
    replace c0 := (G.drew w3).cell c0
    replace c1 := (G.drew w3).cell c1
    replace c2 := (G.drew w3).cell c2
    replace c3 := (G.drew w3).cell c3
    replace z0 := (G.drew w3).cell z0
    replace z1 := (G.drew w3).cell z1
    replace d0 := (G.drew w3).cell d0
    replace d1 := (G.drew w3).cell d1
    replace d2 := (G.drew w3).cell d2
    replace d3 := (G.drew w3).cell d3
    have HE := hid (G.drew w3)
    replace HD := hid (HD.out.trans (G.drew w3))
    generalize w3.drew = w4 at *
    refine takeG 0 34 (.pointer (some ⟨q, 0, none⟩)) rfl rfl (by kernel_rfl) (by kernel_rfl) (by kernel_rfl) (fun _ _ _ h => h) (by kernel_rfl) (fun wz hz => ?_) ?_
    · rfl
    try simp only [Act.put, List.setIfInBounds_toArray, List.set_cons_zero, List.set_cons_succ]
    refine takeG 1 35 (.pointer (some ⟨q, 0, none⟩)) rfl rfl (by kernel_rfl) (by kernel_rfl) (by kernel_rfl) (fun _ _ _ h => h) (by kernel_rfl) (fun wz hz => ?_) ?_
    · go_simp
    try simp only [Act.put, List.setIfInBounds_toArray, List.set_cons_zero, List.set_cons_succ]
    refine takeG 2 36 (.pointer (some ⟨q, 2, none⟩)) rfl rfl (by kernel_rfl) (by kernel_rfl) (by kernel_rfl) (fun _ _ _ h => h) (by kernel_rfl) (fun wz hz => ?_) ?_
    · go_simp
    try simp only [Act.put, List.setIfInBounds_toArray, List.set_cons_zero, List.set_cons_succ]
    refine takeG 3 37 (.pointer ao) rfl rfl (by kernel_rfl) (by kernel_rfl) (by kernel_rfl) (fun _ _ _ h => h) (by kernel_rfl) (fun wz hz => ?_) ?_
    · have y0 := hz.cell c2; go_simp
    try simp only [Act.put, List.setIfInBounds_toArray, List.set_cons_zero, List.set_cons_succ]
    refine takeG 4 38 (.pointer (some ⟨q, 0, none⟩)) rfl rfl (by kernel_rfl) (by kernel_rfl) (by kernel_rfl) (fun _ _ _ h => h) (by kernel_rfl) (fun wz hz => ?_) ?_
    · rfl
    try simp only [Act.put, List.setIfInBounds_toArray, List.set_cons_zero, List.set_cons_succ]
    refine takeG 5 39 (.pointer (some ⟨q, 0, none⟩)) rfl rfl (by kernel_rfl) (by kernel_rfl) (by kernel_rfl) (fun _ _ _ h => h) (by kernel_rfl) (fun wz hz => ?_) ?_
    · go_simp
    try simp only [Act.put, List.setIfInBounds_toArray, List.set_cons_zero, List.set_cons_succ]
    refine takeG 6 40 (.pointer (some ⟨q, 0, none⟩)) rfl rfl (by kernel_rfl) (by kernel_rfl) (by kernel_rfl) (fun _ _ _ h => h) (by kernel_rfl) (fun wz hz => ?_) ?_
    · go_simp
    try simp only [Act.put, List.setIfInBounds_toArray, List.set_cons_zero, List.set_cons_succ]
    refine takeG 7 41 (.agg #[.string n1, .pointer (some ⟨p1, 0, none⟩)]) rfl rfl (by kernel_rfl) (by kernel_rfl) (by kernel_rfl) (fun _ _ _ h => h) (by kernel_rfl) (fun wz hz => ?_) ?_
    · have y0 := hz.cell c0; have y1 := hz.cell c1; go_simp
    try simp only [Act.put, List.setIfInBounds_toArray, List.set_cons_zero, List.set_cons_succ]
    refine takeG 8 42 (.pointer (some ⟨qm, 0, none⟩)) rfl rfl (by kernel_rfl) (by kernel_rfl) (by kernel_rfl) (fun _ _ _ h => h) (by kernel_rfl) (fun wz hz => ?_) ?_
    · rfl
    try simp only [Act.put, List.setIfInBounds_toArray, List.set_cons_zero, List.set_cons_succ]
    refine takeG 9 43 (.pointer (some ⟨qm, 0, none⟩)) rfl rfl (by kernel_rfl) (by kernel_rfl) (by kernel_rfl) (fun _ _ _ h => h) (by kernel_rfl) (fun wz hz => ?_) ?_
    · go_simp
    try simp only [Act.put, List.setIfInBounds_toArray, List.set_cons_zero, List.set_cons_succ]
    refine takeG 10 44 (.pointer (some ⟨qm, 2, none⟩)) rfl rfl (by kernel_rfl) (by kernel_rfl) (by kernel_rfl) (fun _ _ _ h => h) (by kernel_rfl) (fun wz hz => ?_) ?_
    · go_simp
    try simp only [Act.put, List.setIfInBounds_toArray, List.set_cons_zero, List.set_cons_succ]
    refine takeG 11 45 (.pointer aa) rfl rfl (by kernel_rfl) (by kernel_rfl) (by kernel_rfl) (fun _ _ _ h => h) (by kernel_rfl) (fun wz hz => ?_) ?_
    · have y0 := hz.cell d2; go_simp
    try simp only [Act.put, List.setIfInBounds_toArray, List.set_cons_zero, List.set_cons_succ]
    refine takeG 13 47 (.pointer (some ⟨qm, 0, none⟩)) rfl rfl (by kernel_rfl) (by kernel_rfl) (by kernel_rfl) (fun _ _ _ h => h) (by kernel_rfl) (fun wz hz => ?_) ?_
    · rfl
    try simp only [Act.put, List.setIfInBounds_toArray, List.set_cons_zero, List.set_cons_succ]
    refine takeG 14 48 (.pointer (some ⟨qm, 0, none⟩)) rfl rfl (by kernel_rfl) (by kernel_rfl) (by kernel_rfl) (fun _ _ _ h => h) (by kernel_rfl) (fun wz hz => ?_) ?_
    · go_simp
    try simp only [Act.put, List.setIfInBounds_toArray, List.set_cons_zero, List.set_cons_succ]
    refine takeG 15 49 (.pointer (some ⟨qm, 0, none⟩)) rfl rfl (by kernel_rfl) (by kernel_rfl) (by kernel_rfl) (fun _ _ _ h => h) (by kernel_rfl) (fun wz hz => ?_) ?_
    · go_simp
    try simp only [Act.put, List.setIfInBounds_toArray, List.set_cons_zero, List.set_cons_succ]
    refine takeG 16 50 (.agg #[.string n2, .pointer (some ⟨p2, 0, none⟩)]) rfl rfl (by kernel_rfl) (by kernel_rfl) (by kernel_rfl) (fun _ _ _ h => h) (by kernel_rfl) (fun wz hz => ?_) ?_
    · have y0 := hz.cell d0; have y1 := hz.cell d1; go_simp
    try simp only [Act.put, List.setIfInBounds_toArray, List.set_cons_zero, List.set_cons_succ]
    refine takeG 17 51 (.pointer (some ⟨qm, 0, none⟩)) rfl rfl (by kernel_rfl) (by kernel_rfl) (by kernel_rfl) (fun _ _ _ h => h) (by kernel_rfl) (fun wz hz => ?_) ?_
    · rfl
    try simp only [Act.put, List.setIfInBounds_toArray, List.set_cons_zero, List.set_cons_succ]
    refine takeG 18 52 (.pointer (some ⟨qm, 0, none⟩)) rfl rfl (by kernel_rfl) (by kernel_rfl) (by kernel_rfl) (fun _ _ _ h => h) (by kernel_rfl) (fun wz hz => ?_) ?_
    · go_simp
    try simp only [Act.put, List.setIfInBounds_toArray, List.set_cons_zero, List.set_cons_succ]
    refine takeG 19 53 (.pointer (some ⟨qm, 3, none⟩)) rfl rfl (by kernel_rfl) (by kernel_rfl) (by kernel_rfl) (fun _ _ _ h => h) (by kernel_rfl) (fun wz hz => ?_) ?_
    · go_simp
    try simp only [Act.put, List.setIfInBounds_toArray, List.set_cons_zero, List.set_cons_succ]
    refine takeG 20 54 (.pointer ab) rfl rfl (by kernel_rfl) (by kernel_rfl) (by kernel_rfl) (fun _ _ _ h => h) (by kernel_rfl) (fun wz hz => ?_) ?_
    · have y0 := hz.cell d3; go_simp
    try simp only [Act.put, List.setIfInBounds_toArray, List.set_cons_zero, List.set_cons_succ]
    refine takeG 21 55 (.agg #[.string nm, .pointer (some ⟨p, 0, none⟩)]) rfl rfl (by kernel_rfl) (by kernel_rfl) (by kernel_rfl) (fun _ _ _ h => h) (by kernel_rfl) (fun wz hz => ?_) ?_
    · have y0 := hz.cell z0; have y1 := hz.cell z1; go_simp
    try simp only [Act.put, List.setIfInBounds_toArray, List.set_cons_zero, List.set_cons_succ]
    refine takeG 22 56 (.pointer ax) rfl rfl (by kernel_rfl) (by kernel_rfl) (by kernel_rfl) (fun _ _ _ h => h) (by kernel_rfl) (fun wz hz => ?_) ?_
    · rfl
    try simp only [Act.put, List.setIfInBounds_toArray, List.set_cons_zero, List.set_cons_succ]
    have FIN : ∀ (qa qb : Nat) (W : World), G w3 W → G w W → AtF P W (.pointer (some ⟨qa, 0, none⟩)) (fo.app (.cons n1 v1 m1 f1 fa)) → AtF P W (.pointer (some ⟨qb, 0, none⟩)) (fb.app (.cons nm v m fk fx)) → Calls Tryz.prog 87 #[.pointer (some ⟨qa, 0, none⟩), .agg #[.string n2, .pointer (some ⟨p2, 0, none⟩)], .pointer (some ⟨qb, 0, none⟩)] W fun e w' => ∃ q3, e = .returned (.pointer (some ⟨q3, 0, none⟩)) ∧ AtF P w' (.pointer (some ⟨q3, 0, none⟩)) ((fo.app (.cons n1 v1 m1 f1 (fa.app (.cons n2 v2 m2 f2 fb)))).app (.cons nm v m fk fx)) ∧ G W w' := by
      intro qa qb W hE hW h1 h2
      have h := joinF_any h1 h2 (nm := n2) (HB.out.1.grow hE) (by rw [F.app_size, F.app_size, F.size, F.size]; omega) (HP.out _ hW)
      rwa [show (fo.app (.cons n1 v1 m1 f1 fa)).app (.cons n2 v2 m2 f2 (fb.app (.cons nm v m fk fx))) = (fo.app (.cons n1 v1 m1 f1 (fa.app (.cons n2 v2 m2 f2 fb)))).app (.cons nm v m fk fx) by simp only [F.app_assoc, F.app]] at h
    refine readyG [12] (by kernel_rfl) (by simp) fun w5 hg5 => ?_
    have hE5 := HE.out.trans hg5
    have hG5 := HD.out.trans hg5
    refine AllG.call 12 46 87 #[.pointer ao, .agg #[.string n1, .pointer (some ⟨p1, 0, none⟩)], .pointer aa] rfl rfl (by kernel_rfl) (by go_simp) ((joinF_any (HA.out.2.2.1.grow hG5) (HB.out.2.1.grow hE5) (HA.out.2.2.2.2.grow hG5) (by omega) (HP.out _ hG5)).mono ?_) AllG.nil
    rintro e w6 ⟨qa, rfl, h6, hg6⟩
    refine ⟨_, rfl, hg6, ?_⟩
    try simp only [Act.put, List.setIfInBounds_toArray, List.set_cons_zero, List.set_cons_succ]
    refine readyG [23] (by kernel_rfl) (by simp) fun w7 hg7 => ?_
    have hE7 := (hE5.trans hg6).trans hg7
    have hG7 := (hG5.trans hg6).trans hg7
    refine AllG.call 23 57 87 #[.pointer ab, .agg #[.string nm, .pointer (some ⟨p, 0, none⟩)], .pointer ax] rfl rfl (by kernel_rfl) (by go_simp) ((joinF_any (HB.out.2.2.grow hE7) (HA.out.1.grow hG7) (HA.out.2.2.2.1.grow hG7) (by omega) (HP.out _ hG7)).mono ?_) AllG.nil
    rintro e w8 ⟨qb, rfl, h8, hg8⟩
    refine ⟨_, rfl, hg8, ?_⟩
    try simp only [Act.put, List.setIfInBounds_toArray, List.set_cons_zero, List.set_cons_succ]
    refine readyG [24] (by kernel_rfl) (by simp) fun w9 hg9 => ?_
    refine AllG.call 24 58 87 #[.pointer (some ⟨qa, 0, none⟩), .agg #[.string n2, .pointer (some ⟨p2, 0, none⟩)], .pointer (some ⟨qb, 0, none⟩)] rfl rfl (by kernel_rfl) (by go_simp) ((FIN qa qb w9 ((hE7.trans hg8).trans hg9) ((hG7.trans hg8).trans hg9) (((h6.grow hg7).grow hg8).grow hg9) (h8.grow hg9)).mono ?_) AllG.nil
    rintro e w10 ⟨q3, rfl, h10, hg10⟩
    refine ⟨_, rfl, hg10, ?_⟩
    try simp only [Act.put, List.setIfInBounds_toArray, List.set_cons_zero, List.set_cons_succ]
    have hG10 := ((hG7.trans hg8).trans hg9).trans hg10
    refine takeG 25 6 (.pointer (some ⟨q3, 0, none⟩)) rfl rfl (by kernel_rfl) (by kernel_rfl) (by kernel_rfl) (fun _ _ _ h => h) (by kernel_rfl) (fun wz hz => ?_) ?_
    · rfl
    try simp only [Act.put, List.setIfInBounds_toArray, List.set_cons_zero, List.set_cons_succ]
    refine doneG (by kernel_rfl) (fun w11 hg11 => ?_)
    have HQ := hid (⟨h10.grow hg11, hG10.trans hg11⟩ : _ ∧ _)
    clear h10 hg11 h8 h6
    go_wp2
    go_ret
    exact ⟨q3, rfl, HQ.out.1, HQ.out.2⟩
end Go.Proofs.YtbjjbgaomoihaaaGreatDoor
