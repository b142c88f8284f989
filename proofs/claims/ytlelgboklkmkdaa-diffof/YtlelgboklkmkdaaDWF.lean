import Derived.Test.YtlelgboklkmkdaaDWR
import Derived.Test.YtlelgboklkmkdaaDRng
set_option maxRecDepth 100000
set_option maxHeartbeats 2000000
/-
  The law's given: the closure that gathers.
-/
namespace Go.Proofs.Ytlelgboklkmkdaa.Ch
open Go.RowKit
/-- a variable of one cell -/
def Bx (w : World) (b t : Nat) (v : Value) : Prop := w.heap[b]? = some (.cells #[v] t (0, 0))
theorem Bx.cell {w : World} {b t : Nat} {v : Value} (h : Bx w b t v) : w.cell? ⟨b, 0, none⟩ = some v := cell_of_row _ _ 0 _ _ _ h
theorem Bx.frozen {w : World} {b t : Nat} {v : Value} (h : Bx w b t v) : w.frozen? ⟨b, 0, none⟩ = false := by simp [World.frozen?, show w.heap[b]? = _ from h]
theorem Bx.set {w : World} {b t : Nat} {v : Value} (h : Bx w b t v) (u : Value) : Bx (w.setCell ⟨b, 0, none⟩ u) b t u := by
  unfold Bx at *
  simp only [World.setCell, Array.getElem?_modify, if_true, h]
  rfl
theorem Bx.other {w : World} {b b' t : Nat} {v u : Value} (h : Bx w b t v) (hn : b ≠ b') : Bx (w.setCell ⟨b', 0, none⟩ u) b t v := (Below.heap_setCell w ⟨b', 0, none⟩ u b hn).trans h
/-- the four variables of given: ended, well, out, n; what was gathered -/
structure Gv (w : World) (lo Be Bw Bo Bn : Nat) (en wl : Bool) (v : Value) (n : Int) (R : List Cd) : Prop where
  be : Bx w Be 4 (.bool en)
  bw : Bx w Bw 4 (.bool wl)
  bo : Bx w Bo 35 v
  bn : Bx w Bn 3 (.int .i64 n)
  ow : OwnsR w lo v R
  l1 : Be < lo
  l2 : Bw < lo
  l3 : Bo < lo
  l4 : Bn < lo
  d1 : Be ≠ Bw
  d2 : Be ≠ Bo
  d3 : Be ≠ Bn
  d4 : Bw ≠ Bo
  d5 : Bw ≠ Bn
  d6 : Bo ≠ Bn
theorem given1_any (w : World) (lo Be Bw Bo Bn : Nat) (wl : Bool) (v : Value) (n : Int) (R : List Cd) (c : Cd) (h : Gv w lo Be Bw Bo Bn false wl v n R) (hlo : lo ≤ w.heap.size) (hR : R.length ≤ 50000) :
    Calls Try.prog 24 #[.agg (cc c), .pointer (some ⟨Be, 0, none⟩), .pointer (some ⟨Bw, 0, none⟩), .pointer (some ⟨Bo, 0, none⟩), .pointer (some ⟨Bn, 0, none⟩)] w fun e w' => ∃ v', e = .returned (.bool (!decide (((R.length + 1 : Nat) : Int) = n))) ∧
      Gv w' lo Be Bw Bo Bn (decide (((R.length + 1 : Nat) : Int) = n)) wl v' n (R ++ [c]) ∧ w.heap.size ≤ w'.heap.size ∧ w'.os = w.os ∧ w'.tape = w.tape ∧ w'.output = w.output ∧ (∀ b, b < w.heap.size → b ≠ Be → b ≠ Bo → v.ownBlock ≠ some b → w'.heap[b]? = w.heap[b]?) ∧ ∀ b, v'.ownBlock = some b → v.ownBlock = some b ∨ w.heap.size ≤ b := by
  obtain ⟨Z, hZ⟩ : ∃ Z, cc c = Z := ⟨_, rfl⟩
  have HZ : Hid (cc c = Z ∧ Z.size = 71 ∧ Z.all (·.oneCell') = true) := ⟨hZ, by rw [← hZ]; exact cc_size _, by rw [← hZ]; exact cc_one _⟩
  rw [hZ]
  obtain ⟨B, hB⟩ : ∃ B, w.heap.size = B := ⟨_, rfl⟩
  obtain ⟨w1, hw1⟩ : ∃ w1, w.alloc (.cells Z 44) = w1 := ⟨_, rfl⟩
  have g1 : Below w.heap.size w w1 := by rw [← hw1]; exact (Below.refl _ w).alloc (Nat.le_refl _) _
  have s1 : w1.heap.size = B + 1 := by rw [← hw1]; simp [hB]
  have lz : Lies w1 B 0 Z := fun j u hj => by rw [← hw1, ← hB, Nat.zero_add]; simp only [World.cell?, World.alloc_heap_new]; exact hj
  obtain ⟨ao, uc, hv⟩ := h.ow.form
  have o1 : OwnsR w1 lo v R := h.ow.up g1
  obtain ⟨v2, w3, hr, o2, bl, kp, nn, nw⟩ := app_one 35 c Z hZ o1 (by omega) (by omega) (B + 1) s1
  obtain ⟨k, hk⟩ : ∃ k, R.length = k := ⟨_, rfl⟩
  rw [hk] at hv hR ⊢
  subst hv
  obtain ⟨a2, c2, e2⟩ := o2.form
  rw [List.length_append, hk] at e2
  subst e2
  have lt : ∀ {b t : Nat} {u : Value}, Bx w b t u → b < w.heap.size := fun hb => (Array.getElem?_eq_some_iff.1 hb).1
  have nv : ∀ b, b < lo → (Value.slice ao k uc).ownBlock ≠ some b := fun b hb e => by have := (World.ownsRow.lt h.ow b e).1; omega
  have up1 : ∀ {b t : Nat} {u : Value}, Bx w b t u → Bx w1 b t u := fun hb => (g1.block _ (lt hb)).trans hb
  have up3 : ∀ {b t : Nat} {u : Value}, Bx w b t u → b < lo → Bx w3 b t u := fun hb hl => (kp _ (by have := lt hb; omega) (nv _ hl)).trans (up1 hb)
  have E1 := (up1 h.be).cell
  have O1 := (up1 h.bo).cell
  have O3 := (up3 h.bo h.l3).cell
  have O3f := (up3 h.bo h.l3).frozen
  obtain ⟨w4, hw4⟩ : ∃ w4, w3.setCell ⟨Bo, 0, none⟩ (.slice a2 (k + 1) c2) = w4 := ⟨_, rfl⟩
  have be4 : Bx w4 Be 4 (.bool false) := by rw [← hw4]; exact (up3 h.be h.l1).other h.d2
  have bw4 : Bx w4 Bw 4 (.bool wl) := by rw [← hw4]; exact (up3 h.bw h.l2).other h.d4
  have bo4 : Bx w4 Bo 35 (.slice a2 (k + 1) c2) := by rw [← hw4]; exact (up3 h.bo h.l3).set _
  have bn4 : Bx w4 Bn 3 (.int .i64 n) := by rw [← hw4]; exact (up3 h.bn h.l4).other (Ne.symm h.d6)
  have O4 := bo4.cell
  have N4 := bn4.cell
  have E4 := be4.cell
  have E4f := be4.frozen
  obtain ⟨bb, hbb⟩ : ∃ bb, decide (((k + 1 : Nat) : Int) = n) = bb := ⟨_, rfl⟩
  have hb2 : (((k : Int) + 1) == n) = bb := by rw [← hbb]; rw [Bool.eq_iff_iff]; simp
  obtain ⟨w5, hw5⟩ : ∃ w5, w4.setCell ⟨Be, 0, none⟩ (.bool bb) = w5 := ⟨_, rfl⟩
  have be5 : Bx w5 Be 4 (.bool bb) := by rw [← hw5]; exact be4.set _
  have bw5 : Bx w5 Bw 4 (.bool wl) := by rw [← hw5]; exact bw4.other (Ne.symm h.d1)
  have bo5 : Bx w5 Bo 35 (.slice a2 (k + 1) c2) := by rw [← hw5]; exact bo4.other (Ne.symm h.d2)
  have bn5 : Bx w5 Bn 3 (.int .i64 n) := by rw [← hw5]; exact bn4.other (Ne.symm h.d3)
  have E5 := be5.cell
  have k5 : ∀ b, b ≠ Be → b ≠ Bo → w5.heap[b]? = w3.heap[b]? := fun b n1 n2 => by rw [← hw5, Below.heap_setCell _ _ _ _ n1, ← hw4, Below.heap_setCell _ _ _ _ n2]
  have ow5 : OwnsR w5 lo (.slice a2 (k + 1) c2) (R ++ [c]) := Bk.rowB o2 fun b hb => by
    have := (World.ownsRow.lt o2 b hb).1
    exact k5 b (by have := h.l1; omega) (by have := h.l3; omega)
  have s5 : w5.heap.size = w3.heap.size := by rw [← hw5, ← hw4]; simp
  have FIN : Hid (Gv w5 lo Be Bw Bo Bn bb wl (.slice a2 (k + 1) c2) n (R ++ [c]) ∧ w.heap.size ≤ w5.heap.size ∧ w5.os = w.os ∧ w5.tape = w.tape ∧ w5.output = w.output ∧ (∀ b, b < w.heap.size → b ≠ Be → b ≠ Bo → (Value.slice ao k uc).ownBlock ≠ some b → w5.heap[b]? = w.heap[b]?) ∧ ∀ b, (Value.slice a2 (k + 1) c2).ownBlock = some b → (Value.slice ao k uc).ownBlock = some b ∨ w.heap.size ≤ b) := by
    refine ⟨⟨be5, bw5, bo5, bn5, ow5, h.l1, h.l2, h.l3, h.l4, h.d1, h.d2, h.d3, h.d4, h.d5, h.d6⟩, by have := bl.size; omega, ?_, ?_, ?_, fun b hb n1 n2 n3 => ?_, fun b e => (nw b e).imp id fun q => by have := g1.size; omega⟩
    · rw [← hw5, ← hw4]; exact bl.os.trans g1.os
    · rw [← hw5, ← hw4]; exact bl.tape.trans g1.tape
    · rw [← hw5, ← hw4]; exact bl.output.trans g1.output
    · exact (k5 b n1 n2).trans ((kp b (by omega) n3).trans (g1.block b hb))
  have HR := hid hr
  have HL := hid lz
  rw [hbb]
  clear h o1 o2 bl kp nn nw lt nv up1 up3 be4 bw4 bo4 bn4 be5 bw5 bo5 bn5 k5 ow5 s5 hr lz g1 hZ hbb
  go_enter Try.func24, Try.ntmps24
  go_upto_region 5 with (first
    | ((with_reducible refine wpList_exec (.agg Z) ?_ ?_ ?_); exact exec_load 44 _ rfl B 0 rfl Z _ HL.out under55 rfl (by rw [size55, HZ.out.2.1]); kernel_rfl)
    | ((with_reducible refine wpList_execW (.slice (some ⟨B + 1, 0, none⟩) 1 1) (w1.alloc (.cells Z 44)) ?_ ?_ ?_); exact exec_slice55 _ rfl Z rfl HZ.out.2.1 _ _ s1; kernel_rfl)
    | ((with_reducible refine wpList_execW (.slice a2 (k + 1) c2) w3 ?_ ?_ ?_); exact exec_app (v := .slice ao k uc) (src := .slice (some ⟨B + 1, 0, none⟩) 1 1) rfl rfl rfl HR.out; kernel_rfl))
  go_wp2
  go_ret
  exact ⟨_, rfl, FIN.out⟩
end Go.Proofs.Ytlelgboklkmkdaa.Ch
/-
  diff.walk: what stands while it goes on.
-/
namespace Go.Proofs.Ytlelgboklkmkdaa
open Go.RowKit Ch
theorem valueOf_si (x : Si) (w : World) (h : SiAt w x) : Calls Try.prog 36 #[siP x] w fun e w' => e = .returned (.agg (vx (siV x)).toArray) ∧ Below w.heap.size w w' := by
  cases x with
  | none => exact valueOf_none w
  | some q => exact valueOf_some q.p q.v q.m q.k w (h q rfl).1
theorem kidsOf_si (x : Si) (w : World) (h : SiAt w x) (hs : siZ x ≤ 100000) : Calls Try.prog 39 #[siP x] w fun e w' => ∃ u, e = .returned u ∧ w'.ownsRow w.heap.size 96 2 u (siI x).length (kcs (siI x)) ∧ Below w.heap.size w w' := by
  cases x with
  | none =>
    refine (kidsOf_none w).mono ?_
    rintro e w' ⟨rfl, rfl⟩
    exact ⟨_, rfl, World.ownsRow_nil _ _ _ _, Below.refl _ _⟩
  | some q =>
    refine (kidsOf_any q.p q.v q.m q.k w (h q rfl).1 (by simp only [siZ] at hs; omega)).mono ?_
    rintro e w' ⟨u, rfl, h1, h2⟩
    exact ⟨u, rfl, h1, h2⟩
theorem kcs_at : ∀ {A : List Kid} {i : Nat} {a : Kid} {j : Nat}, A[i]? = some a → j < 2 → (kcs A)[i * 2 + j]? = (kdC a)[j]?
  | [], _, _, _, h, _ => by simp at h
  | x :: A, 0, a, j, h, hj => by
    simp at h
    subst h
    rw [kcs, List.getElem?_append_left (by simp [kdC]; omega)]
    simp
  | x :: A, i + 1, a, j, h, hj => by
    rw [kcs, List.getElem?_append_right (by simp [kdC]; omega)]
    have h2 := kcs_at (A := A) (i := i) (a := a) (j := j) (by simpa using h) hj
    rw [← h2]
    congr 1
    simp [kdC]
    omega
theorem kids_place {w : World} {lo : Nat} {u : Value} {A : List Kid} (h : w.ownsRow lo 96 2 u A.length (kcs A)) : ∃ ao cp ga, u = .slice ao A.length cp ∧ ∀ i a, A[i]? = some a → ao = some ⟨ga, 0, none⟩ ∧ lo ≤ ga ∧ ga < w.heap.size ∧ Ch.Lies w ga (0 + i * 2) (kA a) := by
  have h0 := h
  have hlt := World.ownsRow.lt h
  obtain ⟨h1, ⟨rfl, e⟩ | ⟨g, cp, cur, rfl, hg, r⟩⟩ := h
  · refine ⟨none, 0, 0, by rw [e], fun i a hi => ?_⟩
    have := (List.getElem?_eq_some_iff.1 hi).1
    omega
  · refine ⟨_, cp, g, rfl, fun i a hi => ⟨rfl, hg, (hlt g rfl).2, fun j v hj => ?_⟩⟩
    have hj2 : j < 2 := by have := (Array.getElem?_eq_some_iff.1 hj).1; simpa [kA, kdC] using this
    have hi2 := (List.getElem?_eq_some_iff.1 hi).1
    have := World.ownsRow.cellAt h0 (i * 2 + j) (by omega)
    rw [Nat.zero_add, this, kcs_at hi hj2]
    simpa [kA] using hj
theorem At.item {w : World} : ∀ {k : K} {u : Value}, At w k u → ∀ a ∈ k.items, AtT w a.p a.v a.m a.k
  | .nil, _, _, _, h => by cases h
  | .node _ _ _ _ _ _ _ _, _, ⟨_, pk, pa, pb, ⟨_, h3⟩, h4, h5, h6⟩, a, ha => by
    rw [K.items] at ha
    rcases List.mem_append.1 ha with ha | ha
    · exact At.item h5 a ha
    · rcases List.mem_cons.1 ha with rfl | ha
      · exact ⟨pk, h3, h4⟩
      · exact At.item h6 a ha
theorem K.plain_item {w : World} : ∀ {k : K}, k.plain w → ∀ a ∈ k.items, a.k.plain w ∧ Tr w a.p
  | .nil, _, _, h => by cases h
  | .node _ _ _ _ _ _ _ _, ⟨h1, h2, h3, h4⟩, a, ha => by
    rw [K.items] at ha
    rcases List.mem_append.1 ha with ha | ha
    · exact K.plain_item h3 a ha
    · rcases List.mem_cons.1 ha with rfl | ha
      · exact ⟨h2, h1⟩
      · exact K.plain_item h4 a ha
theorem SiAt.item {w : World} {x : Si} (h : SiAt w x) (i : Option Nat) : SiAt w (pX (siI x) i) := by
  intro q hq
  cases i with
  | none => cases hq
  | some i =>
    cases x with
    | none => simp [pX, siI] at hq
    | some p =>
      obtain ⟨⟨pk, _, h2⟩, h3, _⟩ := h p rfl
      exact ⟨h2.item q (List.mem_of_getElem? hq), K.plain_item h3 q (List.mem_of_getElem? hq)⟩
def siW (x : Si) : Nat := (siF x).weight
theorem kidsF_at : ∀ {A : List Kid} {i : Nat} {a : Kid}, A[i]? = some a → a.k.flat.size + 1 ≤ (kidsF A).size ∧ a.k.flat.weight + 1 + a.nm.size ≤ (kidsF A).weight
  | [], _, _, h => by simp at h
  | x :: A, 0, a, h => by
    simp at h
    subst h
    simp only [kidsF, F.size, F.weight]
    omega
  | x :: A, i + 1, a, h => by
    have := kidsF_at (A := A) (i := i) (a := a) (by simpa using h)
    simp only [kidsF, F.size, F.weight]
    omega
/-- a kid's side is smaller -/
theorem item_small {x : Si} {i : Nat} {a : Kid} (h : (siI x)[i]? = some a) : siZ (some a) + 1 ≤ siZ x ∧ siW (some a) + 1 + a.nm.size ≤ siW x := by
  have h1 := kidsF_at h
  rw [siF_items] at h1
  cases x with
  | none => simp [siI] at h
  | some q =>
    simp only [siF] at h1
    simp only [siZ, siW, siF]
    omega
theorem grownT {w w' : World} {lo : Nat} {v : Value} {L : List ByteArray} (h : OwnsT w lo v L) {S : Nat → Prop} (hk : Kp S w w') (hn : ∀ b, v.ownBlock = some b → ¬ S b) : OwnsT w' lo v L := by
  have hlt := World.ownsRow.lt h
  obtain ⟨h1, q | ⟨g, cap, cur, rfl, hb, hh, hr⟩⟩ := h
  · exact ⟨h1, .inl q⟩
  · exact ⟨h1, .inr ⟨g, cap, cur, rfl, hb, (hk.block g (hlt g rfl).2 (hn g rfl)).trans hh, hr⟩⟩
theorem Kp.put (w : World) (b : Nat) (o : Obj) : Kp (fun c => c = b) w (w.putObj b o) := ⟨rfl, rfl, rfl, by simp, fun c _ hn => World.putObj_heap_other hn⟩
/-- a walk that goes on: the world at its begin is W, M the yield's blocks then -/
structure WkS (lo : Nat) (J : Ys) (w0 W : World) (M : Nat → Prop) (v fv : Value) (L : List ByteArray) (B : Nat) (g : Bool) (MT : Nat → Prop) (pr : List Cd) (X : World) : Prop where
  j : J g pr MT X
  kp : Kp (fun b => M b ∨ v.ownBlock = some b) W X
  mt : ∀ b, MT b → M b ∨ B ≤ b
  ow : OwnsT X lo v L
  nv : ∀ b, v.ownBlock = some b → ¬ MT b
  b4 : Bx X B 87 v
  b7 : Bx X (B + 1) 45 fv
  b8 : Bx X (B + 2) 4 (.bool false)
  n4 : ∀ b, B ≤ b → b < B + 3 → ¬ MT b
  n5 : ∀ b, v.ownBlock = some b → b < B
  bel : Below w0.heap.size w0 X
  l0 : lo ≤ B
theorem Ch.Bx.lt {w : World} {b t : Nat} {v : Value} (h : Bx w b t v) : b < w.heap.size := (Array.getElem?_eq_some_iff.1 h).1
section
variable {lo : Nat} {J : Ys} {w0 W : World} {M : Nat → Prop} {v fv : Value} {L : List ByteArray} {B : Nat} {g : Bool} {MT : Nat → Prop} {pr : List Cd} {X : World}
theorem WkS.step (_hJ : Yd lo J) (hlo : w0.heap.size = lo) (hB : W.heap.size = B) (h : WkS lo J w0 W M v fv L B g MT pr X) {X' : World} {S : Nat → Prop} (hk : Kp S X X') (hS : ∀ b, b < X.heap.size → S b → MT b ∨ v.ownBlock = some b) (hS0 : ∀ b, S b → lo ≤ b)
    {g' : Bool} {M' : Nat → Prop} {pr' : List Cd} (hm : ∀ b, M' b → MT b ∨ X.heap.size ≤ b) (hj : J g' pr' M' X') (how : OwnsT X' lo v L) : WkS lo J w0 W M v fv L B g' M' pr' X' := by
  have hs := h.kp.size
  have key : ∀ b, B ≤ b → b < B + 3 → b < X.heap.size → ¬ S b := fun b h1 h2 h3 e => by
    rcases hS b h3 e with e | e
    · exact h.n4 b h1 h2 e
    · have := h.n5 b e; omega
  have l4 := h.b4.lt
  have l7 := h.b7.lt
  have l8 := h.b8.lt
  refine ⟨hj, h.kp.trans hk fun b hb e => ?_, fun b hb => ?_, how, fun b hb hm' => ?_, (hk.block B l4 (key B (by omega) (by omega) l4)).trans h.b4, (hk.block _ l7 (key _ (by omega) (by omega) l7)).trans h.b7, (hk.block _ l8 (key _ (by omega) (by omega) l8)).trans h.b8, fun b h1 h2 hm' => ?_, h.n5, ?_, h.l0⟩
  · rcases hS b (by omega) e with e | e
    · rcases h.mt b e with e | e
      · exact .inl e
      · omega
    · exact .inr e
  · rcases hm b hb with e | e
    · exact h.mt b e
    · exact .inr (by omega)
  · rcases hm b hm' with e | e
    · exact h.nv b hb e
    · have := h.n5 b hb; omega
  · rcases hm b hm' with e | e
    · exact h.n4 b h1 h2 e
    · omega
  · exact h.bel.trans (hk.below h.bel.size fun b e => by have := hS0 b e; omega)
theorem WkS.up (hJ : Yd lo J) (hlo : w0.heap.size = lo) (hB : W.heap.size = B) (h : WkS lo J w0 W M v fv L B g MT pr X) {X' : World} (hb : Below X.heap.size X X') : WkS lo J w0 W M v fv L B g MT pr X' :=
  h.step hJ hlo hB (Kp.of (S := fun _ => False) hb) (fun _ _ e => e.elim) (fun _ e => e.elim) (fun _ e => .inl e) (hJ.up h.j hb) (grownT h.ow (Kp.of (S := fun _ => False) hb) (fun _ _ e => e))
theorem WkS.yield (hJ : Yd lo J) (hlo : w0.heap.size = lo) (hB : W.heap.size = B) (h : WkS lo J w0 W M v fv L B g MT pr X) {X' : World} (hk : Kp MT X X') {g' : Bool} {M' : Nat → Prop} {pr' : List Cd} (hm : ∀ b, M' b → MT b ∨ X.heap.size ≤ b) (hj : J g' pr' M' X') : WkS lo J w0 W M v fv L B g' M' pr' X' :=
  h.step hJ hlo hB hk (fun _ _ e => .inl e) (fun _ e => (hJ.own h.j e).1) hm hj (grownT h.ow hk h.nv)
/-- records of a range come and go -/
theorem WkS.side (hJ : Yd lo J) (hlo : w0.heap.size = lo) (hB : W.heap.size = B) (h : WkS lo J w0 W M v fv L B g MT pr X) {X' : World} {S : Nat → Prop} (hk : Kp S X X') (hS : ∀ b, S b → B ≤ b ∧ (b < X.heap.size → ∃ o : Obj, X.heap[b]? = some o ∧ o.isCells = false)) : WkS lo J w0 W M v fv L B g MT pr X' := by
  have hs := h.kp.size
  have hs2 := h.bel.size
  have nm : ∀ b, S b → ¬ MT b := fun b hb e => by
    obtain ⟨_, o, ho, hc⟩ := hJ.own h.j e
    obtain ⟨o', ho', hc'⟩ := (hS b hb).2 (Array.getElem?_eq_some_iff.1 ho).1
    rw [ho] at ho'
    cases ho'
    rw [hc] at hc'
    cases hc'
  have nb : ∀ b t u, Bx X b t u → ¬ S b := fun b t u hx hb => by
    obtain ⟨o', ho', hc'⟩ := (hS b hb).2 hx.lt
    rw [show X.heap[b]? = _ from hx] at ho'
    cases ho'
    cases hc'
  have hl := h.l0
  refine ⟨hJ.keep S h.j hk nm fun b hb => by have := (hS b hb).1; omega, h.kp.trans hk (fun b hb e => by have := (hS b e).1; omega), h.mt, grownT h.ow hk (fun b hb e => by have := (hS b e).1; have := h.n5 b hb; omega), h.nv, (hk.block _ h.b4.lt (nb _ _ _ h.b4)).trans h.b4, (hk.block _ h.b7.lt (nb _ _ _ h.b7)).trans h.b7, (hk.block _ h.b8.lt (nb _ _ _ h.b8)).trans h.b8, h.n4, h.n5, h.bel.trans (hk.below h.bel.size fun b e => by have := (hS b e).1; omega), h.l0⟩
end
end Go.Proofs.Ytlelgboklkmkdaa
/-
  diff.walk: one round.
-/
namespace Go.Proofs.Ytlelgboklkmkdaa
open Go.RowKit Ch
/-- what a walk leaves -/
def WPost (lo : Nat) (J : Ys) (v : Value) (L : List ByteArray) (W : World) (M : Nat → Prop) (pre D : List Cd) (g : Bool) (X : World) : Prop :=
  ∃ M' qs, J g (pre ++ qs) M' X ∧ (g = true → qs = D) ∧ qs <+: D ∧ Kp (fun b => M b ∨ v.ownBlock = some b) W X ∧ (∀ b, M' b → M b ∨ W.heap.size ≤ b) ∧ OwnsT X lo v L
theorem names_app (w2 : World) (lo : Nat) (v : Value) (L : List ByteArray) (nm : ByteArray) (E : Nat) (h : OwnsT w2 lo v L) (hE : w2.cell? ⟨E, 0, none⟩ = some (.string nm)) (hlo : lo ≤ w2.heap.size) (hn : L.length ≤ 100000) :
    ∃ v3 w3, (Builtin.append_ #[87, 87] 87 #[v, .slice (some ⟨E, 0, none⟩) 1 1]).run Try.prog w2 = .ok v3 w3 ∧ OwnsT w3 lo v3 (L ++ [nm]) ∧ w2.grownBy w3 v.ownBlock ∧ Behind w2 v v3 ∧ OwnsT w3 lo v L := by
  obtain ⟨i0, hi, hz0, hz1, hz2⟩ := info_parts Try.info9
  obtain ⟨v3, w3, h1, h2, h3, h4, h5⟩ := run_append_both (P := Try.prog) w2 lo 87 87 9 i0 (.string ⟨#[]⟩) 1 16 Try.underlying87 hi hz0 hz1 hz2 rfl (by decide) v L.length (L.map Value.string) h ⟨E, 0, none⟩ 1 1 [.string nm] rfl (fun j u hj => by
    match j, hj with
    | 0, hj => simp at hj; subst hj; simpa [Addr.add] using hE) (by simp [Value.oneCell']) (by unfold maxLen; omega) (by omega) hlo (by omega)
  refine ⟨v3, w3, h1, ?_, h3, h4, h5⟩
  unfold OwnsT
  rw [List.length_append, List.map_append]
  exact h2
theorem exec_two {o : Oper} {a : Act} (ho : o.op = .buildSlice 116 2 #[(0, .tmp 41), (1, .tmp 42)]) (p1 p2 : Option Addr) (h1 : a.eval (.tmp 41) = .pointer p1) (h2 : a.eval (.tmp 42) = .pointer p2) (w : World) (D : Nat) (hD : w.heap.size = D) :
    (execOp a.eval o).run Try.prog w = .ok (.value (.slice (some ⟨D, 0, none⟩) 2 2)) (w.alloc (.cells #[.pointer p1, .pointer p2] 100)) := by
  subst hD
  have e1 : a.tmps[41]?.getD undef = .pointer p1 := by rw [← Array.getD_eq_getD_getElem?]; exact h1
  have e2 : a.tmps[42]?.getD undef = .pointer p2 := by rw [← Array.getD_eq_getD_getElem?]; exact h2
  unfold execOp
  simp only [ho]
  simp [e1, e2, go_sem]
theorem exec_oneT {o : Oper} {a : Act} (ho : o.op = .buildSlice 87 1 #[(0, .tmp 47)]) (nm : ByteArray) (h1 : a.eval (.tmp 47) = .string nm) (w : World) (D : Nat) (hD : w.heap.size = D) :
    (execOp a.eval o).run Try.prog w = .ok (.value (.slice (some ⟨D, 0, none⟩) 1 1)) (w.alloc (.cells #[.string nm] 9)) := by
  subst hD
  have e1 : a.tmps[47]?.getD undef = .string nm := by rw [← Array.getD_eq_getD_getElem?]; exact h1
  unfold execOp
  simp only [ho]
  simp [e1, go_sem]
theorem owns_shorter2 {w w1 w2 : World} {lo : Nat} {v v' : Value} {L N : List ByteArray} {S : Nat → Prop} (h : OwnsT w1 lo v L) (hb : Behind w v v') (hk : Kp S w1 w2) (hS : v'.ownBlock = some w.heap.size → ∀ b, v.ownBlock = some b → ¬ S b) (h2 : OwnsT w2 lo v' (L ++ N)) : OwnsT w2 lo v L := by
  rcases hb with ⟨g, n, m, cap, rfl, rfl⟩ | hb
  · have hn : n = L.length := by
      obtain ⟨_, q | ⟨g', cap', cur, hv, _⟩⟩ := h
      · cases q.1
      · injection hv
    have hm : n + m = (L ++ N).length := by
      obtain ⟨_, q | ⟨g', cap', cur, hv, _⟩⟩ := h2
      · cases q.1
      · injection hv
    unfold OwnsT at h2 ⊢
    rw [← hm, List.map_append] at h2
    rw [← hn]
    exact ownsRow_shorter h2 (by simp; omega)
  · exact grownT h hk (hS hb)
section
variable {lo : Nat} {J : Ys} {w0 W : World} {M : Nat → Prop} {v fv : Value} {L : List ByteArray} {B : Nat} {g : Bool} {MT : Nat → Prop} {pr : List Cd} {X : World}
/-- behind the walk below -/
theorem WkS.after (hJ : Yd lo J) (hlo : w0.heap.size = lo) (hB : W.heap.size = B) (h : WkS lo J w0 W M v fv L B true MT pr X) {v3 : Value} {w2 w3 X' : World} {nm : ByteArray} {D : List Cd} {g' : Bool} (hk : Kp (fun b => v.ownBlock = some b) X w3) (hb : Behind w2 v v3) (hs : X.heap.size ≤ w2.heap.size) (o3 : OwnsT w3 lo v L)
    (hp : WPost lo J v3 (L ++ [nm]) w3 MT pr D g' X') : ∃ M' qs, WkS lo J w0 W M v fv L B g' M' (pr ++ qs) X' ∧ (g' = true → qs = D) ∧ qs <+: D ∧ Kp (fun b => MT b ∨ v.ownBlock = some b) X X' ∧ ∀ b, M' b → MT b ∨ X.heap.size ≤ b := by
  obtain ⟨M', qs, j1, h1, h2, k1, m1, o1⟩ := hp
  have hlt := World.ownsRow.lt h.ow
  have kk : Kp (fun b => MT b ∨ v.ownBlock = some b) X X' := (hk.mono (S' := fun b => MT b ∨ v.ownBlock = some b) fun _ _ e => .inr e).trans k1 fun b hb' e => by
    rcases e with e | e
    · exact .inl e
    · rcases hb.block with q | q
      · rw [q] at e; exact .inr e
      · rw [q] at e
        injection e with e
        omega
  have mm : ∀ b, M' b → MT b ∨ X.heap.size ≤ b := fun b e => by
    rcases m1 b e with e | e
    · exact .inl e
    · have := hk.size; exact .inr (by omega)
  have ow : OwnsT X' lo v L := owns_shorter2 o3 hb k1 (fun q b hb' e => by
    rcases e with e | e
    · exact h.nv b hb' e
    · rw [q] at e
      injection e with e
      have := (hlt b hb').2
      omega) o1
  exact ⟨M', qs, h.step hJ hlo hB kk (fun _ _ e => e) (fun b e => by
    rcases e with e | e
    · exact (hJ.own h.j e).1
    · exact (hlt b e).1) mm j1 ow, h1, h2, kk, mm⟩
theorem WkS.others (hJ : Yd lo J) (h : WkS lo J w0 W M v fv L B g MT pr X) {X' : World} (hk : Kp (fun b => MT b ∨ v.ownBlock = some b) X X') : KeepsOthers X X' := by
  refine ⟨hk.size, fun k o hk' ho => (hk.block k (Array.getElem?_eq_some_iff.1 hk').1 fun e => ?_).trans hk'⟩
  rcases e with e | e
  · obtain ⟨_, o', ho', hc⟩ := hJ.own h.j e
    rw [hk'] at ho'
    cases ho'
    rw [ho] at hc
    cases hc
  · obtain ⟨_, q | ⟨g', cap, cur, rfl, _, hh, _⟩⟩ := h.ow
    · rw [q.1] at e; cases e
    · cases e
      rw [hk'] at hh
      cases hh
      cases ho
/-- at its end -/
theorem WkS.fin (hJ : Yd lo J) (hB : W.heap.size = B) (h : WkS lo J w0 W M v fv L B g MT pr X) {X' : World} {S : Nat → Prop} (hk : Kp S X X') (hS : ∀ b, S b → b = B + 2 ∨ (B ≤ b ∧ (b < X.heap.size → ∃ o : Obj, X.heap[b]? = some o ∧ o.isCells = false))) {pre D qs : List Cd} (he : pr = pre ++ qs) (hq : g = true → qs = D) (hq2 : qs <+: D) : WPost lo J v L W M pre D g X' := by
  subst he
  have hl := h.l0
  refine ⟨MT, qs, hJ.keep S h.j hk (fun b hb e => ?_) (fun b hb => ?_), hq, hq2, h.kp.trans hk (fun b hb e => ?_), fun b e => ?_, grownT h.ow hk fun b hb e => ?_⟩
  · rcases hS b hb with rfl | ⟨_, q⟩
    · exact h.n4 _ (by omega) (by omega) e
    · obtain ⟨_, o, ho, hc⟩ := hJ.own h.j e
      obtain ⟨o', ho', hc'⟩ := q (Array.getElem?_eq_some_iff.1 ho).1
      rw [ho] at ho'
      cases ho'
      rw [hc] at hc'
      cases hc'
  · rcases hS b hb with rfl | ⟨q, _⟩ <;> omega
  · rcases hS b e with rfl | ⟨q, _⟩ <;> omega
  · rcases h.mt b e with e | e
    · exact .inl e
    · exact .inr (by omega)
  · have := h.n5 b hb
    rcases hS b e with rfl | ⟨q, _⟩ <;> omega
end
/-- at its begin -/
theorem WkS.start {lo : Nat} {J : Ys} (hJ : Yd lo J) {w0 W : World} {M : Nat → Prop} {v : Value} {L : List ByteArray} {B : Nat} {pre : List Cd} (fv : Value) (hlo : w0.heap.size = lo) (hB : W.heap.size = B) (hj : J true pre M W) (ow : OwnsT W lo v L) (nv : ∀ b, v.ownBlock = some b → ¬ M b) (bel : Below w0.heap.size w0 W) :
    WkS lo J w0 W M v fv L B true M pre (((W.alloc (.cells #[v] 87)).alloc (.cells #[fv] 45)).alloc (.cells #[.bool false] 4)) := by
  have hb : Below W.heap.size W (((W.alloc (.cells #[v] 87)).alloc (.cells #[fv] 45)).alloc (.cells #[.bool false] 4)) := (((Below.refl _ W).alloc (Nat.le_refl _) _).alloc (by simp) _).alloc (by simp; omega) _
  have hlt := World.ownsRow.lt ow
  refine ⟨hJ.up hj hb, Kp.of hb, fun _ e => .inl e, grownT ow (Kp.of (S := fun _ => False) hb) (fun _ _ e => e), nv, ?_, ?_, ?_, fun b h1 _ e => by have := hJ.lt hj e; omega, fun b e => by have := (hlt b e).2; omega, bel.trans (hb.mono bel.size), by have := bel.size; omega⟩
  · subst hB
    exact (heap_alloc_old _ _ (by simp; omega)).trans ((heap_alloc_old _ _ (by simp)).trans (heap_alloc_new _ _))
  · subst hB
    refine (heap_alloc_old _ _ (by simp)).trans ?_
    have := heap_alloc_new (W.alloc (.cells #[v] 87)) (.cells #[fv] 45)
    rwa [World.size_alloc] at this
  · subst hB
    have := heap_alloc_new ((W.alloc (.cells #[v] 87)).alloc (.cells #[fv] 45)) (.cells #[.bool false] 4)
    rwa [World.size_alloc, World.size_alloc] at this
end Go.Proofs.Ytlelgboklkmkdaa
/-
  diff.walk (23) by contract.
-/
namespace Go.Proofs.Ytlelgboklkmkdaa
open Go.RowKit Ch
attribute [local go_sem] Oper.semAt_some
def WQ (lo : Nat) (J : Ys) (v : Value) (L : List ByteArray) (W : World) (M : Nat → Prop) (pre D : List Cd) (e : Ending) (W' : World) : Prop := ∃ g, e = .returned (.bool g) ∧ WPost lo J v L W M pre D g W'
def WalkOk (lo : Nat) (J : Ys) (gf : Nat) (cap : Array Value) (T : List Cd) (w0 : World) (Z : Nat) : Prop := ∀ (L : List ByteArray) (x y : Si) (v : Value) (W : World) (M : Nat → Prop) (pre : List Cd),
  siZ x + siZ y < Z → SiAt w0 x → SiAt w0 y → Below w0.heap.size w0 W → OwnsT W lo v L → (∀ b, v.ownBlock = some b → ¬ M b) → J true pre M W → pre ++ (dl (L.map tl) x y).map toC <+: T → L.length + siZ x + siZ y ≤ 10000 → (joinL (L.map tl)).length + siW x + siW y ≤ 1000000 →
  Calls Try.prog 23 #[v, siP x, siP y, .func (.func gf) #[] cap] W (WQ lo J v L W M pre ((dl (L.map tl) x y).map toC))
/-- what the walk's loop holds -/
def WI (lo : Nat) (J : Ys) (w0 W : World) (M : Nat → Prop) (v fv : Value) (L : List ByteArray) (B : Nat) (MT : Nat → Prop) (pr : List Cd) (WT : World) (x y : Si) (ps : List (Pv (siI x) (siI y))) (X : World) : Prop :=
  ∃ M', WkS lo J w0 W M v fv L B true M' (pr ++ ((ps.map (·.1)).flatMap (pD (L.map tl) (siI x) (siI y))).map toC) X ∧ (∀ b, M' b → MT b ∨ WT.heap.size ≤ b) ∧ Kp (fun b => MT b ∨ v.ownBlock = some b) WT X
/-- it was left -/
def WX (lo : Nat) (J : Ys) (w0 W : World) (M : Nat → Prop) (v fv : Value) (L : List ByteArray) (B : Nat) (pr all : List Cd) {β : Type} (_ : List β) (X : World) : Prop :=
  ∃ M' qs, WkS lo J w0 W M v fv L B false M' (pr ++ qs) X ∧ qs <+: all
theorem WI.own {lo : Nat} {J : Ys} (hJ : Yd lo J) {w0 W : World} {M : Nat → Prop} {v fv : Value} {L : List ByteArray} {B : Nat} {MT : Nat → Prop} {pr : List Cd} {WT : World} {x y : Si} (hlo : w0.heap.size = lo) (hB : W.heap.size = B) (hs : B ≤ WT.heap.size) (N : Nat) (hN : WT.heap.size ≤ N) : OwnFrom N (WI lo J w0 W M v fv L B MT pr WT x y) := by
  rintro ps X X' row ⟨M', h1, h2, h3⟩ hg hr
  have hk := Kp.grown hg
  refine ⟨M', h1.side hJ hlo hB hk fun b e => ?_, h2, h3.trans hk fun b hb e => ?_⟩
  · obtain ⟨q1, o, ho, hc⟩ := hr b e
    exact ⟨by omega, fun _ => ⟨o, ho, hc⟩⟩
  · have := (hr b e).1
    omega
theorem WX.own {lo : Nat} {J : Ys} (hJ : Yd lo J) {w0 W : World} {M : Nat → Prop} {v fv : Value} {L : List ByteArray} {B : Nat} {pr all : List Cd} {β : Type} (hlo : w0.heap.size = lo) (hB : W.heap.size = B) (N : Nat) (hN : B ≤ N) : OwnFrom N (WX lo J w0 W M v fv L B pr all (β := β)) := by
  rintro ps X X' row ⟨M', qs, h1, h2⟩ hg hr
  refine ⟨M', qs, h1.side hJ hlo hB (Kp.grown hg) fun b e => ?_, h2⟩
  obtain ⟨q1, o, ho, hc⟩ := hr b e
  exact ⟨by omega, fun _ => ⟨o, ho, hc⟩⟩
theorem joinL_len1 (L : List By) (a : By) : (joinL (L ++ [a])).length ≤ (joinL L).length + 1 + a.length := by
  induction L with
  | nil => simp [joinL]
  | cons x L ih =>
    cases L with
    | nil => simp [joinL]; omega
    | cons y L =>
      simp only [List.cons_append, joinL, List.length_append, List.length_cons] at ih ⊢
      omega
/-- a pair's sides are smaller -/
theorem pair_small {x y : Si} (p : Pv (siI x) (siI y)) : siZ (pX (siI x) p.1.1) + siZ (pX (siI y) p.1.2) + 1 ≤ siZ x + siZ y ∧ siW (pX (siI x) p.1.1) + siW (pX (siI y) p.1.2) + 1 + (pNm (siI x) (siI y) p.1).size ≤ siW x + siW y := by
  obtain ⟨⟨i, j⟩, h1, h2, h3⟩ := p
  cases i with
  | none => cases j with
    | none => exact absurd rfl h3
    | some j =>
      have hj := h2 j rfl
      obtain ⟨b, hb⟩ : ∃ b, (siI y)[j]? = some b := ⟨(siI y)[j], by simp⟩
      have e0 : pNm (siI x) (siI y) (none, some j) = b.nm := by simp [pNm, pX, hb]
      have := item_small hb
      rw [e0]
      simp only [pX, hb]
      have hn0 : F.nil.weight = 0 := rfl
      simp only [siZ, siW, siF] at *
      omega
  | some i =>
    have hi := h1 i rfl
    obtain ⟨a, ha⟩ : ∃ a, (siI x)[i]? = some a := ⟨(siI x)[i], by simp⟩
    have e0 : pNm (siI x) (siI y) (some i, j) = a.nm := by simp [pNm, pX, ha]
    have q1 := item_small ha
    rw [e0]
    cases j with
    | none =>
      simp only [pX, ha]
      have hn0 : F.nil.weight = 0 := rfl
      simp only [siZ, siW, siF] at *
      omega
    | some j =>
      have hj := h2 j rfl
      obtain ⟨b, hb⟩ : ∃ b, (siI y)[j]? = some b := ⟨(siI y)[j], by simp⟩
      have q2 := item_small hb
      simp only [pX, ha, hb]
      have hn0 : F.nil.weight = 0 := rfl
      simp only [siZ, siW, siF] at *
      omega
theorem flat_pre {A B : List Kid} {L : List By} {ps : List Pr} {p : Pr} {all : List Pr} (h : ps ++ [p] <+: all) : ((ps.flatMap (pD L A B)).map toC ++ (pD L A B p).map toC) <+: (all.flatMap (pD L A B)).map toC := by
  obtain ⟨t, rfl⟩ := h
  simp only [List.flatMap_append, List.map_append, List.flatMap_cons, List.flatMap_nil, List.append_nil]
  exact List.prefix_append _ _
theorem under32w : Try.prog.underlying 32 = some (.pointer 68) := by kernel_rfl
theorem size68w : (Try.prog.info? 68).map (·.size) = some 40 := by kernel_rfl
theorem eqN (w : World) (a b : Option Addr) (h : a = none ∨ b = none) : (binOp BinOp.eql 32 (.pointer a) (.pointer b)).run Try.prog w = .ok (.bool (decide (a = b))) w := by
  have h : ∀ d : Nat, (Op.equalIn (d + 1) 32 (.pointer a) (.pointer b)).run Try.prog w = .ok (decide (a = b)) w := fun d => by
    cases a <;> cases b <;> simp_all [Op.equalIn, run_underlying under32w]
  simp only [binOp]
  simp [Op.equal, Op.maxDepth, h 9999]
theorem eqP {w : World} {x y : Si} (hx : SiAt w x) (hy : SiAt w y) (a b : Option Addr) (ha : siP x = .pointer a) (hb : siP y = .pointer b) : (binOp BinOp.eql 32 (.pointer a) (.pointer b)).run Try.prog w = .ok (.bool (decide (a = b))) w := by
  obtain ⟨j, hj, hjs⟩ := Option.map_eq_some_iff.1 size68w
  cases x with
  | none =>
    cases y with
    | none =>
      simp [siP] at ha hb
      subst ha hb
      exact eqN w _ _ (by simp)
    | some q =>
      simp [siP] at ha hb
      subst ha hb
      exact eqN w _ _ (by simp)
  | some p =>
    cases y with
    | none =>
      simp [siP] at ha hb
      subst ha hb
      exact eqN w _ _ (by simp)
    | some q =>
      simp [siP] at ha hb
      subst ha hb
      obtain ⟨c1, h1⟩ := (hx p rfl).2.2
      obtain ⟨c2, h2⟩ := (hy q rfl).2.2
      by_cases e : p.p = q.p
      · rw [e]
        simpa using run_eql_ptr_same (P := Try.prog) w ⟨q.p, 0, none⟩ under32w hj
      · have := run_eql_ptr_other (P := Try.prog) w (a := ⟨p.p, 0, none⟩) (b := ⟨q.p, 0, none⟩) under32w hj (by rw [hjs]; decide) (fun q => e (by injection q)) h1 h2
        simpa [e] using this
end Go.Proofs.Ytlelgboklkmkdaa
/-
  diff.walk: what a round of its loop finds.
-/
namespace Go.Proofs.Ytlelgboklkmkdaa
open Go.RowKit Ch
def adP (g : Nat) (i : Option Nat) : Option Addr := i.map fun i => ⟨g, 0 + i * 2, none⟩
/-- what is known of a round's memory -/
structure RF (v fv v3 sx sy : Value) (B g o D E : Nat) (p1 p2 : Option Addr) (nm : ByteArray) (X w1 w2 w3 : World) : Prop where
  c40 : X.drew.cell? ⟨B, 0, none⟩ = some v
  c41 : w1.cell? ⟨B, 0, none⟩ = some v
  c42 : w2.cell? ⟨B, 0, none⟩ = some v
  d0 : X.drew.cell? ⟨B + 1, 0, none⟩ = some fv
  d1 : w1.cell? ⟨B + 1, 0, none⟩ = some fv
  d2 : w2.cell? ⟨B + 1, 0, none⟩ = some fv
  d3 : w3.cell? ⟨B + 1, 0, none⟩ = some fv
  e3 : X.drew.alloc (.cells #[.pointer p1, .pointer p2] 100) = w1
  s3 : X.drew.heap.size = D
  e8 : w1.alloc (.cells #[.string nm] 9) = w2
  s8 : w1.heap.size = E
  m0 : w1.cell? ⟨D, 0, none⟩ = some (.pointer p1)
  m1 : w1.cell? ⟨D, 1, none⟩ = some (.pointer p2)
  hor : orP p1 p2 = some ⟨g, o, none⟩
  cn : w1.cell? ⟨g, o, none⟩ = some (.string nm)
  ha9 : (Builtin.append_ #[87, 87] 87 #[v, .slice (some ⟨E, 0, none⟩) 1 1]).run Try.prog w2 = .ok v3 w3
  hS1 : Calls Try.prog 42 #[.pointer p1] w3 fun e w' => e = .returned sx ∧ w' = w3
  hS2 : Calls Try.prog 42 #[.pointer p2] w3 fun e w' => e = .returned sy ∧ w' = w3
theorem sub_si {w : World} {g : Nat} {A : List Kid} (i : Option Nat) (hi : ∀ k, i = some k → k < A.length) (h : ∀ k a, A[k]? = some a → Ch.Lies w g (0 + k * 2) (kA a)) : Calls Try.prog 42 #[.pointer (adP g i)] w fun e w' => e = .returned (siP (pX A i)) ∧ w' = w := by
  cases i with
  | none => exact subtree_none w
  | some k =>
    have hk := hi k rfl
    obtain ⟨a, ha⟩ : ∃ a, A[k]? = some a := ⟨A[k], by simp⟩
    have e1 : siP (pX A (some k)) = .pointer (some ⟨a.p, 0, none⟩) := by simp [siP, pX, ha]
    rw [e1]
    exact subtree_some g (0 + k * 2) a.p w (h k a ha 1 _ rfl)
theorem round_facts {lo : Nat} {J : Ys} {w0 W : World} {M : Nat → Prop} {v fv : Value} {L : List ByteArray} {B : Nat} {M' : Nat → Prop} {pr : List Cd} {X : World} (h : WkS lo J w0 W M v fv L B true M' pr X) (hn : L.length ≤ 100000) {A A2 : List Kid} (gx gy : Nat)
    (lx : ∀ i a, A[i]? = some a → gx < X.heap.size ∧ v.ownBlock ≠ some gx ∧ Ch.Lies X gx (0 + i * 2) (kA a)) (ly : ∀ i a, A2[i]? = some a → gy < X.heap.size ∧ v.ownBlock ≠ some gy ∧ Ch.Lies X gy (0 + i * 2) (kA a)) (p : Pv A A2) :
    ∃ g o v3 w1 w2 w3, RF v fv v3 (siP (pX A p.1.1)) (siP (pX A2 p.1.2)) B g o X.heap.size (X.heap.size + 1) (adP gx p.1.1) (adP gy p.1.2) (pNm A A2 p.1) X w1 w2 w3 ∧ OwnsT w3 lo v3 (L ++ [pNm A A2 p.1]) ∧ Kp (fun b => v.ownBlock = some b) X w3 ∧ Behind w2 v v3 ∧ OwnsT w3 lo v L ∧ X.heap.size ≤ w2.heap.size := by
  obtain ⟨w1, hw1⟩ : ∃ w1, X.drew.alloc (.cells #[.pointer (adP gx p.1.1), .pointer (adP gy p.1.2)] 100) = w1 := ⟨_, rfl⟩
  obtain ⟨w2, hw2⟩ : ∃ w2, w1.alloc (.cells #[.string (pNm A A2 p.1)] 9) = w2 := ⟨_, rfl⟩
  have g1 : Below X.heap.size X w1 := by
    rw [← hw1]
    exact (Below.drews (Below.refl _ X) ⟨1, rfl⟩).alloc (Nat.le_refl _) _
  have s1 : w1.heap.size = X.heap.size + 1 := by rw [← hw1]; simp
  have g2' : Below w1.heap.size w1 w2 := by rw [← hw2]; exact (Below.refl _ w1).alloc (Nat.le_refl _) _
  have g2 : Below X.heap.size X w2 := Below.up g1 g2'
  have s2 : w2.heap.size = X.heap.size + 2 := by rw [← hw2]; simp [s1]
  have cE : w2.cell? ⟨X.heap.size + 1, 0, none⟩ = some (.string (pNm A A2 p.1)) := by
    have := heap_alloc_new w1 (.cells #[.string (pNm A A2 p.1)] 9)
    rw [hw2, s1] at this
    simp [World.cell?, this]
  obtain ⟨v3, w3, ha, o3, gr, bh, ol⟩ := names_app w2 lo v L (pNm A A2 p.1) (X.heap.size + 1) (grownT h.ow (Kp.of (S := fun _ => False) g2) (fun _ _ e => e)) cE (by have := h.l0; have := h.kp.size; have := h.b4.lt; omega) hn
  have k3 : Kp (fun b => v.ownBlock = some b) X w3 := (Kp.of (S := fun b => v.ownBlock = some b) g2).trans (Kp.grown gr) fun _ _ e => e
  have l4 := h.b4.lt
  have l7 := h.b7.lt
  have n7 : ¬ v.ownBlock = some (B + 1) := fun e => by have := h.n5 _ e; omega
  have lx3 : ∀ k a, A[k]? = some a → Ch.Lies w3 gx (0 + k * 2) (kA a) := fun k a hk j u hj => by
    obtain ⟨q1, q2, q3⟩ := lx k a hk
    exact (World.cell?_of_block (a := ⟨gx, 0 + k * 2 + j, none⟩) (k3.block gx q1 q2)).trans (q3 j u hj)
  have ly3 : ∀ k a, A2[k]? = some a → Ch.Lies w3 gy (0 + k * 2) (kA a) := fun k a hk j u hj => by
    obtain ⟨q1, q2, q3⟩ := ly k a hk
    exact (World.cell?_of_block (a := ⟨gy, 0 + k * 2 + j, none⟩) (k3.block gy q1 q2)).trans (q3 j u hj)
  obtain ⟨g, o, hor, cn⟩ : ∃ g o, orP (adP gx p.1.1) (adP gy p.1.2) = some ⟨g, o, none⟩ ∧ w1.cell? ⟨g, o, none⟩ = some (.string (pNm A A2 p.1)) := by
    obtain ⟨⟨i, j⟩, h1, h2, h3⟩ := p
    cases i with
    | some i =>
      have hi := h1 i rfl
      obtain ⟨a, ha⟩ : ∃ a, A[i]? = some a := ⟨A[i], by simp⟩
      have e0 : pNm A A2 (some i, j) = a.nm := by simp [pNm, pX, ha]
      obtain ⟨q1, _, q3⟩ := lx i a ha
      refine ⟨gx, 0 + i * 2, rfl, ?_⟩
      rw [e0]
      exact (g1.cell (p := ⟨gx, 0 + i * 2, none⟩) q1).trans (q3 0 _ rfl)
    | none =>
      cases j with
      | none => exact absurd rfl h3
      | some j =>
        have hj := h2 j rfl
        obtain ⟨a, ha⟩ : ∃ a, A2[j]? = some a := ⟨A2[j], by simp⟩
        have e0 : pNm A A2 (none, some j) = a.nm := by simp [pNm, pX, ha]
        obtain ⟨q1, _, q3⟩ := ly j a ha
        refine ⟨gy, 0 + j * 2, rfl, ?_⟩
        rw [e0]
        exact (g1.cell (p := ⟨gy, 0 + j * 2, none⟩) q1).trans (q3 0 _ rfl)
  have hrow : w1.heap[X.heap.size]? = some (.cells #[.pointer (adP gx p.1.1), .pointer (adP gy p.1.2)] 100 (0, 0)) := by rw [← hw1]; exact heap_alloc_new X.drew _
  refine ⟨g, o, v3, w1, w2, w3, ⟨h.b4.cell, (g1.cell (p := ⟨B, 0, none⟩) l4).trans h.b4.cell, (g2.cell (p := ⟨B, 0, none⟩) l4).trans h.b4.cell, h.b7.cell, (g1.cell (p := ⟨B + 1, 0, none⟩) l7).trans h.b7.cell, (g2.cell (p := ⟨B + 1, 0, none⟩) l7).trans h.b7.cell, (World.cell?_of_block (a := ⟨B + 1, 0, none⟩) (k3.block _ l7 n7)).trans h.b7.cell, hw1, rfl, hw2, s1, ?_, ?_, hor, cn, ha, sub_si p.1.1 p.2.1 lx3, sub_si p.1.2 p.2.2.1 ly3⟩, o3, k3, bh, ol, by omega⟩
  · simp [World.cell?, hrow]
  · simp [World.cell?, hrow]
end Go.Proofs.Ytlelgboklkmkdaa
