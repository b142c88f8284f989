import Derived.Test.YtlelgboklkmkdaaDWk
/-
  Drawn regions where a call's answer is known only when it has come: the values as a family over a letter, chosen at the call.
-/
namespace Go.Proofs.Ytlelgboklkmkdaa.Ch
open Go.RowKit
section
variable {α : Type} {P : Program} {ops : Array Oper} {Q : Exit → Act → World → Prop} {V : α → Nat → Value} {t0 t : Array Value} {done : Nat → Bool} {Mem : α → (Nat → Bool) → World → Prop}
/-- as IV, for some letter -/
def IE (ops : Array Oper) (V : α → Nat → Value) (t0 : Array Value) (Mem : α → (Nat → Bool) → World → Prop) (done : Nat → Bool) (a : Act) (w : World) : Prop := ∃ r, IV ops (V r) t0 (Mem r) done a w
/-- another letter: what is done has the same value -/
theorem Slots.re {V V' : Nat → Value} (h : Slots ops V t0 t done) (he : ∀ k, done k = true → V' k = V k) : Slots ops V' t0 t done := by
  obtain ⟨h1, h2, h3⟩ := h
  refine ⟨h1, h2, ?_⟩
  intro i o d ho hd hi
  rw [he i hi]
  exact h3 i o d ho hd hi
theorem ie_val {i d : Nat} {o : Oper} {w w' : World} (r : α) (hB : dstB ops t0.size = true) (ho : ops[i]? = some o) (hg : Region.wanted o (yielded ops t) = true) (hd : o.dst = some d) (hs : Slots ops (V r) t0 t done) (hM : Mem r (upd done i) w') (hrun : (execOp (Act.mk t []).eval o).run P w = .ok (.value (V r i)) w') : wpOp P ops Q i (IE ops V t0 Mem (upd done i)) ⟨t, []⟩ w := by
  unfold wpOp
  rw [ho]
  simp only
  rw [if_pos hg]
  left
  unfold Oper.wp
  rw [hrun, Oper.upon_value, hd]
  exact ⟨r, _, rfl, hs.put hB ho hd, hM⟩
theorem ie_store {i : Nat} {o : Oper} {w w' : World} (r : α) (ho : ops[i]? = some o) (hg : Region.wanted o (yielded ops t) = true) (hd : o.dst = none) (hs : Slots ops (V r) t0 t done) (hM : Mem r (upd done i) w') (hrun : (execOp (Act.mk t []).eval o).run P w = .ok .skip w') : wpOp P ops Q i (IE ops V t0 Mem (upd done i)) ⟨t, []⟩ w := by
  unfold wpOp
  rw [ho]
  simp only
  rw [if_pos hg]
  left
  unfold Oper.wp
  rw [hrun, Oper.upon_skip, hd]
  exact ⟨r, _, rfl, hs.skip ho hd, hM⟩
/-- the call chooses the letter -/
theorem ie_call {i d : Nat} {o : Oper} {w : World} (r : α) (f : FuncId) (args : Array Value) (hB : dstB ops t0.size = true) (ho : ops[i]? = some o) (hg : Region.wanted o (yielded ops t) = true) (hd : o.dst = some d) (hs : Slots ops (V r) t0 t done) (hrun : (execOp (Act.mk t []).eval o).run P w = .ok (.enter f args) w)
    (hC : Calls P f args w fun e w' => ∃ r', e = .returned (V r' i) ∧ (∀ k, done k = true → V r' k = V r k) ∧ Mem r' (upd done i) w') : wpOp P ops Q i (IE ops V t0 Mem (upd done i)) ⟨t, []⟩ w := by
  unfold wpOp
  rw [ho]
  simp only
  rw [if_pos hg]
  left
  unfold Oper.wp
  rw [hrun]
  refine Calls.mono hC ?_
  rintro e w' ⟨r', rfl, he, hM⟩
  rw [hd]
  exact ⟨r', _, rfl, (hs.re he).put hB ho hd, hM⟩
end
end Go.Proofs.Ytlelgboklkmkdaa.Ch
/-
  Drawn regions within a fence whose call's answer is known only when it has come; what is kept but for some blocks.
-/
namespace Go.Proofs.Ytlelgboklkmkdaa.Ch
open Go.RowKit
section
variable {α : Type} {F : Fence} {n0 : Nat} {P : Program} {ops : Array Oper} {Q : Exit → Act → World → Prop} {V : α → Nat → Value} {t0 t : Array Value} {done : Nat → Bool} {Mem : α → (Nat → Bool) → World → Prop}
theorem ie_valI {i d : Nat} {o : Oper} {w w' : World} (r : α) (hF : ∀ f, F.fn f) (hB : dstB ops t0.size = true) (ho : ops[i]? = some o) (hg : Region.wanted o (yielded ops t) = true) (hd : o.dst = some d) (hs : Slots ops (V r) t0 t done) (hn : ∀ c, o.op ≠ .defer c) (hM : Mem r (upd done i) w') (hrun : (execOp (Act.mk t []).eval o).run P w = .ok (.value (V r i)) w') : wpOpIn F n0 P ops Q i (IE ops V t0 Mem (upd done i)) ⟨t, []⟩ w := by
  unfold wpOpIn
  rw [ho]
  simp only
  rw [if_pos hg]
  refine ⟨fun f _ => hF f, ?_⟩
  rw [Oper.semAt_plain _ _ _ hn, hrun, Oper.uponIn_value, hd]
  exact ⟨r, _, rfl, hs.put hB ho hd, hM⟩
theorem ie_storeI {i : Nat} {o : Oper} {w w' : World} (r : α) (hF : ∀ f, F.fn f) (ho : ops[i]? = some o) (hg : Region.wanted o (yielded ops t) = true) (hd : o.dst = none) (hs : Slots ops (V r) t0 t done) (hn : ∀ c, o.op ≠ .defer c) (hM : Mem r (upd done i) w') (hrun : (execOp (Act.mk t []).eval o).run P w = .ok .skip w') : wpOpIn F n0 P ops Q i (IE ops V t0 Mem (upd done i)) ⟨t, []⟩ w := by
  unfold wpOpIn
  rw [ho]
  simp only
  rw [if_pos hg]
  refine ⟨fun f _ => hF f, ?_⟩
  rw [Oper.semAt_plain _ _ _ hn, hrun, Oper.uponIn_skip, hd]
  exact ⟨r, t, rfl, hs.skip ho hd, hM⟩
theorem ie_skipI {i d : Nat} {o : Oper} {w : World} (r : α) (hF : ∀ f, F.fn f) (hB : dstB ops t0.size = true) (ho : ops[i]? = some o) (hg : Region.wanted o (yielded ops t) = false) (hd : o.dst = some d) (hs : Slots ops (V r) t0 t done) (hM : Mem r (upd done i) w) (hV : V r i = undef) : wpOpIn F n0 P ops Q i (IE ops V t0 Mem (upd done i)) ⟨t, []⟩ w := by
  unfold wpOpIn
  rw [ho]
  simp only
  rw [if_neg (by rw [hg]; simp), hd]
  have := hs.put hB ho hd
  rw [hV] at this
  exact ⟨fun f _ => hF f, r, _, rfl, this, hM⟩
theorem ie_callI {i d : Nat} {o : Oper} {w : World} (r : α) (f : FuncId) (args : Array Value) (hF : ∀ f, F.fn f) (hD : F.depth.isSome = true → 1 ≤ n0) (hB : dstB ops t0.size = true) (ho : ops[i]? = some o) (hg : Region.wanted o (yielded ops t) = true) (hd : o.dst = some d) (hs : Slots ops (V r) t0 t done) (hn : ∀ c, o.op ≠ .defer c) (hrun : (execOp (Act.mk t []).eval o).run P w = .ok (.enter f args) w)
    (hC : CallsIn F (n0 - 1) P f args w fun e w' => ∃ r', e = .returned (V r' i) ∧ (∀ k, done k = true → V r' k = V r k) ∧ Mem r' (upd done i) w') : wpOpIn F n0 P ops Q i (IE ops V t0 Mem (upd done i)) ⟨t, []⟩ w := by
  unfold wpOpIn
  rw [ho]
  simp only
  rw [if_pos hg]
  refine ⟨fun f _ => hF f, ?_⟩
  rw [Oper.semAt_plain _ _ _ hn, hrun, Oper.uponIn_enter]
  refine ⟨hD, CallsIn.mono hC ?_⟩
  rintro e w' ⟨r', rfl, he, hM⟩
  rw [hd]
  exact ⟨r', _, rfl, (hs.re he).put hB ho hd, hM⟩
end
end Go.Proofs.Ytlelgboklkmkdaa.Ch
namespace Go.Proofs.Ytlelgboklkmkdaa
open Go.RowKit Ch
/-- all but the blocks of S is as it was; memory grows -/
structure Kp (S : Nat → Prop) (w w' : World) : Prop where
  os : w'.os = w.os
  tape : w'.tape = w.tape
  output : w'.output = w.output
  size : w.heap.size ≤ w'.heap.size
  block : ∀ b, b < w.heap.size → ¬ S b → w'.heap[b]? = w.heap[b]?
theorem Kp.trans {S S' : Nat → Prop} {w w1 w2 : World} (h : Kp S w w1) (k : Kp S' w1 w2) (hs : ∀ b, b < w.heap.size → S' b → S b) : Kp S w w2 :=
  ⟨k.os.trans h.os, k.tape.trans h.tape, k.output.trans h.output, Nat.le_trans h.size k.size, fun b hb hn => (k.block b (Nat.lt_of_lt_of_le hb h.size) fun e => hn (hs b hb e)).trans (h.block b hb hn)⟩
theorem Kp.mono {S S' : Nat → Prop} {w w1 : World} (h : Kp S w w1) (hs : ∀ b, b < w.heap.size → S b → S' b) : Kp S' w w1 := ⟨h.os, h.tape, h.output, h.size, fun b hb hn => h.block b hb fun e => hn (hs b hb e)⟩
theorem Kp.of {S : Nat → Prop} {w w1 : World} (h : Below w.heap.size w w1) : Kp S w w1 := ⟨h.os, h.tape, h.output, h.size, fun b hb _ => h.block b hb⟩
theorem Kp.below {S : Nat → Prop} {B : Nat} {w w1 : World} (h : Kp S w w1) (hB : B ≤ w.heap.size) (hs : ∀ b, S b → B ≤ b) : Below B w w1 := ⟨h.os, h.tape, h.output, h.size, fun b hb => h.block b (by omega) fun e => by have := hs b e; omega⟩
theorem Kp.refl (S : Nat → Prop) (w : World) : Kp S w w := Kp.of (Below.refl _ _)
theorem Kp.grown {w w1 : World} {row : Option Nat} (h : w.grownBy w1 row) : Kp (fun b => row = some b) w w1 := ⟨h.os, h.tape, h.output, h.size, fun b hb hn => h.block b hb fun e => hn e.symm⟩
theorem Kp.set (w : World) (b o : Nat) (u : Value) : Kp (fun c => c = b) w (w.setCell ⟨b, o, none⟩ u) := ⟨rfl, rfl, rfl, by simp, fun c _ hn => Below.heap_setCell w ⟨b, o, none⟩ u c hn⟩
/-- a yield's state: how it goes on, what was yielded, whose blocks are its own -/
abbrev Ys := Bool → List Cd → (Nat → Prop) → World → Prop
structure Yd (lo : Nat) (J : Ys) : Prop where
  keep : ∀ {g pre M W W'} (S : Nat → Prop), J g pre M W → Kp S W W' → (∀ b, S b → ¬ M b) → (∀ b, S b → lo ≤ b) → J g pre M W'
  own : ∀ {g pre M W b}, J g pre M W → M b → lo ≤ b ∧ ∃ o : Obj, W.heap[b]? = some o ∧ o.isCells = true
/-- the function that is handed in -/
def YOk (gf : Nat) (cap : Array Value) (J : Ys) (T : List Cd) : Prop := ∀ pre M c W, J true pre M W → pre ++ [c] <+: T →
  Calls Try.prog gf (#[.agg (cc c)] ++ cap) W fun e W' => ∃ g M', e = .returned (.bool g) ∧ J g (pre ++ [c]) M' W' ∧ Kp M W W' ∧ ∀ b, M' b → M b ∨ W.heap.size ≤ b
theorem Yd.lt {lo : Nat} {J : Ys} (h : Yd lo J) {g pre M W b} (hj : J g pre M W) (hb : M b) : b < W.heap.size := by
  obtain ⟨_, o, ho, _⟩ := h.own hj hb
  exact (Array.getElem?_eq_some_iff.1 ho).1
theorem Yd.up {lo : Nat} {J : Ys} (h : Yd lo J) {g pre M W W'} (hj : J g pre M W) (hb : Below W.heap.size W W') : J g pre M W' := h.keep (fun _ => False) hj (Kp.of hb) (fun _ e => e.elim) (fun _ e => e.elim)
end Go.Proofs.Ytlelgboklkmkdaa
