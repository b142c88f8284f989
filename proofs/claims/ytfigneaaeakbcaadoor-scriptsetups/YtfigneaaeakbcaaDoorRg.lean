/-
  Drawn regions within a fence; a range over an iterator whose body knows its place in what is yielded.
-/
import Derived.Test.YtfigneaaeakbcaaDoorHMc
import Derived.RangeFuncFrom
import Derived.RangeFuncNested
import Derived.RangeFuncBound
import Derived.RangeFuncCalls
import Derived.RangeFuncLeaves
import Derived.RangeFuncBox
import Derived.OwnWalkIn
import Derived.TacticsInMore
import Derived.LoopNIn
import Derived.LoopIn
import Derived.RegionIn
import Derived.Shelf.Abstract
namespace Go.Proofs.YtfigneaaeakbcaaDoor.Hm
open Go.RowKit
section
variable {α : Type} {F : Fence} {n0 : Nat} {P : Program} {ops : Array Oper} {Q : Exit → Act → World → Prop} {V : α → Nat → Value} {t0 t : Array Value} {done : Nat → Bool} {Mem : α → (Nat → Bool) → World → Prop}
theorem ie_valI {i d : Nat} {o : Oper} {w w' : World} (r : α) (hF : ∀ f, F.fn f) (hB : dstB ops t0.size = true) (ho : ops[i]? = some o) (hg : Region.wanted o (yielded ops t) = true) (hd : o.dst = some d) (hs : Slots ops (V r) t0 t done) (hn : ∀ c, o.op ≠ .defer c) (hM : Mem r (upd done i) w') (hrun : (execOp (Act.mk t []).eval o).run P w = .ok (.value (V r i)) w') : wpOpIn F n0 P ops Q i (IE ops V t0 Mem (upd done i)) ⟨t, []⟩ w := by
  unfold wpOpIn
  rw [ho]
  simp only
  rw [if_pos hg]
  refine ⟨fun f _ => hF f, ?_⟩
  rw [Oper.semAt_plain _ _ _ hn, hrun, Oper.uponIn_value, hd]
  exact ⟨r, _, rfl, hs.put hB ho hd, hM⟩
theorem ie_storeI {i : Nat} {o : Oper} {w w' : World} (r : α) (hF : ∀ f, F.fn f) (ho : ops[i]? = some o) (hg : Region.wanted o (yielded ops t) = true) (hd : o.dst = none) (hs : Slots ops (V r) t0 t done) (hn : ∀ c, o.op ≠ .defer c) (hM : Mem r (upd done i) w') (hrun : (execOp (Act.mk t []).eval o).run P w = .ok .skip w') : wpOpIn F n0 P ops Q i (IE ops V t0 Mem (upd done i)) ⟨t, []⟩ w := by
  unfold wpOpIn
  rw [ho]
  simp only
  rw [if_pos hg]
  refine ⟨fun f _ => hF f, ?_⟩
  rw [Oper.semAt_plain _ _ _ hn, hrun, Oper.uponIn_skip, hd]
  exact ⟨r, t, rfl, hs.skip ho hd, hM⟩
theorem ie_skipI {i d : Nat} {o : Oper} {w : World} (r : α) (hF : ∀ f, F.fn f) (hB : dstB ops t0.size = true) (ho : ops[i]? = some o) (hg : Region.wanted o (yielded ops t) = false) (hd : o.dst = some d) (hs : Slots ops (V r) t0 t done) (hM : Mem r (upd done i) w) (hV : V r i = undef) : wpOpIn F n0 P ops Q i (IE ops V t0 Mem (upd done i)) ⟨t, []⟩ w := by
  unfold wpOpIn
  rw [ho]
  simp only
  rw [if_neg (by rw [hg]; simp), hd]
  have := hs.put hB ho hd
  rw [hV] at this
  exact ⟨fun f _ => hF f, r, _, rfl, this, hM⟩
theorem ie_callI {i d : Nat} {o : Oper} {w : World} (r : α) (f : FuncId) (args : Array Value) (hF : ∀ f, F.fn f) (hD : F.depth.isSome = true → 1 ≤ n0) (hB : dstB ops t0.size = true) (ho : ops[i]? = some o) (hg : Region.wanted o (yielded ops t) = true) (hd : o.dst = some d) (hs : Slots ops (V r) t0 t done) (hn : ∀ c, o.op ≠ .defer c) (hrun : (execOp (Act.mk t []).eval o).run P w = .ok (.enter f args) w)
    (hC : CallsIn F (n0 - 1) P f args w fun e w' => ∃ r', e = .returned (V r' i) ∧ (∀ k, done k = true → V r' k = V r k) ∧ Mem r' (upd done i) w') : wpOpIn F n0 P ops Q i (IE ops V t0 Mem (upd done i)) ⟨t, []⟩ w := by
  unfold wpOpIn
  rw [ho]
  simp only
  rw [if_pos hg]
  refine ⟨fun f _ => hF f, ?_⟩
  rw [Oper.semAt_plain _ _ _ hn, hrun, Oper.uponIn_enter]
  refine ⟨hD, CallsIn.mono hC ?_⟩
  rintro e w' ⟨r', rfl, he, hM⟩
  rw [hd]
  exact ⟨r', _, rfl, (hs.re he).put hB ho hd, hM⟩
theorem ie_valLI {i d : Nat} {o : Oper} {w : World} (r r' : α) (w' : World) (hF : ∀ f, F.fn f) (hB : dstB ops t0.size = true) (ho : ops[i]? = some o) (hg : Region.wanted o (yielded ops t) = true) (hd : o.dst = some d) (hs : Slots ops (V r) t0 t done) (hn : ∀ c, o.op ≠ .defer c) (he : ∀ k, done k = true → V r' k = V r k) (hM : Mem r' (upd done i) w') (hrun : (execOp (Act.mk t []).eval o).run P w = .ok (.value (V r' i)) w') : wpOpIn F n0 P ops Q i (IE ops V t0 Mem (upd done i)) ⟨t, []⟩ w := by
  unfold wpOpIn
  rw [ho]
  simp only
  rw [if_pos hg]
  refine ⟨fun f _ => hF f, ?_⟩
  rw [Oper.semAt_plain _ _ _ hn, hrun, Oper.uponIn_value, hd]
  exact ⟨r', _, rfl, (hs.re he).put hB ho hd, hM⟩
end
end Go.Proofs.YtfigneaaeakbcaaDoor.Hm
namespace Go.Proofs.YtfigneaaeakbcaaDoor
open Go.RowKit Go.Shelf Hm
/-- an iterator's contract: each yield knows what was yielded up to it -/
def SeqAt {α : Type} (F : Fence) (n : Nat) (P : Program) (g : Nat) (lb : Array Value) (encs : α → Array Value) (Kq : World → World → Prop) (S Sp : List α → Prop) (w : World) : Prop :=
  ∀ (l : Nat) (J Jx : List α → World → Prop) (W : World), Below w.heap.size w W → AbidesFrom W.heap.size J → AbidesFrom W.heap.size Jx →
    (∀ pre x W1, J pre W1 → Sp (pre ++ [x]) → YieldAt F (n - 1) P l (encs x) W1 fun e W' => (e = .returned (.bool true) ∧ J (pre ++ [x]) W' ∧ Kq W1 W') ∨ (e = .returned (.bool false) ∧ Jx (pre ++ [x]) W')) →
    J [] W → CallsIn F n P g (#[.func (.yield l) #[] #[]] ++ lb) W fun e W' => (∃ v, e = .returned v) ∧ ((∃ xs, S xs ∧ J xs W') ∨ (∃ pre, Sp pre ∧ Jx pre W'))
theorem wpIn_range_at {F : Fence} {n : Nat} {P : Program} {α : Type} {g : Operand} {ps : Array Tmp} {assign body : Code} {Q : Exit → Act → World → Prop} {a : Act} {w : World}
    (hro : F.round = none) (h1 : 1 ≤ n) {gf : Nat} {lb : Array Value} (hg : a.eval g = .func (.func gf) #[] lb) (hFg : F.fn gf) (eg : ∀ args w, (callFunc gf args).run P w = .ok (.enter gf args) w)
    {encs : α → Array Value} {Kq : World → World → Prop} {S Sp : List α → Prop} {w0 : World} (hseq : SeqAt F (n - 1) P gf lb encs Kq S Sp w0)
    (hKt : ∀ {A B C : World}, Kq A B → Kq B C → Kq A C) (hKb : ∀ (W : World) (l : Nat) (o o' : Obj), w.heap.size ≤ l → W.heap[l]? = some o → o.isCells = false → o.isWalk = false → Kq W (W.putObj l o')) (hb0 : Below w0.heap.size w0 w) (hps : ∀ x, (encs x).size = ps.size)
    (I : List α → World → Prop) (Ix : List α → World → Prop) (hI : OwnFrom w.heap.size I) (hIx : OwnFrom w.heap.size Ix) (h0 : I [] w) (a₁ : α → Act)
    (hassign : ∀ (l : Nat) (x : α) (W : World) (K : Act → World → Prop), K (a₁ x) W →
      assign.wpIn (F.inRound l) (n - 1 - 1) P (Exit.then K (fun _ _ _ => False)) { tmps := (ps.zip (encs x)).foldl (fun t (p, v) => t.setIfInBounds p v) a.tmps, defers := [] } W)
    (hbody : ∀ (l : Nat) (pre : List α) (x : α) (W : World), I pre W → Sp (pre ++ [x]) → body.wpIn (F.inRound l) (n - 1 - 1) P (fun e _ W' => (e = .normal ∧ KeepsOthers W W' ∧ Kq W W' ∧ I (pre ++ [x]) W') ∨ (e = .ret ∧ KeepsOthers W W' ∧ Ix (pre ++ [x]) W')) (a₁ x) W)
    (hdone : ∀ (D : Nat) (xs : List α) (W : World), w.heap.size ≤ D → S xs → I xs W → W.heap[D]? = some (.deferred (some [])) → Q .normal { a with defers := { target := .collected D, args := #[] } :: a.defers } W)
    (hstop : ∀ (D : Nat) (pre : List α) (W : World), w.heap.size ≤ D → Sp pre → Ix pre W → W.heap[D]? = some (.deferred (some [])) → Code.ret.wpIn F n P Q { a with defers := { target := .collected D, args := #[] } :: a.defers } W) :
    (Code.rangeFunc g ps assign body).wpIn F n P Q a w := by
  refine wpIn_rangeFunc ?_
  intro fn hfn
  rw [hro]
  obtain ⟨rc, hrc⟩ : ∃ rc : LoopState → Option Code → Loop, rc = fun s p => { state := s, pending := p, fn, tmps := a.tmps, params := ps, assign, body, defers := w.heap.size } := ⟨_, rfl⟩
  obtain ⟨D, hD⟩ : ∃ D, w.heap.size = D := ⟨_, rfl⟩
  obtain ⟨W1, hW1⟩ : ∃ W1, (w.alloc (.deferred (some []))).alloc (.loop (rc .ready none)) = W1 := ⟨_, rfl⟩
  have hL1 : W1.heap[D + 1]? = some (.loop (rc .ready none)) := by
    rw [← hW1, ← hD]
    have := World.alloc_heap_new (w.alloc (.deferred (some []))) (.loop (rc .ready none))
    rwa [World.size_alloc] at this
  have hK1 : W1.heap[D]? = some (.deferred (some [])) := by
    rw [← hW1, ← hD]
    exact (Below.heap_alloc _ _ _ (by simp)).trans (World.alloc_heap_new w _)
  have hI1 : I [] W1 := by rw [← hW1]; exact hI.alloc _ (hI.alloc _ h0)
  have hb1 : Below w0.heap.size w0 W1 := by
    rw [← hW1]
    exact hb0.trans ((((Below.refl _ w).alloc (Nat.le_refl _) _).alloc (by simp) _).mono hb0.size)
  have hs1 : W1.heap.size = D + 2 := by rw [← hW1, ← hD]; simp
  have old : ∀ {A : World} {row : Option Nat}, (∀ r, row = some r → W1.heap.size ≤ r ∧ ∃ o : Obj, A.heap[r]? = some o ∧ o.isWalk = true) → ∀ r, row = some r → w.heap.size ≤ r ∧ ∃ o : Obj, A.heap[r]? = some o ∧ o.isCells = false := fun hr r e => by
    obtain ⟨hB, o, ho, hw⟩ := hr r e
    exact ⟨by omega, o, ho, Obj.not_cells_of_walk hw⟩
  refine ⟨D + 1, [{ target := .collected D, args := #[] }], W1, { target := .fn (.func gf) lb, args := #[.func (.yield (D + 1)) #[] #[]] }, W1, gf, #[.func (.yield (D + 1)) #[] #[]] ++ lb, W1, ?_, ?_, ?_, ?_, fun _ => h1, ?_⟩
  · rw [← hW1, ← hD, hrc]
    exact run_enterLoop_outer _ _ _ _ _
  · simp only [resolve, hg]
    simp [go_sem]
  · intro f hf
    simp [Target.leads] at hf
    subst hf
    exact hFg
  · simp [invoke, go_sem, eg]
  · refine (hseq (D + 1) (fun pre W => I pre W ∧ W.heap[D + 1]? = some (.loop (rc .ready none)) ∧ W.heap[D]? = some (.deferred (some [])))
      (fun pre W => Ix pre W ∧ W.heap[D + 1]? = some (.loop (rc .done (some .ret))) ∧ W.heap[D]? = some (.deferred (some []))) W1 hb1
      (fun s A B row hs hg' hr => ⟨hI s A B row hs.1 hg' (old hr), (grownBy_keeps hg' (fun r e => (hr r e).2) hs.2.1 rfl).trans hs.2.1, (grownBy_keeps hg' (fun r e => (hr r e).2) hs.2.2 rfl).trans hs.2.2⟩)
      (fun s A B row hs hg' hr => ⟨hIx s A B row hs.1 hg' (old hr), (grownBy_keeps hg' (fun r e => (hr r e).2) hs.2.1 rfl).trans hs.2.1, (grownBy_keeps hg' (fun r e => (hr r e).2) hs.2.2 rfl).trans hs.2.2⟩)
      ?_ ⟨hI1, hL1, hK1⟩).mono ?_
    · rintro pre x W ⟨hi, hl, hk⟩ hsp
      have hlt : D + 1 < W.heap.size := (Array.getElem?_eq_some_iff.1 hl).1
      obtain ⟨Wb, hWb⟩ : ∃ Wb, W.putObj (D + 1) (.loop (rc .busy none)) = Wb := ⟨_, rfl⟩
      have hbeg : (Instr.beginRound (D + 1)).run P W = .ok () Wb := by
        have := run_beginRound (P := P) hl (by rw [hrc])
        rw [← hWb]
        rw [hrc] at this ⊢
        exact this
      have hl2 : Wb.heap[D + 1]? = some (.loop (rc .busy none)) := by rw [← hWb]; exact World.putObj_heap_same hlt
      have hk2 : Wb.heap[D]? = some (.deferred (some [])) := by rw [← hWb]; exact (World.putObj_heap_other (by omega)).trans hk
      have hi2 : I pre Wb := by rw [← hWb]; exact hI.putObj _ hi (by omega) hl rfl
      have hq2 : Kq W Wb := by rw [← hWb]; exact hKb _ _ _ _ (by omega) hl rfl rfl
      have hy := run_yield (P := P) (args := encs x) hl (by rw [hrc]; exact hps x)
      rw [hrc] at hy
      refine ⟨fn, _, assign, body, hy, roundIn_of_wpIn hfn (hassign _ x W _ ⟨_, hbeg, ?_⟩)⟩
      refine wpIn_mono (hbody _ pre x Wb hi2 hsp) ?_
      rintro e a3 W3 (⟨rfl, hk3, hq3, hi3⟩ | ⟨rfl, hk3, hi3⟩)
      · have hl3 := hk3.same _ _ hl2 rfl
        have hr := run_endRound (P := P) none hl3
        rw [hrc] at hr hl3
        refine ⟨_, _, hr, .inl ⟨rfl, ⟨hI.putObj _ hi3 (by omega) hl3 rfl, ?_, (World.putObj_heap_other (by omega)).trans (hk3.same _ _ hk2 rfl)⟩, hKt (hKt hq2 hq3) (hKb _ _ _ _ (by omega) hl3 rfl rfl)⟩⟩
        rw [hrc]
        exact World.putObj_heap_same (Array.getElem?_eq_some_iff.1 hl3).1
      · have hl3 := hk3.same _ _ hl2 rfl
        have hr := run_endRound (P := P) (some .ret) hl3
        rw [hrc] at hr hl3
        refine ⟨_, _, hr, .inr ⟨rfl, hIx.putObj _ hi3 (by omega) hl3 rfl, ?_, (World.putObj_heap_other (by omega)).trans (hk3.same _ _ hk2 rfl)⟩⟩
        rw [hrc]
        exact World.putObj_heap_same (Array.getElem?_eq_some_iff.1 hl3).1
    · rintro e W2 ⟨⟨v, rfl⟩, (⟨xs, hS, hi, hl, hk⟩ | ⟨pre, hSp, hi, hl, hk⟩)⟩
      · have hr := run_endLoop (P := P) hl (by rw [hrc]; simp)
        rw [hrc] at hr
        have hq := hdone D xs _ (by omega) hS (hI.putObj (.loop { rc .ready none with state := .exhausted }) hi (by omega) hl rfl) ((World.putObj_heap_other (by omega)).trans hk)
        rw [hrc] at hq
        exact ⟨none, _, hr, hq⟩
      · have hr := run_endLoop (P := P) hl (by rw [hrc]; simp)
        rw [hrc] at hr
        have hq := hstop D pre _ (by omega) hSp (hIx.putObj (.loop { rc .done (some .ret) with state := .exhausted }) hi (by omega) hl rfl) ((World.putObj_heap_other (by omega)).trans hk)
        rw [hrc] at hq
        exact ⟨some .ret, _, hr, hq⟩

def RetM (fn : Func) (R : Ending → World → Prop) : Exit → Act → World → Prop
  | .ret, a, w => LeavesInM Fence.wide 3 Tryd.prog fn a.tmps R a.defers .returning w
  | _, _, _ => False
theorem RetM.post {fn : Func} {R : Ending → World → Prop} : ∀ e a w, RetM fn R e a w → bodyPostM Fence.wide 3 Tryd.prog fn R e a w
  | .ret, _, _, h => h
  | .normal, _, _, h | .panic _, _, _, h | .outgrown, _, _, h | .exit _, _, _, h | .goto _, _, _, h => h.elim
theorem wpListIn_execW {F : Fence} {n : Nat} {ops : Array Oper} {rest : List Oper} {o : Oper} {a : Act} {w : World} {Q : Exit → Act → World → Prop} (v : Value) (w' : World) (hg : o.guard = none)
    (he : (execOp a.eval o).run Tryd.prog w = .ok (.value v) w') (hn : ∀ c, o.op ≠ .defer c) (ha : ∀ f, o.about Tryd.prog w a.eval = some f → F.fn f) (h : wpListIn F n Tryd.prog ops Q rest (a.put o.dst v) w') : wpListIn F n Tryd.prog ops Q (o :: rest) a w := by
  refine wpListIn_plain hg fun K hK => ?_
  refine ⟨ha, ?_⟩
  rw [Oper.semAt_plain _ _ _ hn, he, Oper.uponIn_value]
  exact hK _ _ h
theorem wpListIn_skipW {F : Fence} {n : Nat} {ops : Array Oper} {rest : List Oper} {o : Oper} {a : Act} {w : World} {Q : Exit → Act → World → Prop} (w' : World) (hg : o.guard = none)
    (he : (execOp a.eval o).run Tryd.prog w = .ok .skip w') (hn : ∀ c, o.op ≠ .defer c) (ha : ∀ f, o.about Tryd.prog w a.eval = some f → F.fn f) (h : wpListIn F n Tryd.prog ops Q rest (a.put o.dst undef) w') : wpListIn F n Tryd.prog ops Q (o :: rest) a w := by
  refine wpListIn_plain hg fun K hK => ?_
  refine ⟨ha, ?_⟩
  rw [Oper.semAt_plain _ _ _ hn, he, Oper.uponIn_skip]
  exact hK _ _ h
end Go.Proofs.YtfigneaaeakbcaaDoor
