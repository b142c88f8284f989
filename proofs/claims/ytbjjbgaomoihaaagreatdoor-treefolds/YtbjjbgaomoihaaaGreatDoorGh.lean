import Derived.Test.YtbjjbgaomoihaaaGreatDoorEachQ
import Derived.Test.YtbjjbgaomoihaaaGreatDoorGf
import Derived.Maps.OwnIn
set_option maxRecDepth 100000
namespace Go.Proofs.YtbjjbgaomoihaaaGreatDoor
open Go.RowKit Go.Shelf
def SeqAt {α : Type} (F : Fence) (n : Nat) (P : Program) (g : Nat) (lb : Array Value) (encs : α → Array Value) (Kq : World → World → Prop) (S Sp : List α → Prop) (w : World) : Prop :=
  ∀ (l : Nat) (J Jx : List α → World → Prop) (W : World), Below w.heap.size w W → AbidesFrom W.heap.size J → AbidesFrom W.heap.size Jx →
    (∀ pre x W1, J pre W1 → Sp (pre ++ [x]) → YieldAt F (n - 1) P l (encs x) W1 fun e W' => (e = .returned (.bool true) ∧ J (pre ++ [x]) W' ∧ Kq W1 W') ∨ (e = .returned (.bool false) ∧ Jx (pre ++ [x]) W')) →
    J [] W → CallsIn F n P g (#[.func (.yield l) #[] #[]] ++ lb) W fun e W' => (∃ v, e = .returned v) ∧ ((∃ xs, S xs ∧ J xs W') ∨ (∃ pre, Sp pre ∧ Jx pre W'))
theorem wpIn_range_at {F : Fence} {n : Nat} {P : Program} {α : Type} {g : Operand} {ps : Array Tmp} {assign body : Code} {Q : Exit → Act → World → Prop} {a : Act} {w : World}
    (hro : F.round = none) (h1 : 1 ≤ n) {gf : Nat} {lb : Array Value} (hg : a.eval g = .func (.func gf) #[] lb) (hFg : F.fn gf) (eg : ∀ args w, (callFunc gf args).run P w = .ok (.enter gf args) w)
    {encs : α → Array Value} {Kq : World → World → Prop} {S Sp : List α → Prop} {w0 : World} (hseq : SeqAt F (n - 1) P gf lb encs Kq S Sp w0)
    (hKt : ∀ {A B C : World}, Kq A B → Kq B C → Kq A C) (hKb : ∀ (W : World) (l : Nat) (o o' : Obj), w.heap.size ≤ l → W.heap[l]? = some o → o.isCells = false → o.isWalk = false → Kq W (W.putObj l o')) (hb0 : Below w0.heap.size w0 w) (hps : ∀ x, (encs x).size = ps.size)
    (I : List α → World → Prop) (Ix : List α → World → Prop) (hI : OwnFrom w.heap.size I) (hIx : OwnFrom w.heap.size Ix) (h0 : I [] w) (a₁ : α → Act)
    (hassign : ∀ (l : Nat) (x : α) (W : World) (K : Act → World → Prop), K (a₁ x) W →
      assign.wpIn (F.inRound l) (n - 1 - 1) P (Exit.then K (fun _ _ _ => False)) { tmps := (ps.zip (encs x)).foldl (fun t (p, v) => t.setIfInBounds p v) a.tmps, defers := [] } W)
    (hbody : ∀ (l : Nat) (pre : List α) (x : α) (W : World), I pre W → Sp (pre ++ [x]) → body.wpIn (F.inRound l) (n - 1 - 1) P (fun e _ W' => (e = .normal ∧ KeepsOthers W W' ∧ Kq W W' ∧ I (pre ++ [x]) W') ∨ (e = .ret ∧ KeepsOthers W W' ∧ Ix (pre ++ [x]) W')) (a₁ x) W)
    (hdone : ∀ (D : Nat) (xs : List α) (W : World), w.heap.size ≤ D → S xs → I xs W → W.heap[D]? = some (.deferred (some [])) → Q .normal { a with defers := { target := .collected D, args := #[] } :: a.defers } W)
    (hstop : ∀ (D : Nat) (pre : List α) (W : World), w.heap.size ≤ D → Sp pre → Ix pre W → W.heap[D]? = some (.deferred (some [])) → Code.ret.wpIn F n P Q { a with defers := { target := .collected D, args := #[] } :: a.defers } W) :
    (Code.rangeFunc g ps assign body).wpIn F n P Q a w := by
  refine wpIn_rangeFunc ?_
  intro fn hfn
  rw [hro]
  obtain ⟨rc, hrc⟩ : ∃ rc : LoopState → Option Code → Loop, rc = fun s p => { state := s, pending := p, fn, tmps := a.tmps, params := ps, assign, body, defers := w.heap.size } := ⟨_, rfl⟩
  obtain ⟨D, hD⟩ : ∃ D, w.heap.size = D := ⟨_, rfl⟩
  obtain ⟨W1, hW1⟩ : ∃ W1, (w.alloc (.deferred (some []))).alloc (.loop (rc .ready none)) = W1 := ⟨_, rfl⟩
  have hL1 : W1.heap[D + 1]? = some (.loop (rc .ready none)) := by
    rw [← hW1, ← hD]
    have := World.alloc_heap_new (w.alloc (.deferred (some []))) (.loop (rc .ready none))
    rwa [World.size_alloc] at this
  have hK1 : W1.heap[D]? = some (.deferred (some [])) := by
    rw [← hW1, ← hD]
    exact (Below.heap_alloc _ _ _ (by simp)).trans (World.alloc_heap_new w _)
  have hI1 : I [] W1 := by rw [← hW1]; exact hI.alloc _ (hI.alloc _ h0)
  have hb1 : Below w0.heap.size w0 W1 := by
    rw [← hW1]
    exact hb0.trans ((((Below.refl _ w).alloc (Nat.le_refl _) _).alloc (by simp) _).mono hb0.size)
  have hs1 : W1.heap.size = D + 2 := by rw [← hW1, ← hD]; simp
  have old : ∀ {A : World} {row : Option Nat}, (∀ r, row = some r → W1.heap.size ≤ r ∧ ∃ o : Obj, A.heap[r]? = some o ∧ o.isWalk = true) → ∀ r, row = some r → w.heap.size ≤ r ∧ ∃ o : Obj, A.heap[r]? = some o ∧ o.isCells = false := fun hr r e => by
    obtain ⟨hB, o, ho, hw⟩ := hr r e
    exact ⟨by omega, o, ho, Obj.not_cells_of_walk hw⟩
  refine ⟨D + 1, [{ target := .collected D, args := #[] }], W1, { target := .fn (.func gf) lb, args := #[.func (.yield (D + 1)) #[] #[]] }, W1, gf, #[.func (.yield (D + 1)) #[] #[]] ++ lb, W1, ?_, ?_, ?_, ?_, fun _ => h1, ?_⟩
  · rw [← hW1, ← hD, hrc]
    exact run_enterLoop_outer _ _ _ _ _
  · simp only [resolve, hg]
    simp [go_sem]
  · intro f hf
    simp [Target.leads] at hf
    subst hf
    exact hFg
  · simp [invoke, go_sem, eg]
  · refine (hseq (D + 1) (fun pre W => I pre W ∧ W.heap[D + 1]? = some (.loop (rc .ready none)) ∧ W.heap[D]? = some (.deferred (some [])))
      (fun pre W => Ix pre W ∧ W.heap[D + 1]? = some (.loop (rc .done (some .ret))) ∧ W.heap[D]? = some (.deferred (some []))) W1 hb1
      (fun s A B row hs hg' hr => ⟨hI s A B row hs.1 hg' (old hr), (grownBy_keeps hg' (fun r e => (hr r e).2) hs.2.1 rfl).trans hs.2.1, (grownBy_keeps hg' (fun r e => (hr r e).2) hs.2.2 rfl).trans hs.2.2⟩)
      (fun s A B row hs hg' hr => ⟨hIx s A B row hs.1 hg' (old hr), (grownBy_keeps hg' (fun r e => (hr r e).2) hs.2.1 rfl).trans hs.2.1, (grownBy_keeps hg' (fun r e => (hr r e).2) hs.2.2 rfl).trans hs.2.2⟩)
      ?_ ⟨hI1, hL1, hK1⟩).mono ?_
    · rintro pre x W ⟨hi, hl, hk⟩ hsp
      have hlt : D + 1 < W.heap.size := (Array.getElem?_eq_some_iff.1 hl).1
      obtain ⟨Wb, hWb⟩ : ∃ Wb, W.putObj (D + 1) (.loop (rc .busy none)) = Wb := ⟨_, rfl⟩
      have hbeg : (Instr.beginRound (D + 1)).run P W = .ok () Wb := by
        have := run_beginRound (P := P) hl (by rw [hrc])
        rw [← hWb]
        rw [hrc] at this ⊢
        exact this
      have hl2 : Wb.heap[D + 1]? = some (.loop (rc .busy none)) := by rw [← hWb]; exact World.putObj_heap_same hlt
      have hk2 : Wb.heap[D]? = some (.deferred (some [])) := by rw [← hWb]; exact (World.putObj_heap_other (by omega)).trans hk
      have hi2 : I pre Wb := by rw [← hWb]; exact hI.putObj _ hi (by omega) hl rfl
      have hq2 : Kq W Wb := by rw [← hWb]; exact hKb _ _ _ _ (by omega) hl rfl rfl
      have hy := run_yield (P := P) (args := encs x) hl (by rw [hrc]; exact hps x)
      rw [hrc] at hy
      refine ⟨fn, _, assign, body, hy, roundIn_of_wpIn hfn (hassign _ x W _ ⟨_, hbeg, ?_⟩)⟩
      refine wpIn_mono (hbody _ pre x Wb hi2 hsp) ?_
      rintro e a3 W3 (⟨rfl, hk3, hq3, hi3⟩ | ⟨rfl, hk3, hi3⟩)
      · have hl3 := hk3.same _ _ hl2 rfl
        have hr := run_endRound (P := P) none hl3
        rw [hrc] at hr hl3
        refine ⟨_, _, hr, .inl ⟨rfl, ⟨hI.putObj _ hi3 (by omega) hl3 rfl, ?_, (World.putObj_heap_other (by omega)).trans (hk3.same _ _ hk2 rfl)⟩, hKt (hKt hq2 hq3) (hKb _ _ _ _ (by omega) hl3 rfl rfl)⟩⟩
        rw [hrc]
        exact World.putObj_heap_same (Array.getElem?_eq_some_iff.1 hl3).1
      · have hl3 := hk3.same _ _ hl2 rfl
        have hr := run_endRound (P := P) (some .ret) hl3
        rw [hrc] at hr hl3
        refine ⟨_, _, hr, .inr ⟨rfl, hIx.putObj _ hi3 (by omega) hl3 rfl, ?_, (World.putObj_heap_other (by omega)).trans (hk3.same _ _ hk2 rfl)⟩⟩
        rw [hrc]
        exact World.putObj_heap_same (Array.getElem?_eq_some_iff.1 hl3).1
    · rintro e W2 ⟨⟨v, rfl⟩, (⟨xs, hS, hi, hl, hk⟩ | ⟨pre, hSp, hi, hl, hk⟩)⟩
      · have hr := run_endLoop (P := P) hl (by rw [hrc]; simp)
        rw [hrc] at hr
        have hq := hdone D xs _ (by omega) hS (hI.putObj (.loop { rc .ready none with state := .exhausted }) hi (by omega) hl rfl) ((World.putObj_heap_other (by omega)).trans hk)
        rw [hrc] at hq
        exact ⟨none, _, hr, hq⟩
      · have hr := run_endLoop (P := P) hl (by rw [hrc]; simp)
        rw [hrc] at hr
        have hq := hstop D pre _ (by omega) hSp (hIx.putObj (.loop { rc .done (some .ret) with state := .exhausted }) hi (by omega) hl rfl) ((World.putObj_heap_other (by omega)).trans hk)
        rw [hrc] at hq
        exact ⟨some .ret, _, hr, hq⟩
theorem children_at (n : Nat) (w0 : World) (Bt p : Nat) (v : Vd) (m : Md) (k : K) (w : World) (hBt : Bt < w.heap.size) (hc : w.cell? ⟨Bt, 0, none⟩ = some (.pointer (some ⟨p, 0, none⟩))) (hT : AtT w0 p v m k) (hG : G w0 w) :
    SeqAt Fence.wide n Tryz.prog 56 #[.pointer (some ⟨Bt, 0, none⟩)] (fun x : KidIP w0 (fun x => x ∈ k.items) => #[Value.string x.1.nm, .pointer (some ⟨x.1.p, 0, none⟩)]) (Below w0.heap.size) (fun ys => kidsP ys = k.items) (fun pre => kidsP pre <+: k.items) w := fun l J Jx W hW hJ _ hY h0 =>
  children1_inQ n w0 (fun x => x ∈ k.items) l Bt p v m k J Jx (fun pre A h => hJ _ _ _ none h ⟨rfl, rfl, rfl, Nat.le_refl _, fun _ _ _ => rfl⟩ (fun r e => by cases e)) (fun pre x W1 h _ h2 => hY pre x W1 h h2) W ((hW.cell (p := ⟨Bt, 0, none⟩) hBt).trans hc) hT (fun _ h => h) (hG.trans hW) h0
theorem own_obj {w : World} {lo e size n : Nat} {u : Value} {xs : List Value} (h : w.ownsRow lo e size u n xs) {g : Nat} (hg : u.ownBlock = some g) : lo ≤ g ∧ g < w.heap.size ∧ ∃ cur, w.heap[g]? = some (.cells cur e (0, 0)) := by
  have hl := World.ownsRow.lt h g hg
  obtain ⟨_, q | ⟨g', cap', cur, hv, _, hh, _⟩⟩ := h
  · rw [q.1] at hg; cases hg
  · rw [hv] at hg
    obtain rfl : g' = g := by simpa [Value.ownBlock] using hg
    exact ⟨hl.1, hl.2, cur, hh⟩
structure Lef (Wa Wz : World) (B g k : Nat) (u' : Value) (ys : List Value) : Prop where
  os : Wz.os = Wa.os
  tape : Wz.tape = Wa.tape
  output : Wz.output = Wa.output
  size : Wz.heap.size = Wa.heap.size
  block : ∀ b, b ≠ B + 5 → b ≠ g → Wz.heap[b]? = Wa.heap[b]?
  var : Wz.heap[B + 5]? = some (.cells #[u'] 28 (0, 0))
  row : Wz.ownsRow (B + 2) 30 41 u' (k + 1) ys
structure GI (lo Mb K : Nat) (w : World) (B : Nat) (q : ByteArray) (Y : Value) (L : List ByteArray) (fs : F) (W : World) (un ut : Value) (xs : List Value) (T Mw M : Nat → Prop) (pre : List ByteArray) (pv : Value) (Bp : Nat → Prop) : Prop where
  g : Kw Mw w W
  b0 : W.heap[B]? = some (.cells #[.string q] 9 (0, 0))
  b1 : W.heap[B + 1]? = some (.cells #[Y] 81 (0, 0))
  vn : W.heap[B + 3]? = some (.cells #[un] 56 (0, 0))
  vt : W.heap[B + 5]? = some (.cells #[ut] 28 (0, 0))
  on : W.ownsRow (B + 2) 9 1 un L.length (L.map Value.string)
  ot : W.ownsRow (B + 2) 30 41 ut fs.len xs
  rc : RCells W T fs xs
  tt : ∀ b, T b → B + 2 ≤ b ∧ Cls W b ∧ ut.ownBlock ≠ some b ∧ un.ownBlock ≠ some b ∧ b ≠ B + 3 ∧ b ≠ B + 5 ∧ ¬ M b
  st : Mt lo Mb K pre.length pre M W pv Bp
  mm : ∀ b, M b → (Mw b ∨ B + 2 ≤ b) ∧ un.ownBlock ≠ some b ∧ ut.ownBlock ≠ some b ∧ b ≠ B + 3 ∧ b ≠ B + 5
  mw : ∀ b, Mw b → b < B
  lw : lo ≤ B ∧ w.heap.size = B
section
variable {lo Mb K : Nat} {w W : World} {B : Nat} {q : ByteArray} {Y un ut : Value} {L : List ByteArray} {fs : F} {xs : List Value} {T Mw M : Nat → Prop} {pre : List ByteArray} {pv : Value} {Bp : Nat → Prop}
theorem GI.un_ne (h : GI lo Mb K w B q Y L fs W un ut xs T Mw M pre pv Bp) {g : Nat} (hg : un.ownBlock = some g) : B + 2 ≤ g ∧ g < W.heap.size ∧ g ≠ B + 3 ∧ g ≠ B + 5 ∧ ut.ownBlock ≠ some g := by
  obtain ⟨h1, h2, cur, h3⟩ := own_obj h.on hg
  refine ⟨h1, h2, fun e => ?_, fun e => ?_, row_same h.on h.ot (by decide) hg⟩
  · rw [e, h.vn] at h3; cases h3
  · rw [e, h.vt] at h3; cases h3
theorem GI.ut_ne (h : GI lo Mb K w B q Y L fs W un ut xs T Mw M pre pv Bp) {g : Nat} (hg : ut.ownBlock = some g) : B + 2 ≤ g ∧ g < W.heap.size ∧ g ≠ B + 3 ∧ g ≠ B + 5 ∧ un.ownBlock ≠ some g := by
  obtain ⟨h1, h2, cur, h3⟩ := own_obj h.ot hg
  refine ⟨h1, h2, fun e => ?_, fun e => ?_, row_same h.ot h.on (by decide) hg⟩
  · rw [e, h.vn] at h3; cases h3
  · rw [e, h.vt] at h3; cases h3
theorem GI.size (h : GI lo Mb K w B q Y L fs W un ut xs T Mw M pre pv Bp) : B ≤ W.heap.size := by have := h.g.size; have := h.lw.2; omega
theorem GI.not_M (h : GI lo Mb K w B q Y L fs W un ut xs T Mw M pre pv Bp) {b : Nat} (hb : b = B ∨ b = B + 1) : ¬ M b := fun e => by
  rcases (h.mm b e).1 with k | k
  · have := h.mw b k; omega
  · omega
theorem GI.keep {W' : World} (h : GI lo Mb K w B q Y L fs W un ut xs T Mw M pre pv Bp) (hk : Kw (fun b => ¬ Cls W b ∧ B + 2 ≤ b) W W') : GI lo Mb K w B q Y L fs W' un ut xs T Mw M pre pv Bp := by
  have hc : ∀ b, Cls W b → W'.heap[b]? = W.heap[b]? := fun b hb => hk.block b hb.lt fun e => e.1 hb
  have cl : ∀ {b : Nat} {c : Array Value} {t : TypeId} {f : Nat × Nat}, W.heap[b]? = some (.cells c t f) → Cls W b := fun h => ⟨_, h, rfl⟩
  have hs := h.lw
  refine ⟨h.g.trans hk fun b hb e => (by omega), (hc _ (cl h.b0)).trans h.b0, (hc _ (cl h.b1)).trans h.b1, (hc _ (cl h.vn)).trans h.vn, (hc _ (cl h.vt)).trans h.vt, owns_same h.on fun g hg => hc g (row_cls h.on hg).1, owns_same h.ot fun g hg => hc g (row_cls h.ot hg).1, RCells.keep (fun b hb => ⟨hc b (h.tt b hb).2.1, hb⟩) h.rc, fun b hb => ?_, h.st.keep hk (fun b e hM => e.1 (h.st.cls hM).1) (fun b e => by omega), h.mm, h.mw, h.lw⟩
  obtain ⟨t1, t2, t3⟩ := h.tt b hb
  exact ⟨t1, t2.of (hc b t2), t3⟩
theorem GI.grow {W' : World} (h : GI lo Mb K w B q Y L fs W un ut xs T Mw M pre pv Bp) (hg : G W W') : GI lo Mb K w B q Y L fs W' un ut xs T Mw M pre pv Bp := h.keep (Kw.of hg)
theorem GI.thing {W' : World} {pre' : List ByteArray} {M' : Nat → Prop} {pv' : Value} {Bp' : Nat → Prop} (h : GI lo Mb K w B q Y L fs W un ut xs T Mw M pre pv Bp) (hk : Kw M W W') (hst : Mt lo Mb K pre'.length pre' M' W' pv' Bp') (hm : ∀ b, M' b → M b ∨ W.heap.size ≤ b) : GI lo Mb K w B q Y L fs W' un ut xs T Mw M' pre' pv' Bp' := by
  have lt : ∀ {b : Nat} {x : Obj}, W.heap[b]? = some x → b < W.heap.size := fun h => (Array.getElem?_eq_some_iff.1 h).1
  have hs := h.size
  have nM : ∀ b, b < W.heap.size → ¬ M b → ¬ M' b := fun b h1 h2 e => by rcases hm b e with k | k; exact h2 k; omega
  have hMw : ∀ b, b < w.heap.size → M b → Mw b := fun b h1 h2 => by
    rcases (h.mm b h2).1 with k | k
    · exact k
    · have := h.lw.2; omega
  have h3 : ¬ M (B + 3) := fun e => (h.mm _ e).2.2.2.1 rfl
  have h5 : ¬ M (B + 5) := fun e => (h.mm _ e).2.2.2.2 rfl
  refine ⟨h.g.trans hk hMw, (hk.block B (lt h.b0) (h.not_M (.inl rfl))).trans h.b0, (hk.block (B + 1) (lt h.b1) (h.not_M (.inr rfl))).trans h.b1, (hk.block _ (lt h.vn) h3).trans h.vn, (hk.block _ (lt h.vt) h5).trans h.vt, owns_same h.on fun g hg => hk.block g (h.un_ne hg).2.1 fun e => (h.mm g e).2.1 hg, owns_same h.ot fun g hg => hk.block g (h.ut_ne hg).2.1 fun e => (h.mm g e).2.2.1 hg, RCells.keep (fun b hb => ⟨hk.block b (h.tt b hb).2.1.lt (h.tt b hb).2.2.2.2.2.2, hb⟩) h.rc, fun b hb => ?_, hst, fun b hb => ?_, h.mw, h.lw⟩
  · obtain ⟨t1, t2, t3, t4, t5, t6, t7⟩ := h.tt b hb
    exact ⟨t1, t2.of (hk.block b t2.lt t7), t3, t4, t5, t6, nM b t2.lt t7⟩
  · rcases hm b hb with k | k
    · exact h.mm b k
    · have l3 := lt h.vn
      have l5 := lt h.vt
      exact ⟨.inr (by omega), fun e => by have := (h.un_ne e).2.1; omega, fun e => by have := (h.ut_ne e).2.1; omega, by omega, by omega⟩
theorem GI.name {W1 : World} {un' : Value} {x : ByteArray} {o : Obj} (h : GI lo Mb K w B q Y L fs W un ut xs T Mw M pre pv Bp) (ho : W1.ownsRow (B + 2) 9 1 un' (L.length + 1) (L.map Value.string ++ [.string x])) (hg : (W.alloc o).grownBy W1 un.ownBlock) (hat : un'.ownBlock = un.ownBlock ∨ un'.ownBlock = some (W.alloc o).heap.size) :
    GI lo Mb K w B q Y (L ++ [x]) fs (W1.setCell ⟨B + 3, 0, none⟩ un') un' ut xs T Mw M pre pv Bp ∧ Kw (fun b => Cls W b ∧ B + 2 ≤ b) W (W1.setCell ⟨B + 3, 0, none⟩ un') := by
  have hs := hg.size
  rw [World.size_alloc] at hs
  have lt : ∀ {b : Nat} {x : Obj}, W.heap[b]? = some x → b < W.heap.size := fun h => (Array.getElem?_eq_some_iff.1 h).1
  have hkw : Kw (fun b => b = B + 3 ∨ un.ownBlock = some b) W (W1.setCell ⟨B + 3, 0, none⟩ un') := by
    have k1 : Kw (fun b => b = B + 3 ∨ un.ownBlock = some b) W W1 := (Kw.of (G.alloc W o)).trans (Kw.grown hg) fun b _ e => .inr e
    exact k1.trans (Kw.set W1 (B + 3) 0 un') fun b _ e => .inl e
  have hold : ∀ b, b < W.heap.size → b ≠ B + 3 → un.ownBlock ≠ some b → (W1.setCell ⟨B + 3, 0, none⟩ un').heap[b]? = W.heap[b]? := fun b hb h3 hu => hkw.block b hb (by rintro (e | e); exact h3 e; exact hu e)
  have hlo : ∀ b, b < B + 2 → un.ownBlock ≠ some b := fun b hb e => by have := (h.un_ne e).1; omega
  have hB3 := lt h.vn
  have hun' : ∀ g, un'.ownBlock = some g → un.ownBlock = some g ∨ g = W.heap.size + 1 := fun g hg' => by
    rcases hat with e | e
    · exact .inl (e ▸ hg')
    · rw [e, World.size_alloc] at hg'
      injection hg' with hg'
      exact .inr hg'.symm
  have hMn : ∀ b, (b = B + 3 ∨ un.ownBlock = some b) → ¬ M b := by
    rintro b (e | e) hM
    · exact (h.mm b hM).2.2.2.1 e
    · exact (h.mm b hM).2.1 e
  have hl := h.lw
  refine ⟨⟨h.g.trans hkw fun b hb e => ?_, (hold B (lt h.b0) (by omega) (hlo B (by omega))).trans h.b0, (hold (B + 1) (lt h.b1) (by omega) (hlo _ (by omega))).trans h.b1, ?_, (hold (B + 5) (lt h.vt) (by omega) (fun e => (h.un_ne e).2.2.2.1 rfl)).trans h.vt, ?_, ?_, ?_, ?_, h.st.keep hkw hMn fun b e => ?_, fun b hb => ?_, h.mw, h.lw⟩, hkw.mono fun b hb e => ?_⟩
  · exfalso
    rcases e with e | e
    · omega
    · have := (h.un_ne e).1; omega
  · have h1 : W1.heap[B + 3]? = some (.cells #[un] 56 (0, 0)) := (hg.block (B + 3) (by rw [World.size_alloc]; omega) (fun e => (h.un_ne e.symm).2.2.1 rfl)).trans ((Below.heap_alloc W o _ hB3).trans h.vn)
    unfold World.setCell
    simp only []
    rw [Array.getElem?_modify]
    simp [h1]
  · rw [List.length_append, List.length_singleton, List.map_append, List.map_singleton]
    exact owns_same ho fun g hg' => Below.heap_setCell _ _ _ _ (by
      show g ≠ B + 3
      rcases hun' g hg' with e | e
      · exact (h.un_ne e).2.2.1
      · omega)
  · exact owns_same h.ot fun g hg' => hold g (h.ut_ne hg').2.1 (h.ut_ne hg').2.2.1 (h.ut_ne hg').2.2.2.2
  · exact RCells.keep (fun b hb => ⟨hold b (h.tt b hb).2.1.lt (h.tt b hb).2.2.2.2.1 (h.tt b hb).2.2.2.1, hb⟩) h.rc
  · intro b hb
    obtain ⟨t1, t2, t3, t4, t5, t6, t7⟩ := h.tt b hb
    refine ⟨t1, t2.of (hold b t2.lt t5 t4), t3, fun e => ?_, t5, t6, t7⟩
    rcases hun' b e with k | k
    · exact t4 k
    · have := t2.lt; omega
  · rcases e with e | e
    · omega
    · have := (h.un_ne e).1; omega
  · obtain ⟨m1, m2, m3⟩ := h.mm b hb
    refine ⟨m1, fun e => ?_, m3⟩
    rcases hun' b e with k | k
    · exact m2 k
    · have := h.st.lt hb; omega
  · rcases e with e | e
    · exact ⟨⟨_, e ▸ h.vn, rfl⟩, by omega⟩
    · exact ⟨(row_cls h.on e).1, (row_cls h.on e).2⟩
theorem GI.told {Wa Wz : World} {g cap hi : Nat} {v : Vd} {m : Md} {kv : Value} {ks : F} {R : Nat → Prop} (h : GI lo Mb K w B q Y L fs W un ut xs T Mw M pre pv Bp) (hk : HasSP W R kv ks) (hR : ∀ b, R b → hi ≤ b ∧ Cls W b ∧ ¬ M b) (hhi : (∀ b, un.ownBlock = some b ∨ ut.ownBlock = some b → b < hi) ∧ B + 5 < hi)
    (hga : W.grownBy Wa ut.ownBlock) (hat : ut.ownBlock = some g ∨ g = W.heap.size) (hL : Lef Wa Wz B g fs.len (.slice (some ⟨g, 0, none⟩) (fs.len + 1) cap) (xs ++ (nc ⟨#[]⟩ v m kv).toList)) :
    GI lo Mb K w B q Y L (fs.app (.cons ⟨#[]⟩ v m ks .nil)) Wz un (.slice (some ⟨g, 0, none⟩) (fs.len + 1) cap) (xs ++ (nc ⟨#[]⟩ v m kv).toList) (fun b => T b ∨ R b) Mw M pre pv Bp ∧ Kw (fun b => Cls W b ∧ B + 2 ≤ b) W Wz := by
  have lt : ∀ {b : Nat} {x : Obj}, W.heap[b]? = some x → b < W.heap.size := fun h => (Array.getElem?_eq_some_iff.1 h).1
  have hsa := hga.size
  have hkw : Kw (fun b => b = B + 5 ∨ ut.ownBlock = some b) W Wz := by
    refine ⟨hL.os.trans hga.os, hL.tape.trans hga.tape, hL.output.trans hga.output, by rw [hL.size]; exact hsa, fun b hb hn => ?_⟩
    have n1 : b ≠ B + 5 := fun e => hn (.inl e)
    have n2 : ut.ownBlock ≠ some b := fun e => hn (.inr e)
    exact (hL.block b n1 (fun e => by rcases hat with q | q; exact n2 (by rw [q, e]); omega)).trans (hga.block b hb fun e => n2 e.symm)
  have hold : ∀ b, b < W.heap.size → b ≠ B + 5 → ut.ownBlock ≠ some b → Wz.heap[b]? = W.heap[b]? := fun b hb h3 hu => hkw.block b hb (by rintro (e | e); exact h3 e; exact hu e)
  have hlo : ∀ b, b < B + 2 → ut.ownBlock ≠ some b := fun b hb e => by have := (h.ut_ne e).1; omega
  have hB5 := lt h.vt
  have hMn : ∀ b, (b = B + 5 ∨ ut.ownBlock = some b) → ¬ M b := by
    rintro b (e | e) hM
    · exact (h.mm b hM).2.2.2.2 e
    · exact (h.mm b hM).2.2.1 e
  have hg5 : g ≠ B + 5 := by rcases hat with e | e; exact (h.ut_ne e).2.2.2.1; omega
  have hun : ∀ b, un.ownBlock = some b → b ≠ g := fun b e q => by
    rcases hat with k | k
    · exact (h.un_ne e).2.2.2.2 (by rw [k, q])
    · have := (h.un_ne e).2.1; omega
  have hlen : (fs.app (.cons ⟨#[]⟩ v m ks .nil)).len = fs.len + 1 := by rw [F.app_len]; rfl
  have hl := h.lw
  have hRo : ∀ b, R b → Wz.heap[b]? = W.heap[b]? := fun b hb => hold b (hR b hb).2.1.lt (by have := (hR b hb).1; have := hhi.2; omega) (fun e => by have := (hR b hb).1; have := hhi.1 b (.inr e); omega)
  refine ⟨⟨h.g.trans hkw fun b hb e => ?_, (hold B (lt h.b0) (by omega) (hlo B (by omega))).trans h.b0, (hold (B + 1) (lt h.b1) (by omega) (hlo _ (by omega))).trans h.b1, (hold (B + 3) (lt h.vn) (by omega) (fun e => (h.ut_ne e).2.2.1 rfl)).trans h.vn, hL.var, ?_, ?_, ?_, ?_, h.st.keep hkw hMn fun b e => ?_, fun b hb => ?_, h.mw, h.lw⟩, hkw.mono fun b hb e => ?_⟩
  · exfalso
    rcases e with e | e
    · omega
    · have := (h.ut_ne e).1; omega
  · exact owns_same h.on fun g' hg' => hold g' (h.un_ne hg').2.1 (h.un_ne hg').2.2.2.1 (h.un_ne hg').2.2.2.2
  · rw [hlen]; exact hL.row
  · exact RCells.snoc (hk.keep fun b hb => ⟨hRo b hb, .inr hb⟩) (RCells.keep (fun b hb => ⟨hold b (h.tt b hb).2.1.lt (h.tt b hb).2.2.2.2.2.1 (h.tt b hb).2.2.1, .inl hb⟩) h.rc)
  · rintro b (hb | hb)
    · obtain ⟨t1, t2, t3, t4, t5, t6, t7⟩ := h.tt b hb
      refine ⟨t1, t2.of (hold b t2.lt t6 t3), fun e => ?_, t4, t5, t6, t7⟩
      obtain rfl : g = b := by simpa [Value.ownBlock] using e
      rcases hat with k | k
      · exact t3 k
      · have := t2.lt; omega
    · obtain ⟨r1, r2, r3⟩ := hR b hb
      have h2 := hhi.2
      refine ⟨by omega, r2.of (hRo b hb), fun e => ?_, fun e => by have := hhi.1 b (.inl e); omega, by omega, by omega, r3⟩
      obtain rfl : g = b := by simpa [Value.ownBlock] using e
      rcases hat with k | k
      · have := hhi.1 g (.inr k); omega
      · have := r2.lt; omega
  · rcases e with e | e
    · omega
    · have := (h.ut_ne e).1; omega
  · obtain ⟨m1, m2, m3, m4⟩ := h.mm b hb
    refine ⟨m1, m2, fun e => ?_, m4⟩
    obtain rfl : g = b := by simpa [Value.ownBlock] using e
    rcases hat with k | k
    · exact m3 k
    · have := h.st.lt hb; omega
  · rcases e with e | e
    · exact ⟨⟨_, e ▸ h.vt, rfl⟩, by omega⟩
    · exact ⟨(row_cls h.ot e).1, (row_cls h.ot e).2⟩
end
theorem GI.own {lo Mb K : Nat} {w : World} {B B5 : Nat} {q : ByteArray} {Y : Value} {Mw : Nat → Prop} {β : Type} (C : β → List ByteArray) (D : β → F) (E : β → List ByteArray) (h5 : B + 2 ≤ B5) : OwnFrom B5 (fun (p : β) W => ∃ un ut xs T M pv Bp, GI lo Mb K w B q Y (C p) (D p) W un ut xs T Mw M (E p) pv Bp) := by
  intro s W W' row ⟨un, ut, xs, T, M, pv, Bp, h⟩ hg hr
  refine ⟨un, ut, xs, T, M, pv, Bp, h.keep ⟨hg.os, hg.tape, hg.output, hg.size, fun b hb hn => hg.block b hb fun e => hn ?_⟩⟩
  obtain ⟨h1, o', ho', hc'⟩ := hr b e.symm
  exact ⟨fun ⟨o, ho, hc⟩ => (by rw [ho] at ho'; cases ho'; rw [hc] at hc'; cases hc'), by omega⟩
theorem tl_append (s t : ByteArray) : tl (s ++ t) = tl s ++ tl t := by
  simp only [tl, ByteArray.toList_eq]
  rw [ByteArray.data_append, Array.toList_append]
def namesF : F → Prop
  | .nil => True
  | .cons n _ _ k r => nameB (tl n) = true ∧ namesF k ∧ namesF r
def bel (p n : ByteArray) : ByteArray := if p.size = 0 then n else p ++ ⟨#[47]⟩ ++ n
theorem name_len {n : ByteArray} (h : nameB (tl n) = true) : 1 ≤ (tl n).length ∧ (tl n).length ≤ 255 := by
  unfold nameB at h
  rw [decide_eq_true_eq] at h
  exact ⟨h.1, h.2.1⟩
theorem below_any (p n : ByteArray) (w : World) (hs : p.size + n.size ≤ 1000000000) : Calls Tryz.prog 68 #[.string p, .string n] w fun e w' => e = .returned (.string (bel p n)) ∧ w' = w := by
  unfold bel
  by_cases h : p.size = 0
  · rw [if_pos h]
    have e : p.toList = [] := List.length_eq_zero_iff.1 (by have := tl_len p; unfold tl at this; omega)
    have b1 : (p.toList == []) = true := by simp [e]
    have b2 : p.toList.isEmpty = true := by simp [e]
    go_enter Tryz.func68, Tryz.ntmps68
    go_wp2
    go_ret
    exact ⟨rfl, rfl⟩
  · rw [if_neg h]
    have e : ¬ p.toList = [] := fun e => h (by have := tl_len p; unfold tl at this; rw [e] at this; simpa using this.symm)
    have b1 : (p.toList == []) = false := by simpa using e
    have b2 : p.toList.isEmpty = false := by simpa using e
    have a1 : ¬ 9223372036854775807 < p.size + 1 := by omega
    have a2 : ¬ 9223372036854775807 < p.size + 1 + n.size := by omega
    go_enter Tryz.func68, Tryz.ntmps68
    go_wp2
    go_ret
    exact ⟨rfl, rfl⟩
theorem items_size : ∀ {k : K}, ∀ x ∈ k.items, x.k.flat.size < k.flat.size
  | .nil, x, hx => by cases hx
  | .node q p nm v m kids ah be, x, hx => by
    rw [K.flat, F.app_size, F.size]
    rw [K.items, List.mem_append, List.mem_cons] at hx
    rcases hx with hx | rfl | hx
    · have := items_size x hx; omega
    · show kids.flat.size < _; omega
    · have := items_size x hx; omega
theorem kids_names : ∀ {l : List Kid}, namesF (kidsF l) → ∀ x ∈ l, nameB (tl x.nm) = true ∧ namesF x.k.flat ∧ x.k.flat.depth + 1 ≤ (kidsF l).depth
  | [], _, x, h => by cases h
  | z :: l, ⟨h1, h2, h3⟩, x, h => by
    rcases List.mem_cons.1 h with h | h
    · subst h
      exact ⟨h1, h2, by simp only [kidsF, F.depth]; omega⟩
    · obtain ⟨a, b, c⟩ := kids_names h3 x h
      exact ⟨a, b, by simp only [kidsF, F.depth]; omega⟩
theorem bel_size {q n : ByteArray} (h : nameB (tl n) = true) : (bel q n).size ≤ q.size + 256 := by
  have h2 := (name_len h).2
  rw [tl_len] at h2
  unfold bel
  split
  · omega
  · rw [← tl_len, tl_append, tl_append, List.length_append, List.length_append, show tl (⟨#[47]⟩ : ByteArray) = [47] from tl_ofB [47], tl_len, tl_len]
    simp
    omega
theorem nm_kids : ∀ l : List Kid, l.map (·.nm) = (kidsF l).nameL
  | [] => rfl
  | x :: l => by rw [List.map_cons, kidsF, F.nameL, nm_kids l]
theorem GI.start {lo Mb K : Nat} {w W0 : World} {B N : Nat} {q : ByteArray} {Y : Value} {M9 M30 : Array Value} {M : Nat → Prop} {pre : List ByteArray} {pv : Value} {Bp : Nat → Prop} (hB : w.heap.size = B) (hlo : lo ≤ B) (hM : Mt lo Mb K pre.length pre M w pv Bp) (hg : G w W0) (hs : W0.heap.size = B + 2) (h0 : W0.heap[B]? = some (.cells #[.string q] 9 (0, 0))) (h1 : W0.heap[B + 1]? = some (.cells #[Y] 81 (0, 0))) (h9 : M9.size = N * 1) (h30 : M30.size = N * 41) (hN : N ≤ 100000) (o : Obj) :
    GI lo Mb K w B q Y [] .nil (((((W0.alloc (.cells M9 9)).alloc (.cells #[.slice (some ⟨B + 2, 0, none⟩) 0 N] 56)).alloc (.cells M30 30)).alloc (.cells #[.slice (some ⟨B + 4, 0, none⟩) 0 N] 28)).alloc o) (.slice (some ⟨B + 2, 0, none⟩) 0 N) (.slice (some ⟨B + 4, 0, none⟩) 0 N) [] (fun _ => False) M M pre pv Bp := by
  have e2 : ∀ (W : World) (o : Obj), (W.alloc o).heap.size = W.heap.size + 1 := fun W o => World.size_alloc W o
  have r9 : (W0.alloc (.cells M9 9)).ownsRow (B + 2) 9 1 (.slice (some ⟨W0.heap.size, 0, none⟩) 0 N) 0 [] := World.ownsRow_made W0 M9 N (by omega) (by unfold maxLen; omega) h9
  have r30 : (((W0.alloc (.cells M9 9)).alloc (.cells #[.slice (some ⟨B + 2, 0, none⟩) 0 N] 56)).alloc (.cells M30 30)).ownsRow (B + 2) 30 41 (.slice (some ⟨((W0.alloc (.cells M9 9)).alloc (.cells #[.slice (some ⟨B + 2, 0, none⟩) 0 N] 56)).heap.size, 0, none⟩) 0 N) 0 [] := World.ownsRow_made _ M30 N (by rw [e2, e2]; omega) (by unfold maxLen; omega) h30
  rw [hs] at r9
  rw [e2, e2, hs] at r30
  have n1 := World.alloc_heap_new (W0.alloc (.cells M9 9)) (.cells #[.slice (some ⟨B + 2, 0, none⟩) 0 N] 56)
  rw [e2, hs] at n1
  have n2 := World.alloc_heap_new (((W0.alloc (.cells M9 9)).alloc (.cells #[.slice (some ⟨B + 2, 0, none⟩) 0 N] 56)).alloc (.cells M30 30)) (.cells #[.slice (some ⟨B + 4, 0, none⟩) 0 N] 28)
  rw [e2, e2, e2, hs] at n2
  have hG : G w (((((W0.alloc (.cells M9 9)).alloc (.cells #[.slice (some ⟨B + 2, 0, none⟩) 0 N] 56)).alloc (.cells M30 30)).alloc (.cells #[.slice (some ⟨B + 4, 0, none⟩) 0 N] 28)).alloc o) := ((((hg.trans (G.alloc _ _)).trans (G.alloc _ _)).trans (G.alloc _ _)).trans (G.alloc _ _)).trans (G.alloc _ _)
  have hMB : ∀ b, M b → b < B := fun b hb => hB ▸ hM.lt hb
  refine ⟨Kw.of hG, ?_, ?_, ?_, ?_, World.ownsRow.alloc (World.ownsRow.alloc (World.ownsRow.alloc (World.ownsRow.alloc r9 _) _) _) _, World.ownsRow.alloc (World.ownsRow.alloc r30 _) _, rfl, fun b hb => hb.elim, hM.up hG, fun b hb => ⟨.inl hb, fun e => ?_, fun e => ?_, by have := hMB b hb; omega, by have := hMB b hb; omega⟩, hMB, hlo, hB⟩
  · rw [Below.heap_alloc _ _ _ (by simp only [e2]; omega), Below.heap_alloc _ _ _ (by simp only [e2]; omega), Below.heap_alloc _ _ _ (by simp only [e2]; omega), Below.heap_alloc _ _ _ (by simp only [e2]; omega), Below.heap_alloc _ _ _ (by omega)]; exact h0
  · rw [Below.heap_alloc _ _ _ (by simp only [e2]; omega), Below.heap_alloc _ _ _ (by simp only [e2]; omega), Below.heap_alloc _ _ _ (by simp only [e2]; omega), Below.heap_alloc _ _ _ (by simp only [e2]; omega), Below.heap_alloc _ _ _ (by omega)]; exact h1
  · rw [Below.heap_alloc _ _ _ (by simp only [e2]; omega), Below.heap_alloc _ _ _ (by simp only [e2]; omega), Below.heap_alloc _ _ _ (by simp only [e2]; omega)]; exact n1
  · rw [Below.heap_alloc _ _ _ (by simp only [e2]; omega)]; exact n2
  · have := hMB b hb
    obtain rfl : B + 2 = b := by simpa [Value.ownBlock] using e
    omega
  · have := hMB b hb
    obtain rfl : B + 4 = b := by simpa [Value.ownBlock] using e
    omega
section
variable {Wa : World} {B g k cap : Nat} {u : Value} {xs : List Value} {cn : Array Value}
theorem lef_a (ho : Wa.ownsRow (B + 2) 30 41 (.slice (some ⟨g, 0, none⟩) (k + 1) cap) (k + 1) (xs ++ z30.toList)) (hx : xs.length = k * 41) (hv : Wa.heap[B + 5]? = some (.cells #[u] 28 (0, 0))) (hg : g ≠ B + 5) (hc : cn.size = 41) :
    Lef Wa ((Wa.setCells g (k * 41) cn.toList).setCell ⟨B + 5, 0, none⟩ (.slice (some ⟨g, 0, none⟩) (k + 1) cap)) B g k (.slice (some ⟨g, 0, none⟩) (k + 1) cap) (xs ++ cn.toList) := by
  obtain ⟨r1, r2⟩ := owns_setCells cn.toList (k * 41) Wa _ ho (by simp [z30_size, hx, hc])
  rw [over_end _ _ _ _ hx (by simp [z30_size, hc])] at r1
  refine ⟨r2.os, r2.tape, r2.output, ?_, fun b h1 h2 => ?_, ?_, owns_other r1 (Below.heap_setCell _ _ _ _ (by show g ≠ B + 5; omega))⟩
  · rw [World.size_setCell, setCells_size]
  · exact (Below.heap_setCell _ _ _ _ h1).trans (setCells_block g _ _ _ _ h2)
  · exact Boxed.set (W := Wa.setCells g (k * 41) cn.toList) _ ((setCells_block g _ _ _ _ (Ne.symm hg)).trans hv)
theorem lef_b (ho : Wa.ownsRow (B + 2) 30 41 (.slice (some ⟨g, 0, none⟩) (k + 1) cap) (k + 1) (xs ++ z30.toList)) (hx : xs.length = k * 41) (hv : Wa.heap[B + 5]? = some (.cells #[u] 28 (0, 0))) (hg : g ≠ B + 5) (hc : cn.size = 41) :
    Lef Wa ((Wa.setCell ⟨B + 5, 0, none⟩ (.slice (some ⟨g, 0, none⟩) (k + 1) cap)).setCells g (k * 41) cn.toList) B g k (.slice (some ⟨g, 0, none⟩) (k + 1) cap) (xs ++ cn.toList) := by
  have ho2 : (Wa.setCell ⟨B + 5, 0, none⟩ (.slice (some ⟨g, 0, none⟩) (k + 1) cap)).ownsRow (B + 2) 30 41 (.slice (some ⟨g, 0, none⟩) (k + 1) cap) (k + 1) (xs ++ z30.toList) := owns_other ho (Below.heap_setCell _ _ _ _ (by show g ≠ B + 5; omega))
  obtain ⟨r1, r2⟩ := owns_setCells cn.toList (k * 41) _ _ ho2 (by simp [z30_size, hx, hc])
  rw [over_end _ _ _ _ hx (by simp [z30_size, hc])] at r1
  refine ⟨r2.os, r2.tape, r2.output, ?_, fun b h1 h2 => ?_, ?_, r1⟩
  · rw [setCells_size, World.size_setCell]
  · exact (setCells_block g _ _ _ _ h2).trans (Below.heap_setCell _ _ _ _ h1)
  · exact (setCells_block g _ _ _ _ (Ne.symm hg)).trans (Boxed.set (W := Wa) _ hv)
end
end Go.Proofs.YtbjjbgaomoihaaaGreatDoor
