/-
  layNodes' end: the row is kept, the Room's two lists have grown.
-/
import Derived.Test.YtjkbhfkeagfhbaaLent
namespace Go.Proofs.Ytjkbhfkeagfhbaa
open Go.RowKit

theorem mk_of_own {w : World} {lo g n k cap N : Nat} {zv : Vd} {zm : Md} {xs : List Value} (h : w.ownsRow lo 30 41 (.slice (some ⟨g, 0, none⟩) n cap) n (xs ++ markC zv zm k)) (hx : xs.length = N * 41) : Mk w g N k := fun i hi => by
  refine ⟨nc (wordB i) zv zm (.slice none 0 0), fun j u hj => ?_, nc_size .., ?_, nc_name .., nc_kids ..⟩
  · have hj' := (Array.getElem?_eq_some_iff.1 hj).1
    rw [nc_size] at hj'
    have := World.ownsRow.cells h (g := g) rfl (N * 41 + (i * 41 + j)) u (by rw [List.getElem?_append_right (by omega), hx, show N * 41 + (i * 41 + j) - N * 41 = i * 41 + j by omega, markC_at zv zm k i hi j hj']; exact hj)
    rw [show ((⟨g, 0, none⟩ : Addr).add (N * 41 + (i * 41 + j))) = ⟨g, 0 + (N * 41 + (i * 41 + j)), none⟩ from Addr.add_mid g 0 _, Nat.zero_add] at this
    rw [show (N + i) * 41 + j = N * 41 + (i * 41 + j) by omega]
    exact this
  · rw [Array.all_eq_true_iff_forall_mem]
    intro x hx
    simp only [nc, vx, mx, List.mem_toArray, List.mem_cons, List.mem_append, List.mem_map, List.not_mem_nil, or_false] at hx
    rcases hx with rfl | (rfl | rfl | rfl | ⟨b, _, rfl⟩) | (rfl | rfl | rfl | rfl) | rfl <;> rfl
theorem frozen_setG (w : World) (g k i : Nat) (x : Value) : (w.setCell ⟨g, k, none⟩ x).frozen? ⟨g, i, none⟩ = w.frozen? ⟨g, i, none⟩ := by
  simp only [World.frozen?, World.setCell, Array.getElem?_modify, if_true]
  cases hh : w.heap[g]? with
  | none => rfl
  | some ob => cases ob <;> rfl
theorem setCell_sizeB (w : World) (a : Addr) (x : Value) : (w.setCell a x).heap.size = w.heap.size := by simp [World.setCell]
theorem setCell_blockB {w : World} {R o b : Nat} {x : Value} (h : b ≠ R) : (w.setCell ⟨R, o, none⟩ x).heap[b]? = w.heap[b]? := Below.heap_setCell _ _ _ b h
/-- the row is kept -/
theorem LS.done {R : Nat} {w wr w5 w7 : World} {s sr : Sg} {g uc N k : Nat} {xs : List Value} {zv : Vd} {zm : Md} {T : Nat → Prop} {v1' v2' : Value} {c1 c2 : Obj} (hl : LS R w s wr sr (.slice (some ⟨g, 0, none⟩) (N + k) uc) (N + k) (xs ++ markC zv zm k) T) (hx : xs.length = N * 41) (hN : N ≤ 20000) (hk : k ≤ 40)
    (o5 : w5.ownsRow (R + 1) 28 1 v1' (sr.ls.length + 1) (sr.ls.map Kr.v ++ [Kr.v ⟨g, N, k, uc⟩])) (g5 : (wr.alloc c1).grownBy w5 sr.v1.ownBlock) (a5 : v1'.ownBlock = sr.v1.ownBlock ∨ v1'.ownBlock = some (wr.alloc c1).heap.size)
    (o7 : w7.ownsRow (R + 1) 3 1 v2' (sr.ls.length + 1) ((sr.ls.map fun e => Value.int .i64 e.n) ++ [.int .i64 N])) (g7 : ((w5.setCell ⟨R, 22, none⟩ v1').alloc c2).grownBy w7 sr.v2.ownBlock) (a7 : v2'.ownBlock = sr.v2.ownBlock ∨ v2'.ownBlock = some ((w5.setCell ⟨R, 22, none⟩ v1').alloc c2).heap.size) :
    RM (w7.setCell ⟨R, 23, none⟩ v2') R ⟨v1', v2', sr.ls ++ [⟨g, N, k, uc⟩]⟩ ∧ To R w s (w7.setCell ⟨R, 23, none⟩ v2') ⟨v1', v2', sr.ls ++ [⟨g, N, k, uc⟩]⟩ ∧ (∀ b, b < wr.heap.size → ¬ XB R sr b → (w7.setCell ⟨R, 23, none⟩ v2').heap[b]? = wr.heap[b]?) ∧ (∀ b, XB R ⟨v1', v2', sr.ls ++ [⟨g, N, k, uc⟩]⟩ b → XB R sr b ∨ wr.heap.size ≤ b) ∧ wr.heap.size ≤ (w7.setCell ⟨R, 23, none⟩ v2').heap.size := by
  have m := hl.rm
  have hs5 := g5.size
  have hs7 := g7.size
  simp only [World.size_alloc, setCell_sizeB] at hs5 hs7 a5 a7
  have h1lt := World.ownsRow.lt m.o1
  have h2lt := World.ownsRow.lt m.o2
  have hgl := World.ownsRow.lt hl.own g rfl
  have hRl : R < wr.heap.size := m.lt (.inl (.inl rfl))
  have e5 : ∀ b, b < wr.heap.size → sr.v1.ownBlock ≠ some b → w5.heap[b]? = wr.heap[b]? := fun b hb h1 => (g5.block b (by simp; omega) (Ne.symm h1)).trans (Below.heap_alloc wr _ b hb)
  have e7 : ∀ b, b < w5.heap.size → b ≠ R → sr.v2.ownBlock ≠ some b → w7.heap[b]? = w5.heap[b]? := fun b hb h1 h2 => (g7.block b (by simp; omega) (Ne.symm h2)).trans ((Below.heap_alloc _ _ b (by rw [setCell_sizeB]; exact hb)).trans (setCell_blockB h1))
  have A : ∀ b, b < wr.heap.size → ¬ XB R sr b → (w7.setCell ⟨R, 23, none⟩ v2').heap[b]? = wr.heap[b]? := fun b hb hx => by
    have n1 : b ≠ R := fun e => hx (.inl e)
    exact (setCell_blockB n1).trans ((e7 b (by omega) n1 fun e => hx (.inr (.inr e))).trans (e5 b hb fun e => hx (.inr (.inl e))))
  have X : ∀ b, XB R ⟨v1', v2', sr.ls ++ [⟨g, N, k, uc⟩]⟩ b → XB R sr b ∨ wr.heap.size ≤ b := fun b hb => by
    rcases hb with h | h | h
    · exact .inl (.inl h)
    · rcases a5 with e | e
      · exact .inl (.inr (.inl (e ▸ h)))
      · have h' : v1'.ownBlock = some b := h
        rw [e] at h'; injection h' with h'; exact .inr (by omega)
    · rcases a7 with e | e
      · exact .inl (.inr (.inr (e ▸ h)))
      · have h' : v2'.ownBlock = some b := h
        rw [e] at h'; injection h' with h'; exact .inr (by omega)
  have hgx : ¬ RB R sr g := hl.nb g rfl
  have r5 : w5.heap[R]? = wr.heap[R]? := e5 R hRl fun e => by have := (h1lt R e).1; omega
  have r7 : w7.heap[R]? = (w5.setCell ⟨R, 22, none⟩ v1').heap[R]? := (g7.block R (by simp; omega) fun e => by have := (h2lt R e.symm).1; omega).trans (Below.heap_alloc _ _ R (by rw [setCell_sizeB]; omega))
  have c22 : w5.cell? ⟨R, 22, none⟩ = some sr.v1 := cell_sameB r5 m.c22
  have c23 : w7.cell? ⟨R, 23, none⟩ = some sr.v2 := cell_sameB r7 ((World.cell?_setCell_other _ _ _ _ (by simp)).trans (cell_sameB r5 m.c23))
  have b1 : ∀ b, v1'.ownBlock = some b → R + 1 ≤ b ∧ b < w5.heap.size ∧ sr.v2.ownBlock ≠ some b := fun b hb => by
    obtain ⟨q1, q2⟩ := World.ownsRow.lt o5 b hb
    refine ⟨q1, q2, fun e => ?_⟩
    rcases a5 with a | a
    · exact m.ne b (a ▸ hb) e
    · rw [a] at hb; injection hb with hb; have := (h2lt b e).2; omega
  have b2 : ∀ b, v2'.ownBlock = some b → R + 1 ≤ b ∧ b < w7.heap.size := fun b hb => World.ownsRow.lt o7 b hb
  refine ⟨⟨fun i h1 h2 h3 => ?_, ?_, World.cell?_setCell_same _ _ _ c23, fun o => ?_, ?_, ?_, fun b hb hb2 => ?_, fun e he => ?_, fun e he hx => ?_, fun e he => ?_⟩, ⟨?_, fun b hb hx => ?_, fun b hb => ?_, fun b hb => ?_⟩, A, X, by rw [setCell_sizeB]; omega⟩
  · exact (World.cell?_setCell_other _ _ _ _ (by simp)).trans (cell_sameB r7 ((World.cell?_setCell_other _ _ _ _ (by simp)).trans (cell_sameB r5 (m.idle i h1 h2 h3))))
  · exact (World.cell?_setCell_other _ _ _ _ (by simp)).trans (cell_sameB r7 (World.cell?_setCell_same _ _ _ c22))
  · exact (frozen_setG w7 R 23 o _).trans (frozen_sameB r7 ((frozen_setG w5 R 22 o _).trans (frozen_sameB r5 (m.fz o))))
  · have := owns_sameB o5 (w' := w7.setCell ⟨R, 23, none⟩ v2') (fun b hb => (setCell_blockB (by have := (b1 b hb).1; omega)).trans (e7 b (b1 b hb).2.1 (by have := (b1 b hb).1; omega) (b1 b hb).2.2))
    simpa using this
  · have := owns_sameB o7 (w' := w7.setCell ⟨R, 23, none⟩ v2') (fun b hb => setCell_blockB (by have := (b2 b hb).1; omega))
    simpa using this
  · rcases a7 with a | a
    · exact (b1 b hb).2.2 (by rw [← a]; exact hb2)
    · have h' : v2'.ownBlock = some b := hb2
      rw [a] at h'; injection h' with h'; have := (b1 b hb).2.1; omega
  · rcases List.mem_append.1 he with he | he
    · exact ⟨by have := (m.rows e he).1; rw [setCell_sizeB]; omega, (m.rows e he).2.keep (A _ (m.rows e he).1 (m.rx e he))⟩
    · simp at he; subst he
      exact ⟨by show g < _; rw [setCell_sizeB]; omega, (mk_of_own hl.own hx).keep (A g hgl.2 fun e => hgx (.inl e))⟩
  · rcases List.mem_append.1 he with he | he
    · rcases X _ hx with q | q
      · exact m.rx e he q
      · have := (m.rows e he).1; omega
    · simp at he; subst he
      rcases X _ hx with q | q
      · exact hgx (.inl q)
      · have := hgl.2; simp only [] at q; omega
  · rcases List.mem_append.1 he with he | he
    · exact m.bd e he
    · simp at he; subst he
      exact ⟨hN, hk⟩
  · refine ⟨?_, ?_, ?_, ?_, fun b hb => ?_⟩
    · exact g7.os.trans (g5.os.trans hl.hto.bel.os)
    · exact g7.tape.trans (g5.tape.trans hl.hto.bel.tape)
    · exact g7.output.trans (g5.output.trans hl.hto.bel.output)
    · have := hl.hto.bel.size; rw [setCell_sizeB]; omega
    · exact (A b (by omega) fun e => by have := m.ge e; omega).trans (hl.hto.bel.block b hb)
  · have := hl.hto.bel.size
    refine (A b (by omega) fun e => ?_).trans (hl.hto.block b hb hx)
    rcases hl.hto.xb b e with e | e
    · exact hx e
    · omega
  · rcases X b hb with e | e
    · exact hl.hto.xb b e
    · have := hl.hto.bel.size; exact .inr (by omega)
  · rcases hb with hb | ⟨e, he, rfl⟩
    · rcases X b hb with e | e
      · rcases hl.hto.xb b e with e | e
        · exact .inl (.inl e)
        · exact .inr e
      · have := hl.hto.bel.size; exact .inr (by omega)
    · rcases List.mem_append.1 he with he | he
      · exact hl.hto.rb _ (.inr ⟨e, he, rfl⟩)
      · simp at he; subst he
        exact .inr hgl.1
/-- what layNodes answers -/
theorem LS.res {R : Nat} {w wr w8 : World} {s sr s8 : Sg} {g uc N k : Nat} {f : F} {xs ys : List Value} {T : Nat → Prop} (hl : LS R w s wr sr (.slice (some ⟨g, 0, none⟩) (N + k) uc) (N + k) (xs ++ ys) T) (hf : f.len = N) (hc : RCellsD wr f T xs)
    (hA : ∀ b, b < wr.heap.size → ¬ XB R sr b → w8.heap[b]? = wr.heap[b]?) (hX : ∀ b, XB R s8 b → XB R sr b ∨ wr.heap.size ≤ b) (hs : wr.heap.size ≤ w8.heap.size) :
    HasSD w8 (fun b => w.heap.size ≤ b ∧ b < w8.heap.size ∧ ¬ XB R s8 b) (.slice (some ⟨g, 0, none⟩) N (N + k)) f := by
  have hgl := World.ownsRow.lt hl.own g rfl
  have hgn : ¬ XB R sr g := fun e => hl.nb g rfl (.inl e)
  have hg := hA g hgl.2 hgn
  have ho := owns_sameB (w' := w8) hl.own (fun b hb => by simp [Value.ownBlock] at hb; subst hb; exact hg)
  have n8 : ∀ b, b < wr.heap.size → ¬ XB R sr b → ¬ XB R s8 b := fun b hb hx e => by
    rcases hX b e with e | e
    · exact hx e
    · omega
  refine ⟨_, N + k, by rw [hf], by omega, .inr ⟨g, rfl, ⟨hgl.1, by omega, n8 g hgl.2 hgn⟩, fun j => ho.frozenAt j, ?_⟩⟩
  refine RCellsD.row (RCellsD.keep (S' := fun b => (w.heap.size ≤ b ∧ b < w8.heap.size ∧ ¬ XB R s8 b) ∧ b ≠ g) (fun b hb => ?_) hc) fun j u hj => ?_
  · obtain ⟨h1, h2, h3, h4⟩ := hl.ts b hb
    exact ⟨hA b h2 h3, ⟨h1, by omega, n8 b h2 h3⟩, fun e => h4 (by rw [e]; rfl)⟩
  · have := World.ownsRow.cells ho (g := g) rfl j u (by rw [List.getElem?_append_left (List.getElem?_eq_some_iff.1 hj).1]; exact hj)
    rwa [show ((⟨g, 0, none⟩ : Addr).add j) = ⟨g, 0 + j, none⟩ from Addr.add_mid g 0 j] at this
end Go.Proofs.Ytjkbhfkeagfhbaa
