/-
  What tree.gather's loop holds of a round: two lists of one's own, names and what was told.
-/
import Derived.Test.YtglnpmdigghibaaClos
import Derived.Test.YtglnpmdigghibaaGrowsX
namespace Go.Proofs.Ytglnpmdigghibaa
open Go.RowKit Go.Shelf

/-- the loop's holdings: the path, the function, both variables, both rows -/
structure GI (w : World) (B : Nat) (q : ByteArray) (Y : Value) (L : List ByteArray) (fs : F) (W : World) (un ut : Value) (xs : List Value) (T : Nat → Prop) : Prop where
  g : G w W
  b0 : W.heap[B]? = some (.cells #[.string q] 9 (0, 0))
  b1 : W.heap[B + 1]? = some (.cells #[Y] 80 (0, 0))
  vn : W.heap[B + 3]? = some (.cells #[un] 55 (0, 0))
  vt : W.heap[B + 5]? = some (.cells #[ut] 28 (0, 0))
  on : W.ownsRow (B + 2) 9 1 un L.length (L.map Value.string)
  ot : W.ownsRow (B + 2) 30 41 ut fs.len xs
  rc : RCells W T fs xs
  tt : ∀ b, T b → B + 2 ≤ b ∧ (∃ o : Obj, W.heap[b]? = some o ∧ o.isCells = true) ∧ some b ≠ ut.ownBlock ∧ some b ≠ un.ownBlock ∧ b ≠ B + 3 ∧ b ≠ B + 5
theorem own_obj {w : World} {lo e size n : Nat} {u : Value} {xs : List Value} (h : w.ownsRow lo e size u n xs) {g : Nat} (hg : u.ownBlock = some g) : lo ≤ g ∧ g < w.heap.size ∧ ∃ cur, w.heap[g]? = some (.cells cur e (0, 0)) := by
  have hl := World.ownsRow.lt h g hg
  obtain ⟨_, q | ⟨g', cap', cur, hv, _, hh, _⟩⟩ := h
  · rw [q.1] at hg; cases hg
  · rw [hv] at hg
    obtain rfl : g' = g := by simpa [Value.ownBlock] using hg
    exact ⟨hl.1, hl.2, cur, hh⟩
theorem owns_same {w w' : World} {lo e size n : Nat} {u : Value} {xs : List Value} (h : w.ownsRow lo e size u n xs) (hb : ∀ g, u.ownBlock = some g → w'.heap[g]? = w.heap[g]?) : w'.ownsRow lo e size u n xs := by
  obtain ⟨r1, r2 | ⟨g, cp, cur, rv, rb, rh, rr⟩⟩ := h
  · exact ⟨r1, .inl r2⟩
  · exact ⟨r1, .inr ⟨g, cp, cur, rv, rb, (hb g (by rw [rv]; rfl)).trans rh, rr⟩⟩
section
variable {w W : World} {B : Nat} {q : ByteArray} {Y un ut : Value} {L : List ByteArray} {fs : F} {xs : List Value} {T : Nat → Prop}
/-- where the names' row lies, nothing else does -/
theorem GI.un_ne (h : GI w B q Y L fs W un ut xs T) {g : Nat} (hg : un.ownBlock = some g) : B + 2 ≤ g ∧ g < W.heap.size ∧ g ≠ B + 3 ∧ g ≠ B + 5 ∧ ut.ownBlock ≠ some g := by
  obtain ⟨h1, h2, cur, h3⟩ := own_obj h.on hg
  refine ⟨h1, h2, fun e => ?_, fun e => ?_, fun e => ?_⟩
  · rw [e, h.vn] at h3; cases h3
  · rw [e, h.vt] at h3; cases h3
  · obtain ⟨_, _, cur', h4⟩ := own_obj h.ot e
    rw [h3] at h4; cases h4
theorem GI.ut_ne (h : GI w B q Y L fs W un ut xs T) {g : Nat} (hg : ut.ownBlock = some g) : B + 2 ≤ g ∧ g < W.heap.size ∧ g ≠ B + 3 ∧ g ≠ B + 5 ∧ un.ownBlock ≠ some g := by
  obtain ⟨h1, h2, cur, h3⟩ := own_obj h.ot hg
  refine ⟨h1, h2, fun e => ?_, fun e => ?_, fun e => ?_⟩
  · rw [e, h.vn] at h3; cases h3
  · rw [e, h.vt] at h3; cases h3
  · obtain ⟨_, _, cur', h4⟩ := own_obj h.on e
    rw [h3] at h4; cases h4
/-- a world in which all cells of these blocks are as they were -/
theorem GI.keep {W' : World} (h : GI w B q Y L fs W un ut xs T) (hg : G w W') (hc : ∀ (b : Nat) (o : Obj), W.heap[b]? = some o → o.isCells = true → W'.heap[b]? = W.heap[b]?) : GI w B q Y L fs W' un ut xs T := by
  refine ⟨hg, (hc _ _ h.b0 rfl).trans h.b0, (hc _ _ h.b1 rfl).trans h.b1, (hc _ _ h.vn rfl).trans h.vn, (hc _ _ h.vt rfl).trans h.vt, owns_same h.on fun g hg => ?_, owns_same h.ot fun g hg => ?_, RCells.keep (fun b hb => ?_) h.rc, fun b hb => ?_⟩
  · obtain ⟨_, _, cur, h3⟩ := own_obj h.on hg; exact hc _ _ h3 rfl
  · obtain ⟨_, _, cur, h3⟩ := own_obj h.ot hg; exact hc _ _ h3 rfl
  · obtain ⟨_, ⟨o, ho, hoc⟩, _⟩ := h.tt b hb
    exact ⟨hc b o ho hoc, hb⟩
  · obtain ⟨h8, ⟨o, ho, hoc⟩, h9⟩ := h.tt b hb
    exact ⟨h8, ⟨o, (hc b o ho hoc).trans ho, hoc⟩, h9⟩
theorem GI.grow {W' : World} (h : GI w B q Y L fs W un ut xs T) (hg : G W W') : GI w B q Y L fs W' un ut xs T := h.keep (h.g.trans hg) fun b _ ho _ => Below.block hg b (Array.getElem?_eq_some_iff.1 ho).1
/-- a name is laid behind the names -/
theorem GI.name {W1 : World} {un' : Value} {x : ByteArray} {o : Obj} (h : GI w B q Y L fs W un ut xs T) (hB : w.heap.size = B) (ho : W1.ownsRow (B + 2) 9 1 un' (L.length + 1) (L.map Value.string ++ [.string x])) (hg : (W.alloc o).grownBy W1 un.ownBlock) (hat : un'.ownBlock = un.ownBlock ∨ un'.ownBlock = some (W.alloc o).heap.size) :
    GI w B q Y (L ++ [x]) fs (W1.setCell ⟨B + 3, 0, none⟩ un') un' ut xs T ∧ Below B W (W1.setCell ⟨B + 3, 0, none⟩ un') ∧ KeepsOthers W (W1.setCell ⟨B + 3, 0, none⟩ un') := by
  have hs := hg.size
  rw [World.size_alloc] at hs
  have hold : ∀ b, b < W.heap.size → b ≠ B + 3 → some b ≠ un.ownBlock → (W1.setCell ⟨B + 3, 0, none⟩ un').heap[b]? = W.heap[b]? := fun b hb h3 hu =>
    (Below.heap_setCell _ _ _ _ h3).trans ((hg.block b (by rw [World.size_alloc]; omega) hu).trans (Below.heap_alloc W o b hb))
  have lt : ∀ {b : Nat} {x : Obj}, W.heap[b]? = some x → b < W.heap.size := fun h => (Array.getElem?_eq_some_iff.1 h).1
  have hun : ∀ b, un.ownBlock = some b → B + 2 ≤ b ∧ b ≠ B + 5 := fun b hb => ⟨(h.un_ne hb).1, (h.un_ne hb).2.2.2.1⟩
  have hlo : ∀ b, b < B + 2 → some b ≠ un.ownBlock := fun b hb e => by have := (hun b e.symm).1; omega
  have hB3 := lt h.vn
  have hbel : Below B W (W1.setCell ⟨B + 3, 0, none⟩ un') := ⟨hg.os, hg.tape, hg.output, by rw [World.size_setCell]; omega, fun b hb => hold b (by have := h.g.size; omega) (by omega) (hlo b (by omega))⟩
  have hun' : ∀ g, un'.ownBlock = some g → g ≠ B + 3 := fun g hg' => by
    rcases hat with e | e
    · rw [e] at hg'; exact (h.un_ne hg').2.2.1
    · rw [e, World.size_alloc] at hg'
      injection hg' with hg'
      omega
  refine ⟨⟨Below.trans (B := w.heap.size) h.g (by rw [hB]; exact hbel), (hold B (lt h.b0) (by omega) (hlo B (by omega))).trans h.b0, (hold (B + 1) (lt h.b1) (by omega) (hlo _ (by omega))).trans h.b1, ?_, (hold (B + 5) (lt h.vt) (by omega) (fun e => (hun _ e.symm).2 rfl)).trans h.vt, ?_, ?_, ?_, ?_⟩, hbel, ?_⟩
  · have h1 : W1.heap[B + 3]? = some (.cells #[un] 55 (0, 0)) := (hg.block (B + 3) (by rw [World.size_alloc]; omega) (fun e => (h.un_ne e.symm).2.2.1 rfl)).trans ((Below.heap_alloc W o _ hB3).trans h.vn)
    unfold World.setCell
    simp only []
    rw [Array.getElem?_modify]
    simp [h1]
  · rw [List.length_append, List.length_singleton, List.map_append, List.map_singleton]
    exact owns_same ho fun g hg' => Below.heap_setCell _ _ _ _ (hun' g hg')
  · exact owns_same h.ot fun g hg' => hold g (h.ut_ne hg').2.1 (h.ut_ne hg').2.2.1 fun e => (h.ut_ne hg').2.2.2.2 e.symm
  · exact RCells.keep (fun b hb => ⟨by
      obtain ⟨h8, ⟨ob, ho', hoc⟩, h9, h10, h11, h12⟩ := h.tt b hb
      exact hold b (lt ho') h11 h10, hb⟩) h.rc
  · intro b hb
    obtain ⟨h8, ⟨ob, ho', hoc⟩, h9, h10, h11, h12⟩ := h.tt b hb
    refine ⟨h8, ⟨ob, (hold b (lt ho') h11 h10).trans ho', hoc⟩, h9, fun e => ?_, h11, h12⟩
    rcases hat with e2 | e2
    · rw [e2] at e; exact h10 e
    · rw [e2, World.size_alloc] at e
      injection e with e
      have := lt ho'
      omega
  · refine ⟨hbel.size, fun b ob hb hoc => ?_⟩
    rw [hold b (lt hb) (fun e => ?_) (fun e => ?_)]
    · exact hb
    · subst e
      rw [h.vn] at hb
      cases hb
      cases hoc
    · obtain ⟨_, _, cur, h3⟩ := own_obj h.on e.symm
      rw [h3] at hb
      cases hb
      cases hoc
/-- what the last two stores leave, in whichever order -/
structure Lef (Wa Wz : World) (B g k : Nat) (u' : Value) (ys : List Value) : Prop where
  os : Wz.os = Wa.os
  tape : Wz.tape = Wa.tape
  output : Wz.output = Wa.output
  size : Wz.heap.size = Wa.heap.size
  block : ∀ b, b ≠ B + 5 → b ≠ g → Wz.heap[b]? = Wa.heap[b]?
  var : Wz.heap[B + 5]? = some (.cells #[u'] 28 (0, 0))
  row : Wz.ownsRow (B + 2) 30 41 u' (k + 1) ys
/-- a thing is laid behind what was told -/
theorem GI.told {W3 Wa Wz : World} {g cap : Nat} {v : Vd} {kv : Value} {ks : F} (h : GI w B q Y L fs W un ut xs T) (hB : w.heap.size = B) (hg3 : G W W3) (hk : HasSP W3 (NewC W W3) kv ks) (hga : W3.grownBy Wa ut.ownBlock) (hat : ut.ownBlock = some g ∨ W3.heap.size ≤ g)
    (hL : Lef Wa Wz B g fs.len (.slice (some ⟨g, 0, none⟩) (fs.len + 1) cap) (xs ++ (nc ⟨#[]⟩ v Md.zero kv).toList)) :
    GI w B q Y L (fs.app (.cons ⟨#[]⟩ v Md.zero ks .nil)) Wz un (.slice (some ⟨g, 0, none⟩) (fs.len + 1) cap) (xs ++ (nc ⟨#[]⟩ v Md.zero kv).toList) (fun b => T b ∨ NewC W W3 b) ∧ Below B W Wz ∧ KeepsOthers W Wz := by
  have lt : ∀ {b : Nat} {x : Obj}, W.heap[b]? = some x → b < W.heap.size := fun h => (Array.getElem?_eq_some_iff.1 h).1
  have hs3 := hg3.size
  have hsa := hga.size
  have hsame : ∀ b, b < W3.heap.size → b ≠ B + 5 → some b ≠ ut.ownBlock → Wz.heap[b]? = W3.heap[b]? := fun b hb hn hu => by
    rw [hL.block b hn (fun e => by
      rcases hat with q | q
      · exact hu (by rw [e, q])
      · omega)]
    exact hga.block b hb hu
  have hold : ∀ b, b < W.heap.size → b ≠ B + 5 → some b ≠ ut.ownBlock → Wz.heap[b]? = W.heap[b]? := fun b hb hn hu => (hsame b (by omega) hn hu).trans (Below.block hg3 b hb)
  have hlo : ∀ b, b < B + 2 → some b ≠ ut.ownBlock := fun b hb e => by have := (h.ut_ne e.symm).1; omega
  have hsw := h.g.size
  have hbel : Below B W Wz := ⟨by rw [hL.os, hga.os]; exact hg3.os, by rw [hL.tape, hga.tape]; exact hg3.tape, by rw [hL.output, hga.output]; exact hg3.output, by rw [hL.size]; omega, fun b hb => hold b (by omega) (by omega) (hlo b (by omega))⟩
  have hlen : (fs.app (.cons ⟨#[]⟩ v Md.zero ks .nil)).len = fs.len + 1 := by rw [F.app_len]; rfl
  refine ⟨⟨Below.trans (B := w.heap.size) h.g (by rw [hB]; exact hbel), (hold B (lt h.b0) (by omega) (hlo B (by omega))).trans h.b0, (hold (B + 1) (lt h.b1) (by omega) (hlo _ (by omega))).trans h.b1, (hold (B + 3) (lt h.vn) (by omega) (fun e => (h.ut_ne e.symm).2.2.1 rfl)).trans h.vn, hL.var, ?_, ?_, ?_, ?_⟩, hbel, ?_⟩
  · exact owns_same h.on fun g' hg' => hold g' (h.un_ne hg').2.1 (h.un_ne hg').2.2.2.1 fun e => (h.un_ne hg').2.2.2.2 e.symm
  · rw [hlen]; exact hL.row
  · refine RCells.snoc (hk.keep fun b hb => ⟨?_, .inr hb⟩) (RCells.keep (fun b hb => ⟨?_, .inl hb⟩) h.rc)
    · obtain ⟨h8, o, ho, hoc⟩ := hb
      have hv5 := lt h.vt
      exact hsame b (Array.getElem?_eq_some_iff.1 ho).1 (by omega) fun e => by have := (h.ut_ne e.symm).2.1; omega
    · obtain ⟨h8, ⟨o, ho, hoc⟩, h9, h10, h11, h12⟩ := h.tt b hb
      exact hold b (lt ho) h12 h9
  · have hgl : g ≠ B + 3 ∧ g ≠ B + 5 ∧ un.ownBlock ≠ some g := by
      have h5 := lt h.vt
      rcases hat with e | e
      · exact ⟨(h.ut_ne e).2.2.1, (h.ut_ne e).2.2.2.1, (h.ut_ne e).2.2.2.2⟩
      · exact ⟨by have := lt h.vn; omega, by omega, fun q => by have := (h.un_ne q).2.1; omega⟩
    rintro b (hb | hb)
    · obtain ⟨h8, ⟨o, ho, hoc⟩, h9, h10, h11, h12⟩ := h.tt b hb
      have hbl := lt ho
      refine ⟨h8, ⟨o, (hold b hbl h12 h9).trans ho, hoc⟩, fun e => ?_, h10, h11, h12⟩
      obtain rfl : b = g := by simpa [Value.ownBlock] using e
      rcases hat with q | q
      · exact h9 q.symm
      · omega
    · obtain ⟨h8, o, ho, hoc⟩ := hb
      have hbl := (Array.getElem?_eq_some_iff.1 ho).1
      have hv5 := lt h.vt
      have hv3 := lt h.vn
      have hu : some b ≠ ut.ownBlock := fun e => by have := (h.ut_ne e.symm).2.1; omega
      refine ⟨by omega, ⟨o, (hsame b hbl (by omega) hu).trans ho, hoc⟩, fun e => ?_, fun e => by have := (h.un_ne e.symm).2.1; omega, by omega, by omega⟩
      obtain rfl : b = g := by simpa [Value.ownBlock] using e
      rcases hat with q | q
      · exact hu q.symm
      · omega
  · refine ⟨hbel.size, fun b o hb ho => ?_⟩
    rw [hold b (lt hb) (fun e => ?_) (fun e => ?_)]
    · exact hb
    · subst e
      rw [h.vt] at hb
      cases hb
      cases ho
    · obtain ⟨_, _, cur, h3⟩ := own_obj h.ot e.symm
      rw [h3] at hb
      cases hb
      cases ho
end
end Go.Proofs.Ytglnpmdigghibaa
