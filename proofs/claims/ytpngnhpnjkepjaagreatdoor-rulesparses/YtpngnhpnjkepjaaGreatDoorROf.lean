/-
  of: rules out of a list, by contract.
-/
import Derived.Test.YtpngnhpnjkepjaaGreatDoorRRows
namespace Go.Proofs.YtpngnhpnjkepjaaGreatDoor
open Go.RowKit
attribute [local go_sem] run_store_func

/-- append of one function -/
theorem exec_append1 {o : Oper} {a : Act} (T E : TypeId) (i0 : TypeInfo) (hT : Tryz.prog.underlying T = some (.slice E)) (hi : Tryz.prog.info? E = some i0) (hz0 : i0.zero = some .nilFunc) (hz1 : i0.size = 1) (hz2 : i0.bytes = 8) (s x : Operand)
    (ho : o.op = .call { callee := .builtin .append, args := #[s, x], argTypes := #[T, T] }) (lo : Nat) (v c : Value) (cs : List Value) (K : Nat) (w : World) (hs : a.eval s = v) (hx : a.eval x = .slice (some ⟨K, 0, none⟩) 1 1)
    (hown : w.ownsRow lo E 1 v cs.length cs) (hK : w.heap[K]? = some (.cells #[c] E)) (h1 : c.oneCell' = true) (hlen : cs.length ≤ 1048576) (hb : lo ≤ w.heap.size) :
    ∃ v' w', (execOp a.eval o).run Tryz.prog w = .ok (.value v') w' ∧ w'.ownsRow lo E 1 v' (cs ++ [c]).length (cs ++ [c]) ∧ w.grownBy w' v.ownBlock ∧ (v'.ownBlock = v.ownBlock ∨ v'.ownBlock = some w.heap.size) := by
  obtain ⟨v', w', hr, h2, h3, _, h5⟩ := run_append_own_at (P := Tryz.prog) w lo T o.type E i0 .nilFunc 1 8 hT hi hz0 hz1 hz2 rfl (by decide) v cs.length cs hown ⟨K, 0, none⟩ 1 1 [c] (by simp) (fun j u hj => by
      match j, hj with
      | 0, hj =>
        simp at hj; subst hj
        simp [Addr.add, World.cell?, hK])
    (fun u hu => by simp at hu; subst hu; exact h1) (by unfold maxLen; omega) (by omega) hb
  refine ⟨v', w', ?_, by simpa using h2, h3, h5⟩
  unfold execOp
  simp only [ho, resolve, invoke, builtin, Sem.run_bind, Sem.run_pure, Result.andThen_ok, List.map_toArray, List.map_cons, List.map_nil, hs, hx, hr]
theorem owns_same {w w' : World} {lo : Nat} {e : TypeId} {size : Nat} {v : Value} {n : Nat} {xs : List Value} (h : w.ownsRow lo e size v n xs) (hb : ∀ k, v.ownBlock = some k → k < w.heap.size → w'.heap[k]? = w.heap[k]?) : w'.ownsRow lo e size v n xs := by
  obtain ⟨h1, h | ⟨g, cap, cur, hv, hg, hh, hr⟩⟩ := h
  · exact ⟨h1, .inl h⟩
  · subst hv
    exact ⟨h1, .inr ⟨g, cap, cur, rfl, hg, (hb g rfl (Array.getElem?_eq_some_iff.1 hh).1).trans hh, hr⟩⟩
/-- so far: the rules at p0, their functions in blocks of D -/
structure OfS (w wr : World) (v sv pv : Value) (p0 : Nat) (cs ps : List Value) (D : Nat → Prop) (M : List Ru) : Prop where
  blk : wr.heap[p0]? = some (.cells #[v, sv, pv] 74)
  so : wr.ownsRow p0 53 1 sv cs.length cs
  po : wr.ownsRow p0 84 1 pv ps.length ps
  sc : All2 (IsM D wr) cs (skipsOf M)
  pc : All2 (IsP D wr) ps (prefsOf M)
  s0 : sv.ownBlock ≠ some p0
  q0 : pv.ownBlock ≠ some p0
  sp : ∀ k, sv.ownBlock = some k → pv.ownBlock ≠ some k
  dz : ¬ D p0
  ds : ∀ k, sv.ownBlock = some k → ¬ D k
  dq : ∀ k, pv.ownBlock = some k → ¬ D k
  dl : ∀ b, D b → b < wr.heap.size
  be : Below p0 w wr
theorem OfS.up {w wr w' : World} {v sv pv : Value} {p0 : Nat} {cs ps : List Value} {D : Nat → Prop} {M : List Ru} (h : OfS w wr v sv pv p0 cs ps D M) (hg : Below wr.heap.size wr w') : OfS w w' v sv pv p0 cs ps D M where
  blk := heap_up h.blk hg
  so := owns_same h.so fun k _ hk => hg.block k hk
  po := owns_same h.po fun k _ hk => hg.block k hk
  sc := h.sc.mono fun _ _ hc => hc.up (fun _ h => h) fun b hb => hg.block b (h.dl b hb)
  pc := h.pc.mono fun _ _ hc => hc.up (fun _ h => h) fun b hb => hg.block b (h.dl b hb)
  s0 := h.s0
  q0 := h.q0
  sp := h.sp
  dz := h.dz
  ds := h.ds
  dq := h.dq
  dl := fun b hb => Nat.lt_of_lt_of_le (h.dl b hb) hg.size
  be := h.be.trans (hg.mono (Nat.le_of_lt (Array.getElem?_eq_some_iff.1 h.blk).1))
theorem setCell_heap {w : World} {g o : Nat} {c : Array Value} {T : TypeId} {x : Value} (h : w.heap[g]? = some (.cells c T)) (k : Nat) : (w.setCell ⟨g, o, none⟩ x).heap[k]? = if k = g then some (.cells (c.setIfInBounds o x) T) else w.heap[k]? := by
  by_cases e : k = g
  · subst e
    rw [if_pos rfl]
    unfold World.setCell
    simp [Array.getElem?_modify, h]
  · rw [if_neg e]
    unfold World.setCell
    simp [Array.getElem?_modify, Ne.symm e]
/-- a skip rule more: from W on (grown out of wr) its block b was laid, then the row, then the rules' cell -/
theorem OfS.skip {w wr w3 : World} {v sv pv v' : Value} {p0 b : Nat} {cs ps : List Value} {D : Nat → Prop} {M : List Ru} {r : Ru} (h : OfS w wr v sv pv p0 cs ps D M) (hr : r.1 = 1) (W : World) (hW : Below wr.heap.size wr W) (hb : wr.heap.size ≤ b) (hbW : W.heap[b]? = some (.cells #[.string (ofB r.2)] 9))
    (hown : w3.ownsRow p0 53 1 v' (cs ++ [fM b]).length (cs ++ [fM b])) (hg : W.grownBy w3 sv.ownBlock) (hv : v'.ownBlock = sv.ownBlock ∨ v'.ownBlock = some W.heap.size) : OfS w (w3.setCell ⟨p0, 1, none⟩ v') v v' pv p0 (cs ++ [fM b]) ps (fun k => D k ∨ k = b) (M ++ [r]) := by
  have hU := h.up hW
  have hp : p0 < W.heap.size := (Array.getElem?_eq_some_iff.1 hU.blk).1
  have hbl : b < W.heap.size := (Array.getElem?_eq_some_iff.1 hbW).1
  have hpb : p0 ≠ b := by have := (Array.getElem?_eq_some_iff.1 h.blk).1; omega
  have hsb : ∀ k, sv.ownBlock = some k → k ≠ b := fun k hk e => by have := (World.ownsRow.lt h.so k hk).2; omega
  have hqb : ∀ k, pv.ownBlock = some k → k ≠ b := fun k hk e => by have := (World.ownsRow.lt h.po k hk).2; omega
  have hq3 : ∀ k, pv.ownBlock = some k → k < W.heap.size := fun k hk => (World.ownsRow.lt hU.po k hk).2
  have hs3 : w3.heap[p0]? = some (.cells #[v, sv, pv] 74) := (hg.block p0 hp (Ne.symm h.s0)).trans hU.blk
  have hset := fun k => setCell_heap (o := 1) (x := v') hs3 k
  have hv0 : v'.ownBlock ≠ some p0 := by
    rcases hv with e | e <;> rw [e]
    · exact h.s0
    · simp; omega
  have hother : ∀ k, k < W.heap.size → k ≠ p0 → some k ≠ sv.ownBlock → (w3.setCell ⟨p0, 1, none⟩ v').heap[k]? = W.heap[k]? := fun k hk h1 h2 => by
    rw [hset k, if_neg h1]; exact hg.block k hk h2
  have hD : ∀ k, D k ∨ k = b → (w3.setCell ⟨p0, 1, none⟩ v').heap[k]? = W.heap[k]? := fun k hk => by
    rcases hk with hk | rfl
    · exact hother k (hU.dl k hk) (fun e => h.dz (e ▸ hk)) (fun e => h.ds k e.symm hk)
    · exact hother k hbl (Ne.symm hpb) (fun e => hsb k e.symm rfl)
  refine ⟨?_, ?_, ?_, ?_, ?_, hv0, h.q0, ?_, ?_, ?_, ?_, ?_, ?_⟩
  · rw [hset p0, if_pos rfl]; rfl
  · refine owns_same hown fun k hk _ => ?_
    rw [hset k, if_neg (fun e : k = p0 => hv0 (by rw [← e]; exact hk))]
  · refine owns_same hU.po fun k hk hl => hother k hl (fun e => h.q0 (e ▸ hk)) (fun e => h.sp k e.symm hk)
  · have e : skipsOf (M ++ [r]) = skipsOf M ++ [r.2] := by simp [skipsOf, List.filter_append, hr]
    rw [e]
    refine All2.snoc ⟨b, .inr rfl, rfl, (hD b (.inr rfl)).trans hbW⟩ (hU.sc.mono fun c p hc => hc.up (fun _ h => .inl h) fun k hk => hD k (.inl hk))
  · have e : prefsOf (M ++ [r]) = prefsOf M := by simp [prefsOf, List.filter_append, hr]
    rw [e]
    exact hU.pc.mono fun c p hc => hc.up (fun _ h => .inl h) fun k hk => hD k (.inl hk)
  · intro k hk hq
    rcases hv with e | e
    · exact h.sp k (e ▸ hk) hq
    · rw [e] at hk; cases hk; exact absurd (hq3 _ hq) (Nat.lt_irrefl _)
  · rintro (hd | hd)
    · exact h.dz hd
    · exact hpb hd
  · intro k hk
    rcases hv with e | e
    · rintro (hd | hd)
      · exact h.ds k (e ▸ hk) hd
      · exact hsb k (e ▸ hk) hd
    · rw [e] at hk; cases hk
      rintro (hd | hd)
      · exact absurd (hU.dl _ hd) (Nat.lt_irrefl _)
      · omega
  · intro k hk
    rintro (hd | hd)
    · exact h.dq k hk hd
    · exact hqb k hk hd
  · intro k hk
    rw [World.size_setCell]
    rcases hk with hk | rfl
    · exact Nat.lt_of_lt_of_le (hU.dl k hk) hg.size
    · exact Nat.lt_of_lt_of_le hbl hg.size
  · refine Below.setCell (p := ⟨p0, 1, none⟩) ?_ (Nat.le_refl _) _
    exact hU.be.grown hg (Nat.le_of_lt hp) fun k hk => (World.ownsRow.lt h.so k hk).1
/-- a prefer rule more -/
theorem OfS.pref {w wr w3 : World} {v sv pv v' : Value} {p0 b g m : Nat} {cs ps : List Value} {D : Nat → Prop} {M : List Ru} {r : Ru} (h : OfS w wr v sv pv p0 cs ps D M) (hr : r.1 ≠ 1) (W : World) (hW : Below wr.heap.size wr W) (hb : wr.heap.size ≤ b) (hg0 : wr.heap.size ≤ g) (hm0 : wr.heap.size ≤ m)
    (hbW : W.heap[b]? = some (.cells #[fM m] 53)) (hgW : W.heap[g]? = some (.cells #[.int .i64 ((r.1 - 1 : Nat) : Int)] 3)) (hmW : W.heap[m]? = some (.cells #[.string (ofB r.2)] 9))
    (hown : w3.ownsRow p0 84 1 v' (ps ++ [fP b g]).length (ps ++ [fP b g])) (hg : W.grownBy w3 pv.ownBlock) (hv : v'.ownBlock = pv.ownBlock ∨ v'.ownBlock = some W.heap.size) : OfS w (w3.setCell ⟨p0, 2, none⟩ v') v sv v' p0 cs (ps ++ [fP b g]) (fun k => D k ∨ k = b ∨ k = g ∨ k = m) (M ++ [r]) := by
  have hU := h.up hW
  have hp : p0 < W.heap.size := (Array.getElem?_eq_some_iff.1 hU.blk).1
  have hbl : b < W.heap.size := (Array.getElem?_eq_some_iff.1 hbW).1
  have hgl : g < W.heap.size := (Array.getElem?_eq_some_iff.1 hgW).1
  have hml : m < W.heap.size := (Array.getElem?_eq_some_iff.1 hmW).1
  have hpr := (Array.getElem?_eq_some_iff.1 h.blk).1
  have hsr : ∀ k, sv.ownBlock = some k → k < wr.heap.size := fun k hk => (World.ownsRow.lt h.so k hk).2
  have hqr : ∀ k, pv.ownBlock = some k → k < wr.heap.size := fun k hk => (World.ownsRow.lt h.po k hk).2
  have hs3 : w3.heap[p0]? = some (.cells #[v, sv, pv] 74) := (hg.block p0 hp (Ne.symm h.q0)).trans hU.blk
  have hset := fun k => setCell_heap (o := 2) (x := v') hs3 k
  have hv0 : v'.ownBlock ≠ some p0 := by
    rcases hv with e | e <;> rw [e]
    · exact h.q0
    · simp; omega
  have hother : ∀ k, k < W.heap.size → k ≠ p0 → some k ≠ pv.ownBlock → (w3.setCell ⟨p0, 2, none⟩ v').heap[k]? = W.heap[k]? := fun k hk h1 h2 => by
    rw [hset k, if_neg h1]; exact hg.block k hk h2
  have hnew : ∀ k, wr.heap.size ≤ k → k < W.heap.size → (w3.setCell ⟨p0, 2, none⟩ v').heap[k]? = W.heap[k]? := fun k h1 h2 => hother k h2 (by omega) (fun e => by have := hqr k e.symm; omega)
  have hD : ∀ k, D k ∨ k = b ∨ k = g ∨ k = m → (w3.setCell ⟨p0, 2, none⟩ v').heap[k]? = W.heap[k]? := fun k hk => by
    rcases hk with hk | rfl | rfl | rfl
    · exact hother k (hU.dl k hk) (fun e => h.dz (e ▸ hk)) (fun e => h.dq k e.symm hk)
    · exact hnew _ hb hbl
    · exact hnew _ hg0 hgl
    · exact hnew _ hm0 hml
  refine ⟨?_, ?_, ?_, ?_, ?_, h.s0, hv0, ?_, ?_, ?_, ?_, ?_, ?_⟩
  · rw [hset p0, if_pos rfl]; rfl
  · refine owns_same hU.so fun k hk hl => hother k hl (fun e => h.s0 (e ▸ hk)) (fun e => h.sp k hk e.symm)
  · refine owns_same hown fun k hk _ => ?_
    rw [hset k, if_neg (fun e : k = p0 => hv0 (by rw [← e]; exact hk))]
  · have e : skipsOf (M ++ [r]) = skipsOf M := by simp [skipsOf, List.filter_append, hr]
    rw [e]
    exact hU.sc.mono fun c p hc => hc.up (fun _ h => .inl h) fun k hk => hD k (.inl hk)
  · have e : prefsOf (M ++ [r]) = prefsOf M ++ [(r.1 - 1, r.2)] := by simp [prefsOf, List.filter_append, hr]
    rw [e]
    refine All2.snoc ⟨b, g, fM m, .inr (.inl rfl), .inr (.inr (.inl rfl)), rfl, (hD b (by simp)).trans hbW, ⟨m, .inr (.inr (.inr rfl)), rfl, (hD m (by simp)).trans hmW⟩, (hD g (by simp)).trans hgW⟩ (hU.pc.mono fun c p hc => hc.up (fun _ h => .inl h) fun k hk => hD k (.inl hk))
  · intro k hk hq
    rcases hv with e | e
    · exact h.sp k hk (e ▸ hq)
    · rw [e] at hq; cases hq; have := hsr _ hk; have := hW.size; omega
  · rintro (hd | hd)
    · exact h.dz hd
    · omega
  · intro k hk
    rintro (hd | hd)
    · exact h.ds k hk hd
    · have := hsr k hk; omega
  · intro k hk
    rcases hv with e | e
    · rintro (hd | hd)
      · exact h.dq k (e ▸ hk) hd
      · have := hqr k (e ▸ hk); omega
    · rw [e] at hk; cases hk
      rintro (hd | hd)
      · exact absurd (hU.dl _ hd) (Nat.lt_irrefl _)
      · omega
  · intro k hk
    rw [World.size_setCell]
    rcases hk with hk | hk
    · exact Nat.lt_of_lt_of_le (hU.dl k hk) hg.size
    · have := hg.size; omega
  · refine Below.setCell (p := ⟨p0, 2, none⟩) ?_ (Nat.le_refl _) _
    exact hU.be.grown hg (Nat.le_of_lt hp) fun k hk => (World.ownsRow.lt h.po k hk).1
end Go.Proofs.YtpngnhpnjkepjaaGreatDoor
