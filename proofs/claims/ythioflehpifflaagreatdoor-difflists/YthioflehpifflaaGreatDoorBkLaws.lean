/-
  THE BOOK: append onto one of its rows, at a plain region and at a step of a region that draws; a copy of a list.
-/
import Derived.Test.YthioflehpifflaaGreatDoorStep
import Derived.Test.YthioflehpifflaaGreatDoorBkKeep
import Derived.Deep.RegionHeld3
import Derived.Deep.AppendLies
namespace Go.Proofs.YthioflehpifflaaGreatDoor
open Go.RowKit Bk

/-- The elements' types of the eight rows. -/
def tyB (j : Nat) : TypeId := if j < 5 then 22 else 3

/-- The Book's other cells. -/
def zB (turn deep seen : Nat) : Nat → Value := fun i =>
  if i < 2 then .bool false else if i = 2 then .int .i64 turn else if i = 3 then .int .i64 deep else if i = 48 then .int .i64 seen else idle i

theorem Bk.Rows.zext {B : Nat} {ty : Nat → TypeId} {w : World} {lo K : Nat} {T : Nat → Nat} {hs : List Value} {X : List (List Value)} {z z' : Nat → Value} (R : Bk.Rows B ty w lo K T hs X z) (h : ∀ o, o < 148 → (o < B ∨ B + 8 ≤ o) → z o = z' o) : Bk.Rows B ty w lo K T hs X z' :=
  ⟨R.ge, R.lt, R.low, R.tK, R.fz, R.nh, R.nX, R.cell, R.row, R.tag, fun o h1 h2 => by rw [← h o h1 h2]; exact R.rest o h1 h2⟩

/-- What is known behind an append onto row j, ahead of the store of its cell. -/
structure Got (w : World) (lo K : Nat) (T : Nat → Nat) (hs : List Value) (X : List (List Value)) (z : Nat → Value) (j o n : Nat) (u : Value) (w1 : World) (v' : Value) (w' : World) : Prop where
  rows : Bk.Rows 40 tyB (w'.setCell ⟨K, o, none⟩ v') lo K (up T w1.heap.size (2 + j)) (hs.set j v') (X.set j (X.getD j [] ++ [u])) z
  frm : Frm T (fun t => t = 1 ∨ t = 2 + j) w (w'.setCell ⟨K, o, none⟩ v')
  cell : w'.cell? ⟨K, o, none⟩ = some (hs.getD j nil0)
  fz : w'.frozen? ⟨K, o, none⟩ = false
  new : ∀ b, w.heap.size ≤ b → b < w1.heap.size → w'.heap[b]? = w1.heap[b]?
  le : w.heap.size ≤ w1.heap.size
  lt : j < 8

theorem got {w : World} {lo K : Nat} {T : Nat → Nat} {hs : List Value} {X : List (List Value)} {z : Nat → Value} (R : Bk.Rows 40 tyB w lo K T hs X z) {j o n : Nat} (hj : j < 8) (ho : o = 40 + j) (hn : (X.getD j []).length = n) {w1 w' : World} {v' : Value} {u : Value} (hb : Below w.heap.size w w1)
    (h : w'.ownsRow lo (tyB j) 1 v' (n + 1) (X.getD j [] ++ [u])) (hg : w1.grownBy w' (hs.getD j nil0).ownBlock) (hat : v'.ownBlock = (hs.getD j nil0).ownBlock ∨ v'.ownBlock = some w1.heap.size) : Got w lo K T hs X z j o n u w1 v' w' := by
  subst ho
  have h' : w'.ownsRow lo (tyB j) 1 v' (X.getD j [] ++ [u]).length (X.getD j [] ++ [u]) := by
    rw [List.length_append, hn]; exact h
  obtain ⟨r, f⟩ := R.grow hj hb h' hg hat
  have hKj : (hs.getD j nil0).ownBlock ≠ some K := fun e => by have h1 := R.tag j hj K e; have h2 := R.tK; omega
  have s1 := hb.size
  have hKlt := R.lt
  have hK2 : w'.heap[K]? = w.heap[K]? := (hg.block K (by omega) (fun e => hKj e.symm)).trans (hb.block K hKlt)
  refine ⟨r, f, cellB hK2 (R.cell j hj), frozenB hK2 R.fz _, fun b h1 h2 => hg.block b h2 (fun e => ?_), s1, hj⟩
  have := ((R.row j hj).lt b e.symm).2
  omega

theorem Got.kp {w : World} {lo K : Nat} {T : Nat → Nat} {hs : List Value} {X : List (List Value)} {z : Nat → Value} {j o n : Nat} {u : Value} {w1 : World} {v' : Value} {w' : World} (G : Got w lo K T hs X z j o n u w1 v' w')
    {α : Type} {en : List α → List Value} {e : TypeId} {ws : List (Lst α)} {os : List (Bk.Ot α)} {fr rs : List (Lst α)} {olds : List (Value × TypeId × List Value)} (L : Kp en e w lo T ws os fr rs olds) : Kp en e (w'.setCell ⟨K, o, none⟩ v') lo (up T w1.heap.size (2 + j)) ws os fr rs olds :=
  L.frm G.frm (fun t ht => by have := G.lt; omega) fun b hb => up_old (by have := G.le; omega)

/-- What was made on the way is still there. -/
theorem Got.copy {w : World} {lo K : Nat} {T : Nat → Nat} {hs : List Value} {X : List (List Value)} {z : Nat → Value} {j o n : Nat} {u : Value} {w5 : World} {ob : Obj} {v' : Value} {w' : World} (G : Got w lo K T hs X z j o n u (w5.alloc ob) v' w')
    (hT : ∀ b, w.heap.size ≤ b → T b = 10) (hlo : lo ≤ w.heap.size) (hK : K < w.heap.size) {e s m : Nat} {nv : Value} {xs : List Value} (h : w5.ownsRow w.heap.size e s nv m xs) :
    (w'.setCell ⟨K, o, none⟩ v').ownsRow lo e s nv m xs ∧ Tg (w'.setCell ⟨K, o, none⟩ v') (up T (w5.alloc ob).heap.size (2 + j)) nv 10 := by
  have hs1 : (w5.alloc ob).heap.size = w5.heap.size + 1 := by simp
  have hlt := h.lt
  have hbk : ∀ b, nv.ownBlock = some b → (w'.setCell ⟨K, o, none⟩ v').heap[b]? = w5.heap[b]? := fun b hb => by
    have := hlt b hb
    exact (setB (by omega)).trans ((G.new b this.1 (by omega)).trans (Below.heap_alloc w5 ob b this.2))
  have hsz : w5.heap.size + 1 ≤ (w'.setCell ⟨K, o, none⟩ v').heap.size := by
    rcases Nat.lt_or_ge w5.heap.size (w'.setCell ⟨K, o, none⟩ v').heap.size with h | h
    · exact h
    · exfalso
      have e1 : w'.heap.size ≤ w5.heap.size := by rw [sizeS] at h; exact h
      have e2 := G.new w5.heap.size (by have := G.le; have := G.frm.size; rw [sizeS] at this; omega) (by omega)
      rw [Array.getElem?_eq_none e1] at e2
      have e3 : (w5.alloc ob).heap[w5.heap.size]? = some ob := heap_alloc_new w5 ob
      rw [e3] at e2
      cases e2
  refine ⟨?_, fun b hb => ⟨by have := hlt b hb; omega, ?_⟩⟩
  · obtain ⟨h1, h2 | ⟨g, cap, cur, hv, hg, hr⟩⟩ := rowB h hbk
    · exact ⟨h1, .inl h2⟩
    · exact ⟨h1, .inr ⟨g, cap, cur, hv, by omega, hr⟩⟩
  · have := hlt b hb
    rw [up_old (by omega)]
    exact hT b this.1

theorem append_rowL {w w1 : World} {lo K : Nat} {T : Nat → Nat} {hs : List Value} {X : List (List Value)} {z : Nat → Value} {ops : Array Oper} {rest : List Oper} {o : Oper} {a : Act} {Q : Exit → Act → World → Prop} (hgd : o.guard = none) (s x : Operand)
    (ho : o.op = .call { callee := .builtin .append, args := #[s, x], argTypes := #[29, 29] }) (R : Bk.Rows 40 tyB w lo K T hs X z) (j off n : Nat) (hj : j < 5) (hoff : off = 40 + j) (hn : (X.getD j []).length = n) (hl : n ≤ 1000000)
    (hb : Below w.heap.size w w1) (u : Value) (hu : u.oneCell' = true) (hs' : a.eval s = hs.getD j nil0) (ad : Addr) (hx : a.eval x = .slice (some ad) 1 1) (hnew : w1.cell? ad = some u)
    (h : ∀ p c w', Got w lo K T hs X z j off n u w1 (.slice p (n + 1) c) w' → wpList Tryz.prog ops Q rest (a.put o.dst (.slice p (n + 1) c)) w') : wpList Tryz.prog ops Q (o :: rest) a w1 := by
  obtain ⟨i2, hi2, hy0, hy1, hy2⟩ := info_parts Tryz.info22
  have s1 := hb.size
  have hr := R.row j (by omega)
  have e : tyB j = 22 := by unfold tyB; rw [if_pos hj]
  rw [hn, e] at hr
  have hr1 : w1.ownsRow lo 22 1 (hs.getD j nil0) n (X.getD j []) := rowB hr fun k hk => hb.block k (hr.lt k hk).2
  refine wpList_append_own_at w1 hgd s x 29 ho lo 22 i2 (.slice none 0 0) 1 24 Tryz.underlying29 hi2 hy0 hy1 hy2 rfl (by decide) _ n _ hs' hr1 ad 1 1 [u] hx rfl ?_ ?_ ?_ ?_ ?_ ?_
  · intro i y hi
    match i, hi with
    | 0, hi => simp at hi; subst hi; simpa [Addr.add] using hnew
  · intro y hy; simp at hy; subst hy; exact hu
  · unfold maxLen; omega
  · omega
  · have := R.ge; have := R.lt; omega
  · intro v' w' h1 h2 _ h4
    obtain ⟨p, c, rfl⟩ := row_form h1
    exact h p c w' (got R (by omega) hoff hn hb (by rw [e]; exact h1) h2 h4)

theorem append_rowI {w w1 : World} {lo K : Nat} {T : Nat → Nat} {hs : List Value} {X : List (List Value)} {z : Nat → Value} {ops : Array Oper} {rest : List Oper} {o : Oper} {a : Act} {Q : Exit → Act → World → Prop} (hgd : o.guard = none) (s x : Operand)
    (ho : o.op = .call { callee := .builtin .append, args := #[s, x], argTypes := #[26, 26] }) (R : Bk.Rows 40 tyB w lo K T hs X z) (j off n : Nat) (hj : 5 ≤ j) (hj8 : j < 8) (hoff : off = 40 + j) (hn : (X.getD j []).length = n) (hl : n ≤ 1000000)
    (hb : Below w.heap.size w w1) (u : Value) (hu : u.oneCell' = true) (hs' : a.eval s = hs.getD j nil0) (ad : Addr) (hx : a.eval x = .slice (some ad) 1 1) (hnew : w1.cell? ad = some u)
    (h : ∀ p c w', Got w lo K T hs X z j off n u w1 (.slice p (n + 1) c) w' → wpList Tryz.prog ops Q rest (a.put o.dst (.slice p (n + 1) c)) w') : wpList Tryz.prog ops Q (o :: rest) a w1 := by
  obtain ⟨i2, hi2, hy0, hy1, hy2⟩ := info_parts Tryz.info3
  have s1 := hb.size
  have hr := R.row j (by omega)
  have e : tyB j = 3 := by unfold tyB; rw [if_neg (by omega)]
  rw [hn, e] at hr
  have hr1 : w1.ownsRow lo 3 1 (hs.getD j nil0) n (X.getD j []) := rowB hr fun k hk => hb.block k (hr.lt k hk).2
  refine wpList_append_own_at w1 hgd s x 26 ho lo 3 i2 (.int .i64 0) 1 8 Tryz.underlying26 hi2 hy0 hy1 hy2 rfl (by decide) _ n _ hs' hr1 ad 1 1 [u] hx rfl ?_ ?_ ?_ ?_ ?_ ?_
  · intro i y hi
    match i, hi with
    | 0, hi => simp at hi; subst hi; simpa [Addr.add] using hnew
  · intro y hy; simp at hy; subst hy; exact hu
  · unfold maxLen; omega
  · omega
  · have := R.ge; have := R.lt; omega
  · intro v' w' h1 h2 _ h4
    obtain ⟨p, c, rfl⟩ := row_form h1
    exact h p c w' (got R (by omega) hoff hn hb (by rw [e]; exact h1) h2 h4)

theorem step_rowL {w w1 : World} {lo K : Nat} {T : Nat → Nat} {hs : List Value} {X : List (List Value)} {z : Nat → Value} {ops : Array Oper} {o : Oper} {a : Act} {J : Act → World → Prop} {Q : Exit → Act → World → Prop} {E : Prop} (hgd : o.guard = none) (s x : Operand)
    (ho : o.op = .call { callee := .builtin .append, args := #[s, x], argTypes := #[29, 29] }) (R : Bk.Rows 40 tyB w lo K T hs X z) (j off n : Nat) (hj : j < 5) (hoff : off = 40 + j) (hn : (X.getD j []).length = n) (hl : n ≤ 1000000)
    (hb : Below w.heap.size w w1) (u : Value) (hu : u.oneCell' = true) (hs' : a.eval s = hs.getD j nil0) (ad : Addr) (hx : a.eval x = .slice (some ad) 1 1) (hnew : w1.cell? ad = some u)
    (h : ∀ p c w', Got w lo K T hs X z j off n u w1 (.slice p (n + 1) c) w' → J (a.put o.dst (.slice p (n + 1) c)) w') :
    if Region.wanted o (yielded ops a.tmps) = true then Oper.wp Tryz.prog o a w1 J Q else E := by
  have hw : Region.wanted o (yielded ops a.tmps) = true := by simp [Region.wanted, hgd]
  rw [if_pos hw]
  obtain ⟨i2, hi2, hy0, hy1, hy2⟩ := info_parts Tryz.info22
  have s1 := hb.size
  have hr := R.row j (by omega)
  have e : tyB j = 22 := by unfold tyB; rw [if_pos hj]
  rw [hn, e] at hr
  have hr1 : w1.ownsRow lo 22 1 (hs.getD j nil0) n (X.getD j []) := rowB hr fun k hk => hb.block k (hr.lt k hk).2
  obtain ⟨v', w', hrun, h1, h2, _, h4⟩ := run_append_own_at (P := Tryz.prog) w1 lo 29 o.type 22 i2 (.slice none 0 0) 1 24 Tryz.underlying29 hi2 hy0 hy1 hy2 rfl (by decide) _ n _ hr1 ad 1 1 [u] rfl
    (by intro i y hi
        match i, hi with
        | 0, hi => simp at hi; subst hi; simpa [Addr.add] using hnew)
    (by intro y hy; simp at hy; subst hy; exact hu) (by unfold maxLen; omega) (by omega) (by have := R.ge; have := R.lt; omega)
  unfold Oper.wp execOp
  simp only [ho, resolve, invoke, builtin, Sem.run_bind, Sem.run_pure, Result.andThen_ok, List.map_toArray, List.map_cons, List.map_nil, hs', hx, hrun]
  obtain ⟨p, c, rfl⟩ := row_form h1
  exact h p c w' (got R (by omega) hoff hn hb (by rw [e]; exact h1) h2 h4)

theorem step_rowI {w w1 : World} {lo K : Nat} {T : Nat → Nat} {hs : List Value} {X : List (List Value)} {z : Nat → Value} {ops : Array Oper} {o : Oper} {a : Act} {J : Act → World → Prop} {Q : Exit → Act → World → Prop} {E : Prop} (hgd : o.guard = none) (s x : Operand)
    (ho : o.op = .call { callee := .builtin .append, args := #[s, x], argTypes := #[26, 26] }) (R : Bk.Rows 40 tyB w lo K T hs X z) (j off n : Nat) (hj : 5 ≤ j) (hj8 : j < 8) (hoff : off = 40 + j) (hn : (X.getD j []).length = n) (hl : n ≤ 1000000)
    (hb : Below w.heap.size w w1) (u : Value) (hu : u.oneCell' = true) (hs' : a.eval s = hs.getD j nil0) (ad : Addr) (hx : a.eval x = .slice (some ad) 1 1) (hnew : w1.cell? ad = some u)
    (h : ∀ p c w', Got w lo K T hs X z j off n u w1 (.slice p (n + 1) c) w' → J (a.put o.dst (.slice p (n + 1) c)) w') :
    if Region.wanted o (yielded ops a.tmps) = true then Oper.wp Tryz.prog o a w1 J Q else E := by
  have hw : Region.wanted o (yielded ops a.tmps) = true := by simp [Region.wanted, hgd]
  rw [if_pos hw]
  obtain ⟨i2, hi2, hy0, hy1, hy2⟩ := info_parts Tryz.info3
  have s1 := hb.size
  have hr := R.row j (by omega)
  have e : tyB j = 3 := by unfold tyB; rw [if_neg (by omega)]
  rw [hn, e] at hr
  have hr1 : w1.ownsRow lo 3 1 (hs.getD j nil0) n (X.getD j []) := rowB hr fun k hk => hb.block k (hr.lt k hk).2
  obtain ⟨v', w', hrun, h1, h2, _, h4⟩ := run_append_own_at (P := Tryz.prog) w1 lo 26 o.type 3 i2 (.int .i64 0) 1 8 Tryz.underlying26 hi2 hy0 hy1 hy2 rfl (by decide) _ n _ hr1 ad 1 1 [u] rfl
    (by intro i y hi
        match i, hi with
        | 0, hi => simp at hi; subst hi; simpa [Addr.add] using hnew)
    (by intro y hy; simp at hy; subst hy; exact hu) (by unfold maxLen; omega) (by omega) (by have := R.ge; have := R.lt; omega)
  unfold Oper.wp execOp
  simp only [ho, resolve, invoke, builtin, Sem.run_bind, Sem.run_pure, Result.andThen_ok, List.map_toArray, List.map_cons, List.map_nil, hs', hx, hrun]
  obtain ⟨p, c, rfl⟩ := row_form h1
  exact h p c w' (got R (by omega) hoff hn hb (by rw [e]; exact h1) h2 h4)

/-- 'append([]api.Rule{}, l...)' at a step: a copy, in new blocks. -/
theorem step_copyB {w : World} {ops : Array Oper} {o : Oper} {a : Act} {J : Act → World → Prop} {Q : Exit → Act → World → Prop} {E : Prop} (hgd : o.guard = none) (s x : Operand)
    (ho : o.op = .call { callee := .builtin .append, args := #[s, x], argTypes := #[22, 22] })
    (lo : Nat) (v vx : Value) (l : List Ru) (hs : a.eval s = v) (hx : a.eval x = vx) (hown : OwnsR w lo v []) (hhas : HasQ w vx l) (hlen : l.length ≤ 1048576) (hbase : lo ≤ w.heap.size)
    (h : ∀ p c w', OwnsR w' lo (.slice p l.length c) l → Below lo w w' → J (a.put o.dst (.slice p l.length c)) w') :
    if Region.wanted o (yielded ops a.tmps) = true then Oper.wp Tryz.prog o a w J Q else E := by
  refine step_append_rules hgd s x ho lo v vx [] l hs hx hown hhas (by simpa using hlen) hbase (fun v' w' h1 h2 => ?_)
  have h1' : OwnsR w' lo v' l := h1
  obtain ⟨p, c, rfl⟩ := row_form h1'
  exact h p c w' h1' h2
end Go.Proofs.YthioflehpifflaaGreatDoor
