import Derived.Test.YtbjjbgaomoihaaaGreatDoorBStep
import Derived.Test.YtbjjbgaomoihaaaGreatDoorBBkKeep
set_option maxRecDepth 100000
set_option maxHeartbeats 1600000
namespace Go.Proofs.YtbjjbgaomoihaaaGreatDoor.Bk
open Go.RowKit Bk
def tyB (j : Nat) : TypeId := if j < 5 then 56 else 3
def zB (turn deep seen : Nat) : Nat → Value := fun i =>
  if i < 2 then .bool false else if i = 2 then .int .i64 turn else if i = 3 then .int .i64 deep else if i = 30 then .int .i64 seen else idle i
theorem Bk.Rows.zext {B : Nat} {ty : Nat → TypeId} {w : World} {lo K : Nat} {T : Nat → Nat} {hs : List Value} {X : List (List Value)} {z z' : Nat → Value} (R : Bk.Rows B ty w lo K T hs X z) (h : ∀ o, o < 148 → (o < B ∨ B + 8 ≤ o) → z o = z' o) : Bk.Rows B ty w lo K T hs X z' :=
  ⟨R.ge, R.lt, R.low, R.tK, R.fz, R.nh, R.nX, R.cell, R.row, R.tag, fun o h1 h2 => by rw [← h o h1 h2]; exact R.rest o h1 h2⟩
structure Got (w : World) (lo K : Nat) (T : Nat → Nat) (hs : List Value) (X : List (List Value)) (z : Nat → Value) (j o n : Nat) (u : Value) (w1 : World) (v' : Value) (w' : World) : Prop where
  rows : Bk.Rows 22 tyB (w'.setCell ⟨K, o, none⟩ v') lo K (up T w1.heap.size (2 + j)) (hs.set j v') (X.set j (X.getD j [] ++ [u])) z
  frm : Frm T (fun t => t = 1 ∨ t = 2 + j) w (w'.setCell ⟨K, o, none⟩ v')
  cell : w'.cell? ⟨K, o, none⟩ = some (hs.getD j nil0)
  fz : w'.frozen? ⟨K, o, none⟩ = false
  new : ∀ b, w.heap.size ≤ b → b < w1.heap.size → w'.heap[b]? = w1.heap[b]?
  le : w.heap.size ≤ w1.heap.size
  lt : j < 8
theorem got {w : World} {lo K : Nat} {T : Nat → Nat} {hs : List Value} {X : List (List Value)} {z : Nat → Value} (R : Bk.Rows 22 tyB w lo K T hs X z) {j o n : Nat} (hj : j < 8) (ho : o = 22 + j) (hn : (X.getD j []).length = n) {w1 w' : World} {v' : Value} {u : Value} (hb : Below w.heap.size w w1)
    (h : w'.ownsRow lo (tyB j) 1 v' (n + 1) (X.getD j [] ++ [u])) (hg : w1.grownBy w' (hs.getD j nil0).ownBlock) (hat : v'.ownBlock = (hs.getD j nil0).ownBlock ∨ v'.ownBlock = some w1.heap.size) : Got w lo K T hs X z j o n u w1 v' w' := by
  subst ho
  have h' : w'.ownsRow lo (tyB j) 1 v' (X.getD j [] ++ [u]).length (X.getD j [] ++ [u]) := by
    rw [List.length_append, hn]; exact h
  obtain ⟨r, f⟩ := R.grow hj hb h' hg hat
  have hKj : (hs.getD j nil0).ownBlock ≠ some K := fun e => by have h1 := R.tag j hj K e; have h2 := R.tK; omega
  have s1 := hb.size
  have hKlt := R.lt
  have hK2 : w'.heap[K]? = w.heap[K]? := (hg.block K (by omega) (fun e => hKj e.symm)).trans (hb.block K hKlt)
  refine ⟨r, f, cellB hK2 (R.cell j hj), frozenB hK2 R.fz _, fun b h1 h2 => hg.block b h2 (fun e => ?_), s1, hj⟩
  have := ((R.row j hj).lt b e.symm).2
  omega
theorem Got.kp {w : World} {lo K : Nat} {T : Nat → Nat} {hs : List Value} {X : List (List Value)} {z : Nat → Value} {j o n : Nat} {u : Value} {w1 : World} {v' : Value} {w' : World} (G : Got w lo K T hs X z j o n u w1 v' w')
    {α : Type} {en : α → Value} {e : TypeId} {ws : List (Lst α)} {os : List (Bk.Ot α)} {fr rs : List (Lst α)} {olds : List (Value × TypeId × List Value)} (L : Kp en e w lo T ws os fr rs olds) : Kp en e (w'.setCell ⟨K, o, none⟩ v') lo (up T w1.heap.size (2 + j)) ws os fr rs olds :=
  L.frm G.frm (fun t ht => by have := G.lt; omega) fun b hb => up_old (by have := G.le; omega)
theorem Got.copy {w : World} {lo K : Nat} {T : Nat → Nat} {hs : List Value} {X : List (List Value)} {z : Nat → Value} {j o n : Nat} {u : Value} {w5 : World} {ob : Obj} {v' : Value} {w' : World} (G : Got w lo K T hs X z j o n u (w5.alloc ob) v' w')
    (hT : ∀ b, w.heap.size ≤ b → T b = 10) (hlo : lo ≤ w.heap.size) (hK : K < w.heap.size) {e m : Nat} {nv : Value} {xs : List Value} (h : w5.ownsRow w.heap.size e 1 nv m xs) :
    (w'.setCell ⟨K, o, none⟩ v').ownsRow lo e 1 nv m xs ∧ Tg (w'.setCell ⟨K, o, none⟩ v') (up T (w5.alloc ob).heap.size (2 + j)) nv 10 := by
  have hs1 : (w5.alloc ob).heap.size = w5.heap.size + 1 := by simp
  have hlt := h.lt
  have hbk : ∀ b, nv.ownBlock = some b → (w'.setCell ⟨K, o, none⟩ v').heap[b]? = w5.heap[b]? := fun b hb => by
    have := hlt b hb
    exact (setB (by omega)).trans ((G.new b this.1 (by omega)).trans (Below.heap_alloc w5 ob b this.2))
  have hsz : w5.heap.size + 1 ≤ (w'.setCell ⟨K, o, none⟩ v').heap.size := by
    rcases Nat.lt_or_ge w5.heap.size (w'.setCell ⟨K, o, none⟩ v').heap.size with h | h
    · exact h
    · exfalso
      have e1 : w'.heap.size ≤ w5.heap.size := by rw [sizeS] at h; exact h
      have e2 := G.new w5.heap.size (by have := G.le; have := G.frm.size; rw [sizeS] at this; omega) (by omega)
      rw [Array.getElem?_eq_none e1] at e2
      have e3 : (w5.alloc ob).heap[w5.heap.size]? = some ob := heap_alloc_new w5 ob
      rw [e3] at e2
      cases e2
  refine ⟨?_, fun b hb => ⟨by have := hlt b hb; omega, ?_⟩⟩
  · obtain ⟨h1, h2 | ⟨g, cap, cur, hv, hg, hr⟩⟩ := rowB h hbk
    · exact ⟨h1, .inl h2⟩
    · exact ⟨h1, .inr ⟨g, cap, cur, hv, by omega, hr⟩⟩
  · have := hlt b hb
    rw [up_old (by omega)]
    exact hT b this.1
theorem append_rowL {w w1 : World} {lo K : Nat} {T : Nat → Nat} {hs : List Value} {X : List (List Value)} {z : Nat → Value} {ops : Array Oper} {rest : List Oper} {o : Oper} {a : Act} {Q : Exit → Act → World → Prop} (hgd : o.guard = none) (s x : Operand)
    (ho : o.op = .call { callee := .builtin .append, args := #[s, x], argTypes := #[40, 40] }) (R : Bk.Rows 22 tyB w lo K T hs X z) (j off n : Nat) (hj : j < 5) (hoff : off = 22 + j) (hn : (X.getD j []).length = n) (hl : n ≤ 1000000)
    (hb : Below w.heap.size w w1) (u : Value) (hu : u.oneCell' = true) (hs' : a.eval s = hs.getD j nil0) (ad : Addr) (hx : a.eval x = .slice (some ad) 1 1) (hnew : w1.cell? ad = some u)
    (h : ∀ p c w', Got w lo K T hs X z j off n u w1 (.slice p (n + 1) c) w' → wpList Tryz.prog ops Q rest (a.put o.dst (.slice p (n + 1) c)) w') : wpList Tryz.prog ops Q (o :: rest) a w1 := by
  obtain ⟨i2, hi2, hy0, hy1, hy2⟩ := info_parts Tryz.info56
  have s1 := hb.size
  have hr := R.row j (by omega)
  have e : tyB j = 56 := by unfold tyB; rw [if_pos hj]
  rw [hn, e] at hr
  have hr1 : w1.ownsRow lo 56 1 (hs.getD j nil0) n (X.getD j []) := rowB hr fun k hk => hb.block k (hr.lt k hk).2
  refine wpList_append_own_at w1 hgd s x 40 ho lo 56 i2 (.slice none 0 0) 1 24 Tryz.underlying40 hi2 hy0 hy1 hy2 rfl (by decide) _ n _ hs' hr1 ad 1 1 [u] hx rfl ?_ ?_ ?_ ?_ ?_ ?_
  · intro i y hi
    match i, hi with
    | 0, hi => simp at hi; subst hi; simpa [Addr.add] using hnew
  · intro y hy; simp at hy; subst hy; exact hu
  · unfold maxLen; omega
  · omega
  · have := R.ge; have := R.lt; omega
  · intro v' w' h1 h2 _ h4
    obtain ⟨p, c, rfl⟩ := row_form h1
    exact h p c w' (got R (by omega) hoff hn hb (by rw [e]; exact h1) h2 h4)
theorem append_rowI {w w1 : World} {lo K : Nat} {T : Nat → Nat} {hs : List Value} {X : List (List Value)} {z : Nat → Value} {ops : Array Oper} {rest : List Oper} {o : Oper} {a : Act} {Q : Exit → Act → World → Prop} (hgd : o.guard = none) (s x : Operand)
    (ho : o.op = .call { callee := .builtin .append, args := #[s, x], argTypes := #[38, 38] }) (R : Bk.Rows 22 tyB w lo K T hs X z) (j off n : Nat) (hj : 5 ≤ j) (hj8 : j < 8) (hoff : off = 22 + j) (hn : (X.getD j []).length = n) (hl : n ≤ 1000000)
    (hb : Below w.heap.size w w1) (u : Value) (hu : u.oneCell' = true) (hs' : a.eval s = hs.getD j nil0) (ad : Addr) (hx : a.eval x = .slice (some ad) 1 1) (hnew : w1.cell? ad = some u)
    (h : ∀ p c w', Got w lo K T hs X z j off n u w1 (.slice p (n + 1) c) w' → wpList Tryz.prog ops Q rest (a.put o.dst (.slice p (n + 1) c)) w') : wpList Tryz.prog ops Q (o :: rest) a w1 := by
  obtain ⟨i2, hi2, hy0, hy1, hy2⟩ := info_parts Tryz.info3
  have s1 := hb.size
  have hr := R.row j (by omega)
  have e : tyB j = 3 := by unfold tyB; rw [if_neg (by omega)]
  rw [hn, e] at hr
  have hr1 : w1.ownsRow lo 3 1 (hs.getD j nil0) n (X.getD j []) := rowB hr fun k hk => hb.block k (hr.lt k hk).2
  refine wpList_append_own_at w1 hgd s x 38 ho lo 3 i2 (.int .i64 0) 1 8 Tryz.underlying38 hi2 hy0 hy1 hy2 rfl (by decide) _ n _ hs' hr1 ad 1 1 [u] hx rfl ?_ ?_ ?_ ?_ ?_ ?_
  · intro i y hi
    match i, hi with
    | 0, hi => simp at hi; subst hi; simpa [Addr.add] using hnew
  · intro y hy; simp at hy; subst hy; exact hu
  · unfold maxLen; omega
  · omega
  · have := R.ge; have := R.lt; omega
  · intro v' w' h1 h2 _ h4
    obtain ⟨p, c, rfl⟩ := row_form h1
    exact h p c w' (got R (by omega) hoff hn hb (by rw [e]; exact h1) h2 h4)
theorem step_rowL {w w1 : World} {lo K : Nat} {T : Nat → Nat} {hs : List Value} {X : List (List Value)} {z : Nat → Value} {ops : Array Oper} {o : Oper} {a : Act} {J : Act → World → Prop} {Q : Exit → Act → World → Prop} {E : Prop} (hgd : o.guard = none) (s x : Operand)
    (ho : o.op = .call { callee := .builtin .append, args := #[s, x], argTypes := #[40, 40] }) (R : Bk.Rows 22 tyB w lo K T hs X z) (j off n : Nat) (hj : j < 5) (hoff : off = 22 + j) (hn : (X.getD j []).length = n) (hl : n ≤ 1000000)
    (hb : Below w.heap.size w w1) (u : Value) (hu : u.oneCell' = true) (hs' : a.eval s = hs.getD j nil0) (ad : Addr) (hx : a.eval x = .slice (some ad) 1 1) (hnew : w1.cell? ad = some u)
    (h : ∀ p c w', Got w lo K T hs X z j off n u w1 (.slice p (n + 1) c) w' → J (a.put o.dst (.slice p (n + 1) c)) w') :
    if Region.wanted o (yielded ops a.tmps) = true then Oper.wp Tryz.prog o a w1 J Q else E := by
  have hw : Region.wanted o (yielded ops a.tmps) = true := by simp [Region.wanted, hgd]
  rw [if_pos hw]
  obtain ⟨i2, hi2, hy0, hy1, hy2⟩ := info_parts Tryz.info56
  have s1 := hb.size
  have hr := R.row j (by omega)
  have e : tyB j = 56 := by unfold tyB; rw [if_pos hj]
  rw [hn, e] at hr
  have hr1 : w1.ownsRow lo 56 1 (hs.getD j nil0) n (X.getD j []) := rowB hr fun k hk => hb.block k (hr.lt k hk).2
  obtain ⟨v', w', hrun, h1, h2, _, h4⟩ := run_append_own_at (P := Tryz.prog) w1 lo 40 o.type 56 i2 (.slice none 0 0) 1 24 Tryz.underlying40 hi2 hy0 hy1 hy2 rfl (by decide) _ n _ hr1 ad 1 1 [u] rfl
    (by intro i y hi
        match i, hi with
        | 0, hi => simp at hi; subst hi; simpa [Addr.add] using hnew)
    (by intro y hy; simp at hy; subst hy; exact hu) (by unfold maxLen; omega) (by omega) (by have := R.ge; have := R.lt; omega)
  unfold Oper.wp execOp
  simp only [ho, resolve, invoke, builtin, Sem.run_bind, Sem.run_pure, Result.andThen_ok, List.map_toArray, List.map_cons, List.map_nil, hs', hx, hrun]
  obtain ⟨p, c, rfl⟩ := row_form h1
  exact h p c w' (got R (by omega) hoff hn hb (by rw [e]; exact h1) h2 h4)
theorem step_rowI {w w1 : World} {lo K : Nat} {T : Nat → Nat} {hs : List Value} {X : List (List Value)} {z : Nat → Value} {ops : Array Oper} {o : Oper} {a : Act} {J : Act → World → Prop} {Q : Exit → Act → World → Prop} {E : Prop} (hgd : o.guard = none) (s x : Operand)
    (ho : o.op = .call { callee := .builtin .append, args := #[s, x], argTypes := #[38, 38] }) (R : Bk.Rows 22 tyB w lo K T hs X z) (j off n : Nat) (hj : 5 ≤ j) (hj8 : j < 8) (hoff : off = 22 + j) (hn : (X.getD j []).length = n) (hl : n ≤ 1000000)
    (hb : Below w.heap.size w w1) (u : Value) (hu : u.oneCell' = true) (hs' : a.eval s = hs.getD j nil0) (ad : Addr) (hx : a.eval x = .slice (some ad) 1 1) (hnew : w1.cell? ad = some u)
    (h : ∀ p c w', Got w lo K T hs X z j off n u w1 (.slice p (n + 1) c) w' → J (a.put o.dst (.slice p (n + 1) c)) w') :
    if Region.wanted o (yielded ops a.tmps) = true then Oper.wp Tryz.prog o a w1 J Q else E := by
  have hw : Region.wanted o (yielded ops a.tmps) = true := by simp [Region.wanted, hgd]
  rw [if_pos hw]
  obtain ⟨i2, hi2, hy0, hy1, hy2⟩ := info_parts Tryz.info3
  have s1 := hb.size
  have hr := R.row j (by omega)
  have e : tyB j = 3 := by unfold tyB; rw [if_neg (by omega)]
  rw [hn, e] at hr
  have hr1 : w1.ownsRow lo 3 1 (hs.getD j nil0) n (X.getD j []) := rowB hr fun k hk => hb.block k (hr.lt k hk).2
  obtain ⟨v', w', hrun, h1, h2, _, h4⟩ := run_append_own_at (P := Tryz.prog) w1 lo 38 o.type 3 i2 (.int .i64 0) 1 8 Tryz.underlying38 hi2 hy0 hy1 hy2 rfl (by decide) _ n _ hr1 ad 1 1 [u] rfl
    (by intro i y hi
        match i, hi with
        | 0, hi => simp at hi; subst hi; simpa [Addr.add] using hnew)
    (by intro y hy; simp at hy; subst hy; exact hu) (by unfold maxLen; omega) (by omega) (by have := R.ge; have := R.lt; omega)
  unfold Oper.wp execOp
  simp only [ho, resolve, invoke, builtin, Sem.run_bind, Sem.run_pure, Result.andThen_ok, List.map_toArray, List.map_cons, List.map_nil, hs', hx, hrun]
  obtain ⟨p, c, rfl⟩ := row_form h1
  exact h p c w' (got R (by omega) hoff hn hb (by rw [e]; exact h1) h2 h4)
theorem step_copyB {w : World} {ops : Array Oper} {o : Oper} {a : Act} {J : Act → World → Prop} {Q : Exit → Act → World → Prop} {E : Prop} (hgd : o.guard = none) (s x : Operand)
    (ho : o.op = .call { callee := .builtin .append, args := #[s, x], argTypes := #[56, 56] })
    (lo : Nat) (v vx : Value) (l : List ByteArray) (hs : a.eval s = v) (hx : a.eval x = vx) (hown : OwnsT w lo v []) (hhas : HasT w vx l) (hlen : l.length ≤ 1048576) (hbase : lo ≤ w.heap.size)
    (h : ∀ p c w', OwnsT w' lo (.slice p l.length c) l → Below lo w w' → J (a.put o.dst (.slice p l.length c)) w') :
    if Region.wanted o (yielded ops a.tmps) = true then Oper.wp Tryz.prog o a w J Q else E := by
  refine step_append_texts hgd s x ho lo v vx [] l hs hx hown hhas (by simpa using hlen) hbase (fun v' w' h1 h2 => ?_)
  have h1' : OwnsT w' lo v' l := h1
  obtain ⟨p, c, rfl⟩ := row_form h1'
  exact h p c w' h1' h2
def XB (ws : List (Lst ByteArray)) (os : List (Bk.Ot ByteArray)) (fr : List (Lst ByteArray)) : List (List Value) :=
  [os.map (·.v), os.map (·.tv), ws.map (·.v), ws.map (·.nv), fr.map (·.v), ws.map (fun x => .int .i64 x.mark), ws.map (fun x => .int .i64 x.due), fr.map (fun x => .int .i64 x.mark)]
structure BookSt (w : World) (lo K : Nat) (T : Nat → Nat) (hs : List Value) (ws : List (Lst ByteArray)) (os : List (Bk.Ot ByteArray)) (turn deep seen : Nat) : Prop where
  rows : Bk.Rows 22 tyB w lo K T hs (XB ws os []) (zB turn deep seen)
  kp : Kp Value.string 9 w lo T ws os [] [] []
  ids : ∀ x ∈ ws, x.id < seen
  tags : ∀ o ∈ os, o.tag < 11 + seen
  nw : ws.length ≤ seen
  no : os.length + 2 * ws.length ≤ 2 * seen
theorem OwnsT.form {w : World} {lo : Nat} {v : Value} {l : List ByteArray} (h : OwnsT w lo v l) : ∃ p c, v = .slice p l.length c := row_form h
theorem bookTexts_by (w : World) (lo K : Nat) (T : Nat → Nat) (hs : List Value) (ws : List (Lst ByteArray)) (os : List (Bk.Ot ByteArray)) (turn seen : Nat) (v : Value) (c : List ByteArray) (mark : Nat) (Q : World → Prop)
    (bk : BookSt w lo K T hs ws os turn 0 seen) (hv : OwnsT w lo v c) (hf : ∀ b, v.ownBlock = some b → T b = 0) (hc : c.length ≤ 1000000) (hm : mark ≤ 100000000) (hturn : turn ≤ 300000) (hseen : seen ≤ 300000)
    (hD : ∀ (w1 : World) (T1 : Nat → Nat) (hs1 : List Value) (ws1 : List (Lst ByteArray)), BookSt w1 lo K T1 hs1 ws1 os turn 1 (seen + 1) → Frm (adopt T v 10) (fun t => t ≠ 0) w w1 → (∀ b, b < w.heap.size → v.ownBlock ≠ some b → T1 b = T b) →
      Calls Tryz.prog 39 #[.pointer (some ⟨K, 0, none⟩)] w1 fun e w' => e = .returned (.tuple #[]) ∧ Q w') :
    Calls Tryz.prog 22 #[.pointer (some ⟨K, 0, none⟩), v, .int .i64 mark] w fun e w' => e = .returned (.tuple #[]) ∧ Q w' := by
  obtain ⟨hO, hT, hW, hN, hF, hM, hDu, hR, rfl⟩ : ∃ a b c d e f g h, hs = [a, b, c, d, e, f, g, h] := by
    have := bk.rows.nh
    match hs, this with
    | [a, b, c, d, e, f, g, h], _ => exact ⟨a, b, c, d, e, f, g, h, rfl⟩
  obtain ⟨pv, cv, rfl⟩ := OwnsT.form hv
  have HD : Hid (∀ (w1 : World) (T1 : Nat → Nat) (hs1 : List Value) (ws1 : List (Lst ByteArray)), BookSt w1 lo K T1 hs1 ws1 os turn 1 (seen + 1) → Frm (adopt T (.slice pv c.length cv) 10) (fun t => t ≠ 0) w w1 → (∀ b, b < w.heap.size → (Value.slice pv c.length cv).ownBlock ≠ some b → T1 b = T b) →
      Calls Tryz.prog 39 #[.pointer (some ⟨K, 0, none⟩)] w1 fun e w' => e = .returned (.tuple #[]) ∧ Q w') := hD
  clear hD
  have HB : Hid (BookSt w lo K T [hO, hT, hW, hN, hF, hM, hDu, hR] ws os turn 0 seen) := bk
  have HV : Hid (OwnsT w lo (.slice pv c.length cv) c) := hv
  have HF : Hid (∀ b, (Value.slice pv c.length cv).ownBlock = some b → T b = 0) := hf
  have c3 : w.cell? ⟨K, 3, none⟩ = some (.int .i64 0) := bk.rows.rest 3 (by decide) (by decide)
  have fK : ∀ o, w.frozen? ⟨K, o, none⟩ = false := bk.rows.fz
  clear bk hv hf
  obtain ⟨w1, e1⟩ : ∃ w1, w.setCell ⟨K, 3, none⟩ (.int .i64 1) = w1 := ⟨_, rfl⟩
  let x : Lst ByteArray := ⟨.slice pv c.length cv, c, nil0, mark, 0, seen⟩
  have LA : Kp Value.string 9 w lo (adopt T (.slice pv c.length cv) (11 + seen)) ws os [x] [] [] :=
    HB.out.kp.adopt (x := x) (by have := HV.out; unfold OwnsT at this; exact this) HF.out hc hm (fun y hy => by have := HB.out.ids y hy; show y.id ≠ seen; omega) (fun y hy => by have := HB.out.tags y hy; show y.tag ≠ 11 + seen; omega)
  have RA : Bk.Rows 22 tyB w lo K (adopt T (.slice pv c.length cv) (11 + seen)) [hO, hT, hW, hN, hF, hM, hDu, hR] (XB ws os []) (zB turn 0 seen) := by
    have r := HB.out.rows
    have ne : ∀ b, T b ≠ 0 → (Value.slice pv c.length cv).ownBlock ≠ some b := fun b hb e => hb (HF.out b e)
    exact r.retag (by rw [adopt_other (ne K (by rw [r.tK]; omega))]; exact r.tK) (fun b hb => by
      by_cases e : (Value.slice pv c.length cv).ownBlock = some b
      · have := (World.ownsRow.lt HV.out b e).1; omega
      · rw [adopt_other e]; exact r.low b hb) (fun j hj b _ he => by
      have := r.tag j hj b he
      rw [adopt_other (ne b (by omega))]; exact this)
  obtain ⟨R1, L1, F1⟩ := put2 RA LA 3 (by decide) (by decide) (.int .i64 1)
  rw [e1] at R1 L1 F1
  have R1' : Bk.Rows 22 tyB w1 lo K (adopt T (.slice pv c.length cv) (11 + seen)) [hO, hT, hW, hN, hF, hM, hDu, hR] (XB ws os []) (zB turn 1 seen) := R1.zext (by
    intro o h1 h2
    simp only [zB]
    split
    · rename_i h; subst h; simp
    · split <;> first | rfl | (split <;> first | rfl | (split <;> first | rfl | omega)))
  have HR1 : Hid (Bk.Rows 22 tyB w1 lo K (adopt T (.slice pv c.length cv) (11 + seen)) [hO, hT, hW, hN, hF, hM, hDu, hR] (XB ws os []) (zB turn 1 seen)) := R1'
  have HL1 : Hid (Kp Value.string 9 w1 lo (adopt T (.slice pv c.length cv) (11 + seen)) ws os [x] [] []) := L1
  have HF1 : Hid (Frm (adopt T (.slice pv c.length cv) (11 + seen)) (fun t => t = 1) w w1) := F1
  clear R1 R1' L1 F1 RA LA
  have d6 : w1.cell? ⟨K, 24, none⟩ = some hW := HR1.out.cell 2 (by decide)
  have fK1 : ∀ o, w1.frozen? ⟨K, o, none⟩ = false := HR1.out.fz
  have hWl : ws.length ≤ 1000000 := by have := HB.out.nw; omega
  obtain ⟨pW, kW, eW⟩ := row_form (HR1.out.row 2 (by decide))
  simp only [XB, List.getD_cons_succ, List.getD_cons_zero, List.length_map] at eW
  subst eW
  go_enter Tryz.func22, Tryz.ntmps22
  go_wp2_with (at_builtin; refine append_rowL rfl _ _ rfl HR1.out 2 24 ws.length (by decide) rfl (by simp [XB]) hWl ((Below.refl _ _).alloc (Nat.le_refl _) _) (.slice pv c.length cv) rfl rfl _ rfl ?c1 ?_)
  case c1 => simp
  intro p2 c2 w2 G2
  obtain ⟨w3, e3⟩ : ∃ w3, w2.setCell ⟨K, 24, none⟩ (.slice p2 (ws.length + 1) c2) = w3 := ⟨_, rfl⟩
  obtain ⟨T3, eT3⟩ : ∃ T3, upr (up (adopt T (.slice pv c.length cv) (11 + seen)) (w1.heap.size + 1) 4) w3.heap.size 10 = T3 := ⟨_, rfl⟩
  have R3 := G2.rows
  have L3 := G2.kp HL1.out
  have F3 := G2.frm
  have q2 := G2.cell
  have q2f := G2.fz
  have es : (w1.alloc (.cells #[.slice pv c.length cv] 56)).heap.size = w1.heap.size + 1 := by simp
  rw [e3] at R3 L3 F3
  rw [es] at R3 L3
  have HR3 : Hid (Bk.Rows 22 tyB w3 lo K T3 [hO, hT, .slice p2 (ws.length + 1) c2, hN, hF, hM, hDu, hR] [os.map (·.v), os.map (·.tv), (ws ++ [x]).map (·.v), ws.map (·.nv), [], ws.map (fun x => .int .i64 x.mark), ws.map (fun x => .int .i64 x.due), []] (zB turn 1 seen)) := by
    subst eT3
    have := R3.ext (T' := upr (up (adopt T (.slice pv c.length cv) (11 + seen)) (w1.heap.size + 1) 4) w3.heap.size 10) fun b hb => upr_old hb
    simp only [XB, List.map_append, List.map_cons, List.map_nil] at this ⊢
    exact this
  have HL3 : Hid (Kp Value.string 9 w3 lo T3 ws os [x] [] []) := by
    subst eT3
    exact L3.frm (Frm.refl _ (fun _ => False) _) (fun _ _ h => h) fun b hb => upr_old hb
  have HF3 : Hid (Frm (adopt T (.slice pv c.length cv) (11 + seen)) (fun t => t = 1 ∨ t = 4) w1 w3) := F3
  have HT3 : Hid (∀ b, b < w1.heap.size → T3 b = adopt T (.slice pv c.length cv) (11 + seen) b) := fun b hb => by subst eT3; rw [upr_old (Nat.lt_of_lt_of_le hb F3.size)]; exact up_old (by omega)
  have HN3 : Hid (∀ b, w3.heap.size ≤ b → T3 b = 10) := fun b hb => by subst eT3; exact upr_new hb
  clear R3 L3 F3 G2 es eT3 d6 c3 fK fK1 e1
  have d7 : w3.cell? ⟨K, 25, none⟩ = some hN := HR3.out.cell 3 (by decide)
  have f3 : ∀ o, w3.frozen? ⟨K, o, none⟩ = false := HR3.out.fz
  obtain ⟨pN, kN, eN⟩ := row_form (HR3.out.row 3 (by decide))
  simp only [List.getD_cons_succ, List.getD_cons_zero, List.length_map] at eN
  subst eN
  have HX3 : Hid (HasT w3 (.slice pv c.length cv) c) := by
    have h := (HL3.out.fresh x (by simp)).1
    exact OwnsT.has (lo := lo) h
  have hK3 : K < w3.heap.size := HR3.out.lt
  go_upto_region 2 with fail
  go_cut [2] (fun s2 wx => s2 = .int .i64 mark ∧ Hid (∃ p6 c6 T6 nv, Bk.Rows 22 tyB wx lo K T6 [hO, hT, .slice p2 (ws.length + 1) c2, .slice p6 (ws.length + 1) c6, hF, hM, hDu, hR] [os.map (·.v), os.map (·.tv), (ws ++ [x]).map (·.v), ws.map (·.nv) ++ [nv], [], ws.map (fun x => .int .i64 x.mark), ws.map (fun x => .int .i64 x.due), []] (zB turn 1 seen) ∧ Kp Value.string 9 wx lo T6 ws os [x] [] [] ∧ OwnsT wx lo nv c ∧ Tg wx T6 nv 10 ∧ Frm T3 (fun t => t = 1 ∨ t = 5) w3 wx ∧ (∀ b, b < w3.heap.size → T6 b = T3 b)))
  case first =>
    go_region_law (first
      | (refine step_copyB rfl _ _ rfl w3.heap.size _ _ c rfl rfl (by exact owns_lit0 w3.drew) (HX3.out.below (((Below.refl _ w3).drew).alloc (Nat.le_refl _) _)) (by omega) (by simp) ?_
         intro p5 k5 w5 ho5 hb5
         have b5 : Below w3.heap.size w3 w5 := (((Below.refl _ w3).drew).alloc (Nat.le_refl _) _).trans hb5
         have d75 : w5.cell? ⟨K, 25, none⟩ = some (.slice pN ws.length kN) := cellB (b5.block K hK3) d7
         have d75a : ∀ o, (w5.alloc o).cell? ⟨K, 25, none⟩ = some (.slice pN ws.length kN) := fun o => cellB (Below.heap_alloc w5 o K (by have := b5.size; omega)) d75
         have HB5 : Hid (Below w3.heap.size w3 w5) := b5
         have HO5 : Hid (OwnsT w5 w3.heap.size (.slice p5 c.length k5) c) := ho5
         clear hb5 b5 ho5)
      | (refine step_rowL rfl _ _ rfl HR3.out 3 25 ws.length (by decide) rfl (by simp) hWl (HB5.out.alloc HB5.out.size _) (.slice p5 c.length k5) rfl rfl ⟨w5.heap.size, 0, none⟩ rfl (by simp) ?_
         intro p6 c6 w6 G6
         have d76 : w6.cell? ⟨K, 25, none⟩ = some (.slice pN ws.length kN) := G6.cell
         have q6f := G6.fz
         have HG6 : Hid (Got w3 lo K T3 [hO, hT, .slice p2 (ws.length + 1) c2, .slice pN ws.length kN, hF, hM, hDu, hR] [os.map (·.v), os.map (·.tv), (ws ++ [x]).map (·.v), ws.map (·.nv), [], ws.map (fun x => .int .i64 x.mark), ws.map (fun x => .int .i64 x.due), []] (zB turn 1 seen) 3 25 ws.length (.slice p5 c.length k5) (w5.alloc (.cells #[.slice p5 c.length k5] 56)) (.slice p6 (ws.length + 1) c6) w6) := G6
         clear G6))
    all_goals (go_wp2_with fail; go_meet)
    all_goals
      have gc := HG6.out.copy HN3.out (by have := HR3.out.ge; omega) hK3 HO5.out
      exact ⟨rfl, _, _, _, _, HG6.out.rows, HG6.out.kp HL3.out, gc.1, gc.2, HG6.out.frm, fun b hb => up_old (by have := HG6.out.le; omega)⟩
  case rest =>
    obtain ⟨rfl, HC⟩ := hcut
    obtain ⟨p6, c6, T6, nv, hR6, hL6, ho6, ht6, hF6, hT6⟩ := HC.out
    have HR6 : Hid (Bk.Rows 22 tyB wc lo K T6 [hO, hT, .slice p2 (ws.length + 1) c2, .slice p6 (ws.length + 1) c6, hF, hM, hDu, hR] [os.map (·.v), os.map (·.tv), (ws ++ [x]).map (·.v), ws.map (·.nv) ++ [nv], [], ws.map (fun x => .int .i64 x.mark), ws.map (fun x => .int .i64 x.due), []] (zB turn 1 seen)) := hR6
    have HL6 : Hid (Kp Value.string 9 wc lo T6 ws os [x] [] []) := hL6
    have HO6 : Hid (OwnsT wc lo nv c ∧ Tg wc T6 nv 10) := ⟨ho6, ht6⟩
    have HF6 : Hid (Frm T3 (fun t => t = 1 ∨ t = 5) w3 wc) := hF6
    have HT6 : Hid (∀ b, b < w3.heap.size → T6 b = T3 b) := hT6
    clear HC hR6 hL6 ho6 ht6 hF6 hT6 d7 f3 HX3 e3 q2 q2f
    have d9 : wc.cell? ⟨K, 27, none⟩ = some hM := HR6.out.cell 5 (by decide)
    have fc : ∀ o, wc.frozen? ⟨K, o, none⟩ = false := HR6.out.fz
    obtain ⟨pM, kM, eM⟩ := row_form (HR6.out.row 5 (by decide))
    simp only [List.getD_cons_succ, List.getD_cons_zero, List.length_map] at eM
    subst eM
    go_wp2_with (at_builtin; refine append_rowI rfl _ _ rfl HR6.out 5 27 ws.length (by decide) (by decide) rfl (by simp) hWl ((Below.refl _ _).alloc (Nat.le_refl _) _) (.int .i64 mark) rfl rfl _ rfl ?c1 ?_)
    case c1 => simp
    intro p7 c7 w7 G7
    obtain ⟨w8, e8⟩ : ∃ w8, w7.setCell ⟨K, 27, none⟩ (.slice p7 (ws.length + 1) c7) = w8 := ⟨_, rfl⟩
    obtain ⟨T8, eT8⟩ : ∃ T8, up T6 (wc.heap.size + 1) 7 = T8 := ⟨_, rfl⟩
    have R8 := G7.rows
    have L8 := G7.kp HL6.out
    have F8 := G7.frm
    have q7 := G7.cell
    have q7f := G7.fz
    have es : (wc.alloc (.cells #[.int .i64 mark] 3)).heap.size = wc.heap.size + 1 := by simp
    rw [e8] at R8 L8 F8
    rw [es] at R8 L8
    have HR8 : Hid (Bk.Rows 22 tyB w8 lo K T8 [hO, hT, .slice p2 (ws.length + 1) c2, .slice p6 (ws.length + 1) c6, hF, .slice p7 (ws.length + 1) c7, hDu, hR] [os.map (·.v), os.map (·.tv), (ws ++ [x]).map (·.v), ws.map (·.nv) ++ [nv], [], (ws ++ [x]).map (fun x => .int .i64 x.mark), ws.map (fun x => .int .i64 x.due), []] (zB turn 1 seen)) := by
      subst eT8
      simp only [List.map_append, List.map_cons, List.map_nil] at R8 ⊢
      exact R8
    have HL8 : Hid (Kp Value.string 9 w8 lo T8 ws os [x] [] []) := by subst eT8; exact L8
    have HF8 : Hid (Frm T6 (fun t => t = 1 ∨ t = 7) wc w8) := F8
    have HT8 : Hid (∀ b, b < wc.heap.size → T8 b = T6 b) := fun b hb => by subst eT8; exact up_old (by omega)
    have HO8 : Hid (OwnsT w8 lo nv c ∧ Tg w8 T8 nv 10) := ⟨rowB HO6.out.1 (HO6.out.2.same F8 (by omega)), HO6.out.2.frm F8 HT8.out⟩
    clear R8 L8 F8 G7 es eT8 d9 fc HO6
    have d10 : w8.cell? ⟨K, 28, none⟩ = some hDu := HR8.out.cell 6 (by decide)
    have d12 : w8.cell? ⟨K, 30, none⟩ = some (.int .i64 seen) := HR8.out.rest 30 (by decide) (by decide)
    have f8 : ∀ o, w8.frozen? ⟨K, o, none⟩ = false := HR8.out.fz
    obtain ⟨pD, kD, eD⟩ := row_form (HR8.out.row 6 (by decide))
    simp only [List.getD_cons_succ, List.getD_cons_zero, List.length_map] at eD
    subst eD
    have hK8 : K < w8.heap.size := HR8.out.lt
    have CD : Hid (∀ wz : World, wz.heap = w8.heap → Calls Tryz.prog 38 #[.pointer (some ⟨K, 0, none⟩), .int .i64 seen] wz fun e w' => e = .returned (.int .i64 (dueOf turn seen)) ∧ w' = wz) := fun wz hz =>
      due_any K turn seen wz (by have := HR8.out.rest 0 (by decide) (by decide); simp only [World.cell?, hz] at this ⊢; exact this) (by have := HR8.out.rest 2 (by decide) (by decide); simp only [World.cell?, hz] at this ⊢; exact this) (by omega) (by omega)
    have hdu : dueOf turn seen ≤ 100000000 := by unfold dueOf; split <;> (try split) <;> omega
    obtain ⟨du, edu⟩ : ∃ du, dueOf turn seen = du := ⟨_, rfl⟩
    rw [edu] at CD hdu
    go_upto_region 4 with fail
    go_cut [2] (fun s2 wx => s2 = .int .i64 mark ∧ Hid (∃ p9 c9 T9, Bk.Rows 22 tyB wx lo K T9 [hO, hT, .slice p2 (ws.length + 1) c2, .slice p6 (ws.length + 1) c6, hF, .slice p7 (ws.length + 1) c7, .slice p9 (ws.length + 1) c9, hR] [os.map (·.v), os.map (·.tv), (ws ++ [x]).map (·.v), ws.map (·.nv) ++ [nv], [], (ws ++ [x]).map (fun x => .int .i64 x.mark), ws.map (fun x => .int .i64 x.due) ++ [.int .i64 du], []] (zB turn 1 seen) ∧ Kp Value.string 9 wx lo T9 ws os [x] [] [] ∧ Frm T8 (fun t => t = 1 ∨ t = 8) w8 wx ∧ (∀ b, b < w8.heap.size → T9 b = T8 b)))
    case first =>
      go_region_law (first
        | (rw [if_pos (by rfl)]; go_simp; go_at_call 38; refine (CD.out w8.drew rfl).mono ?_; rintro e wz ⟨rfl, rfl⟩)
        | (refine step_rowI rfl _ _ rfl HR8.out 6 28 ws.length (by decide) (by decide) rfl (by simp) hWl (((Below.refl _ w8).drew).alloc (Nat.le_refl _) _) (.int .i64 du) rfl rfl ⟨w8.heap.size, 0, none⟩ rfl (by simp) ?_
           intro p9 c9 w9 G9
           have d99 : w9.cell? ⟨K, 28, none⟩ = some (.slice pD ws.length kD) := G9.cell
           have q9f := G9.fz
           have HG9 : Hid (Got w8 lo K T8 [hO, hT, .slice p2 (ws.length + 1) c2, .slice p6 (ws.length + 1) c6, hF, .slice p7 (ws.length + 1) c7, .slice pD ws.length kD, hR] [os.map (·.v), os.map (·.tv), (ws ++ [x]).map (·.v), ws.map (·.nv) ++ [nv], [], (ws ++ [x]).map (fun x => .int .i64 x.mark), ws.map (fun x => .int .i64 x.due), []] (zB turn 1 seen) 6 28 ws.length (.int .i64 du) (w8.drew.alloc (.cells #[.int .i64 du] 3)) (.slice p9 (ws.length + 1) c9) w9) := G9
           clear G9))
      all_goals (go_wp2_with fail; go_meet)
      all_goals
        exact ⟨rfl, _, _, _, HG9.out.rows, HG9.out.kp HL8.out, HG9.out.frm, fun b hb => up_old (by have := HG9.out.le; omega)⟩
    case rest =>
      obtain ⟨rfl, HC⟩ := hcut
      obtain ⟨p9, c9, T9, hR9, hL9, hF9, hT9⟩ := HC.out
      obtain ⟨w10, e10⟩ : ∃ w10, wc.setCell ⟨K, 30, none⟩ (.int .i64 ((seen : Int) + 1)) = w10 := ⟨_, rfl⟩
      obtain ⟨R10, L10, F10⟩ := put2 hR9 hL9 30 (by decide) (by decide) (.int .i64 ((seen : Int) + 1))
      rw [e10] at R10 L10 F10
      have f9 : ∀ o, wc.frozen? ⟨K, o, none⟩ = false := hR9.fz
      have d12' : wc.cell? ⟨K, 30, none⟩ = some (.int .i64 seen) := hR9.rest 30 (by decide) (by decide)
      have hx9 : OwnsT w10 lo nv c ∧ Tg w10 T9 nv 10 := by
        obtain ⟨h1, h2⟩ := HO8.out
        have h3 : OwnsT wc lo nv c ∧ Tg wc T9 nv 10 := ⟨rowB h1 (h2.same hF9 (by omega)), h2.frm hF9 hT9⟩
        exact ⟨rowB h3.1 (h3.2.same F10 (by omega)), h3.2.frm F10 (fun _ _ => rfl)⟩
      have BK : BookSt w10 lo K T9 [hO, hT, .slice p2 (ws.length + 1) c2, .slice p6 (ws.length + 1) c6, hF, .slice p7 (ws.length + 1) c7, .slice p9 (ws.length + 1) c9, hR] (ws ++ [{ x with nv := nv, due := du }]) os turn 1 (seen + 1) := by
        refine ⟨?_, L10.note hx9.1 hx9.2 hdu (fun y hy => by have := HB.out.tags y hy; show y.tag ≠ 11 + seen; omega), fun y hy => ?_, fun o ho => by have := HB.out.tags o ho; omega, by have := HB.out.nw; simp; omega, by have := HB.out.no; simp; omega⟩
        · have r := R10.zext (z' := zB turn 1 (seen + 1)) (by
            intro o h1 h2
            simp only [zB]
            by_cases h12 : o = 30
            · subst h12; simp
            · simp [h12])
          simp only [XB, List.map_append, List.map_cons, List.map_nil] at r ⊢
          exact r
        · rcases List.mem_append.1 hy with hy | hy
          · have := HB.out.ids y hy; omega
          · obtain rfl := List.mem_singleton.1 hy
            show seen < seen + 1
            omega
      have T91 : ∀ b, b < w.heap.size → T9 b = adopt T (.slice pv c.length cv) (11 + seen) b := fun b hb => by
        have s1 := HF1.out.size
        have s3 := HF3.out.size
        have s6 := HF6.out.size
        have s8 := HF8.out.size
        rw [hT9 b (by omega), HT8.out b (by omega), HT6.out b (by omega), HT3.out b (by omega)]
      have FR : Frm (adopt T (.slice pv c.length cv) 10) (fun t => t ≠ 0) w w10 := by
        have s1 := HF1.out.size
        have s3 := HF3.out.size
        have s6 := HF6.out.size
        have s8 := HF8.out.size
        have a0 : ∀ b, adopt T (.slice pv c.length cv) (11 + seen) b ≠ 0 → adopt T (.slice pv c.length cv) 10 b ≠ 0 := fun b h => by
          simp only [adopt] at h ⊢
          split <;> simp_all
        have b1 : Frm (adopt T (.slice pv c.length cv) 10) (fun t => t ≠ 0) w w1 := HF1.out.mono fun b hb h => a0 b (by rw [h]; decide)
        have b3 : Frm (adopt T (.slice pv c.length cv) 10) (fun t => t ≠ 0) w w3 := b1.trans HF3.out fun b hb h => a0 b (by omega)
        have b6 := b3.trans HF6.out fun b hb h => a0 b (by rw [HT3.out b (by omega)] at h; omega)
        have b8 := b6.trans HF8.out fun b hb h => a0 b (by rw [HT6.out b (by omega), HT3.out b (by omega)] at h; omega)
        have b9 := b8.trans hF9 fun b hb h => a0 b (by rw [HT8.out b (by omega), HT6.out b (by omega), HT3.out b (by omega)] at h; omega)
        exact b9.trans F10 fun b hb h => a0 b (by rw [T91 b hb] at h; omega)
      have HC10 := HD.out w10 T9 _ _ BK FR (fun b hb hn => by rw [T91 b hb, adopt_other hn])
      have HCC : Hid (Calls Tryz.prog 39 #[.pointer (some ⟨K, 0, none⟩)] w10 fun e w' => e = .returned (.tuple #[]) ∧ Q w') := HC10
      clear HC10 BK FR R10 L10 F10 hx9 hR9 hL9 hF9 hT9 HC
      go_wp2_with fail
      refine HCC.out.mono ?_
      rintro e wz ⟨rfl, hq⟩
      have HQ : Hid (Q wz) := hq
      clear hq
      go_wp2
      go_end0
      exact ⟨rfl, HQ.out⟩
end Go.Proofs.YtbjjbgaomoihaaaGreatDoor.Bk
