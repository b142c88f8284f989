/-
  THE BOOK: append onto one of its rows, at a plain region and at a step of a region that draws; a copy of a list.
-/
import Derived.Test.YtpenaeoodfgmpaaGreatDoorBkC
namespace Go.Proofs.YtpenaeoodfgmpaaGreatDoor.KI
open Go.RowKit Bk

theorem ic_one (t : It) : (ic t).all (·.oneCell') = true := by simp [ic, Value.oneCell']
abbrev Ru := It
def rcs (L : List Ru) : List Value := flat ic L
theorem rcs_len (L : List Ru) : (rcs L).length = L.length * 7 := flat_len ic_size L
theorem rcs_app (K M : List Ru) : rcs (K ++ M) = rcs K ++ rcs M := flat_app _ K M
theorem rcs_one (L : List Ru) : ∀ u ∈ rcs L, u.oneCell' = true := flat_one ic_one L
def OwnsR (w : World) (lo : Nat) (v : Value) (L : List Ru) : Prop := w.ownsRow lo 71 7 v L.length (rcs L)
def HasQ (w : World) (v : Value) (L : List Ru) : Prop := Bk.HasV w v L.length (rcs L)
theorem OwnsR.form {w : World} {lo : Nat} {v : Value} {l : List Ru} (h : OwnsR w lo v l) : ∃ p c, v = .slice p l.length c := row_form h
theorem HasQ.form {w : World} {v : Value} {L : List Ru} (h : HasQ w v L) : ∃ ao cap, v = .slice ao L.length cap ∧ L.length ≤ cap := by
  rcases h with ⟨rfl, e⟩ | ⟨g, cap, rfl, hc, _⟩
  · exact ⟨none, 0, by rw [e], by omega⟩
  · exact ⟨_, cap, rfl, hc⟩
theorem HasQ.below {w w' : World} {v : Value} {L : List Ru} (h : HasQ w v L) (hb : Below w.heap.size w w') : HasQ w' v L := by
  rcases h with h | ⟨g, cap, rfl, hc, h⟩
  · exact .inl h
  · exact .inr ⟨g, cap, rfl, hc, fun i u hi => (hb.cell (p := ⟨g, i, none⟩) (World.block_lt_of_cell? _ ⟨g, i, none⟩ (h i u hi))).trans (h i u hi)⟩
theorem OwnsR.hasq {w : World} {lo : Nat} {v : Value} {L : List Ru} (h : OwnsR w lo v L) : HasQ w v L := Bk.HasV.of_row h
theorem HasQ.at {w : World} {ao : Option Addr} {cap : Nat} {L : List Ru} (h : HasQ w (.slice ao L.length cap) L) {i : Nat} {r : Ru} (hi : L[i]? = some r) : ∃ g, ao = some ⟨g, 0, none⟩ ∧ Lies w g (i * 7) (ic r) := by
  rcases h with ⟨_, e⟩ | ⟨g, c, e, _, h⟩
  · have := List.length_eq_zero_iff.1 e
    subst this; simp at hi
  · cases e
    refine ⟨g, rfl, fun j u hj => h _ _ ?_⟩
    have hl := (Array.getElem?_eq_some_iff.1 hj).1
    rw [ic_size] at hl
    unfold rcs
    rw [flat_at ic_size hi hl]
    exact hj
theorem owns_lit0 (w : World) : OwnsR (w.alloc (.cells #[] 71)) w.heap.size (.slice (some ⟨w.heap.size, 0, none⟩) 0 0) [] :=
  ⟨by simp [rcs, flat], .inr ⟨_, 0, #[], rfl, Nat.le_refl _, heap_alloc_new w _, Nat.le_refl _, Nat.zero_le _, by simp, by simp [rcs, flat]⟩⟩

set_option maxRecDepth 100000 in
theorem neq71 (a b : Int) (c : ByteArray) (d e f g : Int) (w : World) : (binOp .neq 71 (.agg #[.int .i64 a, .int .i64 b, .string c, .int .i64 d, .int .i64 e, .int .i64 f, .int .i64 g]) (.agg #[.int .i64 a, .int .i64 b, .string c, .int .i64 d, .int .i64 e, .int .i64 f, .int .i64 g])).run Tryz.prog w = .ok (.bool false) w := by
  simp [eq71, go_sem]
set_option maxHeartbeats 2000000 in
set_option maxRecDepth 100000 in
theorem sameKept_eq (va vb : Value) (A : List Ru) (w : World) (ha : HasQ w va A) (hb : HasQ w vb A) (hal : A.length ≤ 1048576) :
    Calls Tryz.prog 78 #[va, vb] w fun e w' => e = .returned (.bool true) ∧ Below w.heap.size w w' := by
  obtain ⟨i0, hi, hz0, hz1, hz2⟩ := info_parts Tryz.info71
  have HA : Hid (HasQ w va A) := ha
  have HB : Hid (HasQ w vb A) := hb
  obtain ⟨ao, ca, rfl, _⟩ := ha.form
  obtain ⟨bo, cb, rfl, _⟩ := hb.form
  clear ha hb
  have hlb : ((A.length : Int) != (A.length : Int)) = false := by simp
  go_enter Tryz.func78, Tryz.ntmps78
  go_wp2
  go_loopw [5] (fun i wr => ∃ k : Nat, k ≤ A.length ∧ i = .int .i64 k ∧ Hid (Below w.heap.size w wr)) (fun i _ => A.length - iOf i)
  case atStart => exact ⟨0, Nat.zero_le _, rfl, Below.refl _ _⟩
  case round =>
    obtain ⟨k, hk, rfl, HS⟩ := hrel
    by_cases hlt : k < A.length
    · have i1 : (k : Int) < (A.length : Int) := by omega
      obtain ⟨r, hx⟩ : ∃ r, A[k]? = some r := ⟨_, List.getElem?_eq_getElem hlt⟩
      obtain ⟨ga, rfl, la⟩ := (HA.out.below HS.out).at hx
      obtain ⟨gb, rfl, lb⟩ := (HB.out.below HS.out).at hx
      clear hx
      obtain ⟨n, ce, pa, wh, fr, tq, mo⟩ := r
      have a0 : wr.cell? ⟨ga, k * 7, none⟩ = some (.int .i64 n) := la 0 _ rfl
      have a1 : wr.cell? ⟨ga, k * 7 + 1, none⟩ = some (.int .i64 ce) := la 1 _ rfl
      have a2 : wr.cell? ⟨ga, k * 7 + 2, none⟩ = some (.string pa) := la 2 _ rfl
      have a3 : wr.cell? ⟨ga, k * 7 + 3, none⟩ = some (.int .i64 wh) := la 3 _ rfl
      have a4 : wr.cell? ⟨ga, k * 7 + 4, none⟩ = some (.int .i64 fr) := la 4 _ rfl
      have a5 : wr.cell? ⟨ga, k * 7 + 5, none⟩ = some (.int .i64 tq) := la 5 _ rfl
      have a6 : wr.cell? ⟨ga, k * 7 + 6, none⟩ = some (.int .i64 mo) := la 6 _ rfl
      have b0 := fun o => cell_alloc_l o (lb 0 (.int .i64 n) rfl)
      have b1 := fun o => cell_alloc_l o (lb 1 (.int .i64 ce) rfl)
      have b2 := fun o => cell_alloc_l o (lb 2 (.string pa) rfl)
      have b3 := fun o => cell_alloc_l o (lb 3 (.int .i64 wh) rfl)
      have b4 := fun o => cell_alloc_l o (lb 4 (.int .i64 fr) rfl)
      have b5 := fun o => cell_alloc_l o (lb 5 (.int .i64 tq) rfl)
      have b6 := fun o => cell_alloc_l o (lb 6 (.int .i64 mo) rfl)
      simp only [Nat.add_zero] at b0
      have hq := fun W => neq71 n ce pa wh fr tq mo W
      clear la lb
      go_wp2
      have HS2 : Hid (Below w.heap.size w ((wr.alloc (.cells #[.int .i64 n, .int .i64 ce, .string pa, .int .i64 wh, .int .i64 fr, .int .i64 tq, .int .i64 mo] 71)).alloc (.cells #[.int .i64 n, .int .i64 ce, .string pa, .int .i64 wh, .int .i64 fr, .int .i64 tq, .int .i64 mo] 71))) := (HS.out.alloc HS.out.size _).alloc (by have := HS.out.size; simp; omega) _
      go_roundw
      case rel => exact ⟨k + 1, by omega, by go_num, HS2⟩
      case measure => simp; omega
    · have i1 : ¬ ((k : Int) < (A.length : Int)) := by omega
      go_wp2
      go_ret
      exact ⟨rfl, HS.out⟩
end Go.Proofs.YtpenaeoodfgmpaaGreatDoor.KI
namespace Go.Proofs.YtpenaeoodfgmpaaGreatDoor.KI
open Go.RowKit Bk
variable {z0 : Nat → Value}
theorem step_append_rules {w : World} {ops : Array Oper} {o : Oper} {a : Act} {K : Act → World → Prop} {Q : Exit → Act → World → Prop} {E : Prop} (hgd : o.guard = none) (s x : Operand)
    (ho : o.op = .call { callee := .builtin .append, args := #[s, x], argTypes := #[50, 50] })
    (lo : Nat) (v vx : Value) (m l : List Ru) (hs : a.eval s = v) (hx : a.eval x = vx) (hown : OwnsR w lo v m) (hhas : HasQ w vx l)
    (hlen : m.length + l.length ≤ 1048576) (hbase : lo ≤ w.heap.size)
    (h : ∀ v' w', OwnsR w' lo v' (m ++ l) → Below lo w w' → K (a.put o.dst v') w') :
    if Region.wanted o (yielded ops a.tmps) = true then Oper.wp Tryz.prog o a w K Q else E := by
  have hw : Region.wanted o (yielded ops a.tmps) = true := by simp [Region.wanted, hgd]
  rw [if_pos hw]
  obtain ⟨i0, hi, hz0, hz1, hz2⟩ := info_parts Tryz.info71
  rcases hhas with ⟨rfl, hl⟩ | ⟨g, cap, rfl, hc, hcell⟩
  · obtain rfl := List.length_eq_zero_iff.1 hl
    have hr := run_append_owned_none (P := Tryz.prog) w lo 50 o.type 71 i0 7 Tryz.underlying50 hi v m.length (rcs m) hown
    unfold Oper.wp execOp
    simp only [ho, resolve, invoke, builtin, Sem.run_bind, Sem.run_pure, Result.andThen_ok, List.map_toArray, List.map_cons, List.map_nil, hs, hx, hr]
    exact h v w (by simpa using hown) (Below.refl _ _)
  · refine wp_append_own w s x 50 ho lo 71 i0 (.agg z45) 7 64 Tryz.underlying50 hi hz0 hz1 hz2 rfl (by decide) v m.length (rcs m) hs hown ⟨g, 0, none⟩ l.length cap (rcs l) hx (rcs_len l) ?_ (rcs_one l) ?_ ?_ hbase ?_
    · intro j u hj
      rw [Bk.add0]
      exact hcell j u hj
    · unfold maxLen; omega
    · omega
    · intro v' w' h1 h2 _
      refine h v' w' ?_ ((Below.refl lo w).grown h2 hbase fun k hk => (World.ownsRow.lt hown k hk).1)
      unfold OwnsR
      rw [rcs_app, List.length_append]
      exact h1

/-- The elements' types of the eight rows. -/
def tyB (j : Nat) : TypeId := if j < 5 then 50 else 3

/-- The Book's other cells. -/
def zB (z0 : Nat → Value) (turn deep seen : Nat) : Nat → Value := fun i =>
  if i < 2 then .bool false else if i = 2 then .int .i64 turn else if i = 3 then .int .i64 deep else if i = 66 then .int .i64 seen else z0 i

/-- What is known behind an append onto row j, ahead of the store of its cell. -/
structure Got (w : World) (lo K : Nat) (T : Nat → Nat) (hs : List Value) (X : List (List Value)) (z : Nat → Value) (j o n : Nat) (u : Value) (w1 : World) (v' : Value) (w' : World) : Prop where
  rows : Bk.Rows 58 tyB (w'.setCell ⟨K, o, none⟩ v') lo K (up T w1.heap.size (2 + j)) (hs.set j v') (X.set j (X.getD j [] ++ [u])) z
  frm : Frm T (fun t => t = 1 ∨ t = 2 + j) w (w'.setCell ⟨K, o, none⟩ v')
  cell : w'.cell? ⟨K, o, none⟩ = some (hs.getD j nil0)
  fz : w'.frozen? ⟨K, o, none⟩ = false
  new : ∀ b, w.heap.size ≤ b → b < w1.heap.size → w'.heap[b]? = w1.heap[b]?
  le : w.heap.size ≤ w1.heap.size
  lt : j < 8

theorem got {w : World} {lo K : Nat} {T : Nat → Nat} {hs : List Value} {X : List (List Value)} {z : Nat → Value} (R : Bk.Rows 58 tyB w lo K T hs X z) {j o n : Nat} (hj : j < 8) (ho : o = 58 + j) (hn : (X.getD j []).length = n) {w1 w' : World} {v' : Value} {u : Value} (hb : Below w.heap.size w w1)
    (h : w'.ownsRow lo (tyB j) 1 v' (n + 1) (X.getD j [] ++ [u])) (hg : w1.grownBy w' (hs.getD j nil0).ownBlock) (hat : v'.ownBlock = (hs.getD j nil0).ownBlock ∨ v'.ownBlock = some w1.heap.size) : Got w lo K T hs X z j o n u w1 v' w' := by
  subst ho
  have h' : w'.ownsRow lo (tyB j) 1 v' (X.getD j [] ++ [u]).length (X.getD j [] ++ [u]) := by
    rw [List.length_append, hn]; exact h
  obtain ⟨r, f⟩ := R.grow hj hb h' hg hat
  have hKj : (hs.getD j nil0).ownBlock ≠ some K := fun e => by have h1 := R.tag j hj K e; have h2 := R.tK; omega
  have s1 := hb.size
  have hKlt := R.lt
  have hK2 : w'.heap[K]? = w.heap[K]? := (hg.block K (by omega) (fun e => hKj e.symm)).trans (hb.block K hKlt)
  refine ⟨r, f, cellB hK2 (R.cell j hj), frozenB hK2 R.fz _, fun b h1 h2 => hg.block b h2 (fun e => ?_), s1, hj⟩
  have := ((R.row j hj).lt b e.symm).2
  omega

theorem Got.kp {w : World} {lo K : Nat} {T : Nat → Nat} {hs : List Value} {X : List (List Value)} {z : Nat → Value} {j o n : Nat} {u : Value} {w1 : World} {v' : Value} {w' : World} (G : Got w lo K T hs X z j o n u w1 v' w')
    {α : Type} {en : List α → List Value} {e : TypeId} {s : Nat} {ws : List (Lst α)} {os : List (Bk.Ot α)} {fr rs : List (Lst α)} {olds : List (Value × TypeId × List Value)} (L : Kp en e s w lo T ws os fr rs olds) : Kp en e s (w'.setCell ⟨K, o, none⟩ v') lo (up T w1.heap.size (2 + j)) ws os fr rs olds :=
  L.frm G.frm (fun t ht => by have := G.lt; omega) fun b hb => up_old (by have := G.le; omega)

/-- What was made on the way is still there. -/
theorem Got.copy {w : World} {lo K : Nat} {T : Nat → Nat} {hs : List Value} {X : List (List Value)} {z : Nat → Value} {j o n : Nat} {u : Value} {w5 : World} {ob : Obj} {v' : Value} {w' : World} (G : Got w lo K T hs X z j o n u (w5.alloc ob) v' w')
    (hT : ∀ b, w.heap.size ≤ b → T b = 10) (hlo : lo ≤ w.heap.size) (hK : K < w.heap.size) {e s m : Nat} {nv : Value} {xs : List Value} (h : w5.ownsRow w.heap.size e s nv m xs) :
    (w'.setCell ⟨K, o, none⟩ v').ownsRow lo e s nv m xs ∧ Tg (w'.setCell ⟨K, o, none⟩ v') (up T (w5.alloc ob).heap.size (2 + j)) nv 10 := by
  have hs1 : (w5.alloc ob).heap.size = w5.heap.size + 1 := by simp
  have hlt := h.lt
  have hbk : ∀ b, nv.ownBlock = some b → (w'.setCell ⟨K, o, none⟩ v').heap[b]? = w5.heap[b]? := fun b hb => by
    have := hlt b hb
    exact (setB (by omega)).trans ((G.new b this.1 (by omega)).trans (Below.heap_alloc w5 ob b this.2))
  have hsz : w5.heap.size + 1 ≤ (w'.setCell ⟨K, o, none⟩ v').heap.size := by
    rcases Nat.lt_or_ge w5.heap.size (w'.setCell ⟨K, o, none⟩ v').heap.size with h | h
    · exact h
    · exfalso
      have e1 : w'.heap.size ≤ w5.heap.size := by rw [sizeS] at h; exact h
      have e2 := G.new w5.heap.size (by have := G.le; have := G.frm.size; rw [sizeS] at this; omega) (by omega)
      rw [Array.getElem?_eq_none e1] at e2
      have e3 : (w5.alloc ob).heap[w5.heap.size]? = some ob := heap_alloc_new w5 ob
      rw [e3] at e2
      cases e2
  refine ⟨?_, fun b hb => ⟨by have := hlt b hb; omega, ?_⟩⟩
  · obtain ⟨h1, h2 | ⟨g, cap, cur, hv, hg, hr⟩⟩ := rowB h hbk
    · exact ⟨h1, .inl h2⟩
    · exact ⟨h1, .inr ⟨g, cap, cur, hv, by omega, hr⟩⟩
  · have := hlt b hb
    rw [up_old (by omega)]
    exact hT b this.1

theorem append_rowL {w w1 : World} {lo K : Nat} {T : Nat → Nat} {hs : List Value} {X : List (List Value)} {z : Nat → Value} {ops : Array Oper} {rest : List Oper} {o : Oper} {a : Act} {Q : Exit → Act → World → Prop} (hgd : o.guard = none) (s x : Operand)
    (ho : o.op = .call { callee := .builtin .append, args := #[s, x], argTypes := #[33, 33] }) (R : Bk.Rows 58 tyB w lo K T hs X z) (j off n : Nat) (hj : j < 5) (hoff : off = 58 + j) (hn : (X.getD j []).length = n) (hl : n ≤ 1000000)
    (hb : Below w.heap.size w w1) (u : Value) (hu : u.oneCell' = true) (hs' : a.eval s = hs.getD j nil0) (ad : Addr) (hx : a.eval x = .slice (some ad) 1 1) (hnew : w1.cell? ad = some u)
    (h : ∀ p c w', Got w lo K T hs X z j off n u w1 (.slice p (n + 1) c) w' → wpList Tryz.prog ops Q rest (a.put o.dst (.slice p (n + 1) c)) w') : wpList Tryz.prog ops Q (o :: rest) a w1 := by
  obtain ⟨i2, hi2, hy0, hy1, hy2⟩ := info_parts Tryz.info50
  have s1 := hb.size
  have hr := R.row j (by omega)
  have e : tyB j = 50 := by unfold tyB; rw [if_pos hj]
  rw [hn, e] at hr
  have hr1 : w1.ownsRow lo 50 1 (hs.getD j nil0) n (X.getD j []) := rowB hr fun k hk => hb.block k (hr.lt k hk).2
  refine wpList_append_own_at w1 hgd s x 33 ho lo 50 i2 (.slice none 0 0) 1 24 Tryz.underlying33 hi2 hy0 hy1 hy2 rfl (by decide) _ n _ hs' hr1 ad 1 1 [u] hx rfl ?_ ?_ ?_ ?_ ?_ ?_
  · intro i y hi
    match i, hi with
    | 0, hi => simp at hi; subst hi; simpa [Addr.add] using hnew
  · intro y hy; simp at hy; subst hy; exact hu
  · unfold maxLen; omega
  · omega
  · have := R.ge; have := R.lt; omega
  · intro v' w' h1 h2 _ h4
    obtain ⟨p, c, rfl⟩ := row_form h1
    exact h p c w' (got R (by omega) hoff hn hb (by rw [e]; exact h1) h2 h4)

theorem append_rowI {w w1 : World} {lo K : Nat} {T : Nat → Nat} {hs : List Value} {X : List (List Value)} {z : Nat → Value} {ops : Array Oper} {rest : List Oper} {o : Oper} {a : Act} {Q : Exit → Act → World → Prop} (hgd : o.guard = none) (s x : Operand)
    (ho : o.op = .call { callee := .builtin .append, args := #[s, x], argTypes := #[28, 28] }) (R : Bk.Rows 58 tyB w lo K T hs X z) (j off n : Nat) (hj : 5 ≤ j) (hj8 : j < 8) (hoff : off = 58 + j) (hn : (X.getD j []).length = n) (hl : n ≤ 1000000)
    (hb : Below w.heap.size w w1) (u : Value) (hu : u.oneCell' = true) (hs' : a.eval s = hs.getD j nil0) (ad : Addr) (hx : a.eval x = .slice (some ad) 1 1) (hnew : w1.cell? ad = some u)
    (h : ∀ p c w', Got w lo K T hs X z j off n u w1 (.slice p (n + 1) c) w' → wpList Tryz.prog ops Q rest (a.put o.dst (.slice p (n + 1) c)) w') : wpList Tryz.prog ops Q (o :: rest) a w1 := by
  obtain ⟨i2, hi2, hy0, hy1, hy2⟩ := info_parts Tryz.info3
  have s1 := hb.size
  have hr := R.row j (by omega)
  have e : tyB j = 3 := by unfold tyB; rw [if_neg (by omega)]
  rw [hn, e] at hr
  have hr1 : w1.ownsRow lo 3 1 (hs.getD j nil0) n (X.getD j []) := rowB hr fun k hk => hb.block k (hr.lt k hk).2
  refine wpList_append_own_at w1 hgd s x 28 ho lo 3 i2 (.int .i64 0) 1 8 Tryz.underlying28 hi2 hy0 hy1 hy2 rfl (by decide) _ n _ hs' hr1 ad 1 1 [u] hx rfl ?_ ?_ ?_ ?_ ?_ ?_
  · intro i y hi
    match i, hi with
    | 0, hi => simp at hi; subst hi; simpa [Addr.add] using hnew
  · intro y hy; simp at hy; subst hy; exact hu
  · unfold maxLen; omega
  · omega
  · have := R.ge; have := R.lt; omega
  · intro v' w' h1 h2 _ h4
    obtain ⟨p, c, rfl⟩ := row_form h1
    exact h p c w' (got R (by omega) hoff hn hb (by rw [e]; exact h1) h2 h4)

theorem step_rowL {w w1 : World} {lo K : Nat} {T : Nat → Nat} {hs : List Value} {X : List (List Value)} {z : Nat → Value} {ops : Array Oper} {o : Oper} {a : Act} {J : Act → World → Prop} {Q : Exit → Act → World → Prop} {E : Prop} (hgd : o.guard = none) (s x : Operand)
    (ho : o.op = .call { callee := .builtin .append, args := #[s, x], argTypes := #[33, 33] }) (R : Bk.Rows 58 tyB w lo K T hs X z) (j off n : Nat) (hj : j < 5) (hoff : off = 58 + j) (hn : (X.getD j []).length = n) (hl : n ≤ 1000000)
    (hb : Below w.heap.size w w1) (u : Value) (hu : u.oneCell' = true) (hs' : a.eval s = hs.getD j nil0) (ad : Addr) (hx : a.eval x = .slice (some ad) 1 1) (hnew : w1.cell? ad = some u)
    (h : ∀ p c w', Got w lo K T hs X z j off n u w1 (.slice p (n + 1) c) w' → J (a.put o.dst (.slice p (n + 1) c)) w') :
    if Region.wanted o (yielded ops a.tmps) = true then Oper.wp Tryz.prog o a w1 J Q else E := by
  have hw : Region.wanted o (yielded ops a.tmps) = true := by simp [Region.wanted, hgd]
  rw [if_pos hw]
  obtain ⟨i2, hi2, hy0, hy1, hy2⟩ := info_parts Tryz.info50
  have s1 := hb.size
  have hr := R.row j (by omega)
  have e : tyB j = 50 := by unfold tyB; rw [if_pos hj]
  rw [hn, e] at hr
  have hr1 : w1.ownsRow lo 50 1 (hs.getD j nil0) n (X.getD j []) := rowB hr fun k hk => hb.block k (hr.lt k hk).2
  obtain ⟨v', w', hrun, h1, h2, _, h4⟩ := run_append_own_at (P := Tryz.prog) w1 lo 33 o.type 50 i2 (.slice none 0 0) 1 24 Tryz.underlying33 hi2 hy0 hy1 hy2 rfl (by decide) _ n _ hr1 ad 1 1 [u] rfl
    (by intro i y hi
        match i, hi with
        | 0, hi => simp at hi; subst hi; simpa [Addr.add] using hnew)
    (by intro y hy; simp at hy; subst hy; exact hu) (by unfold maxLen; omega) (by omega) (by have := R.ge; have := R.lt; omega)
  unfold Oper.wp execOp
  simp only [ho, resolve, invoke, builtin, Sem.run_bind, Sem.run_pure, Result.andThen_ok, List.map_toArray, List.map_cons, List.map_nil, hs', hx, hrun]
  obtain ⟨p, c, rfl⟩ := row_form h1
  exact h p c w' (got R (by omega) hoff hn hb (by rw [e]; exact h1) h2 h4)

theorem step_rowI {w w1 : World} {lo K : Nat} {T : Nat → Nat} {hs : List Value} {X : List (List Value)} {z : Nat → Value} {ops : Array Oper} {o : Oper} {a : Act} {J : Act → World → Prop} {Q : Exit → Act → World → Prop} {E : Prop} (hgd : o.guard = none) (s x : Operand)
    (ho : o.op = .call { callee := .builtin .append, args := #[s, x], argTypes := #[28, 28] }) (R : Bk.Rows 58 tyB w lo K T hs X z) (j off n : Nat) (hj : 5 ≤ j) (hj8 : j < 8) (hoff : off = 58 + j) (hn : (X.getD j []).length = n) (hl : n ≤ 1000000)
    (hb : Below w.heap.size w w1) (u : Value) (hu : u.oneCell' = true) (hs' : a.eval s = hs.getD j nil0) (ad : Addr) (hx : a.eval x = .slice (some ad) 1 1) (hnew : w1.cell? ad = some u)
    (h : ∀ p c w', Got w lo K T hs X z j off n u w1 (.slice p (n + 1) c) w' → J (a.put o.dst (.slice p (n + 1) c)) w') :
    if Region.wanted o (yielded ops a.tmps) = true then Oper.wp Tryz.prog o a w1 J Q else E := by
  have hw : Region.wanted o (yielded ops a.tmps) = true := by simp [Region.wanted, hgd]
  rw [if_pos hw]
  obtain ⟨i2, hi2, hy0, hy1, hy2⟩ := info_parts Tryz.info3
  have s1 := hb.size
  have hr := R.row j (by omega)
  have e : tyB j = 3 := by unfold tyB; rw [if_neg (by omega)]
  rw [hn, e] at hr
  have hr1 : w1.ownsRow lo 3 1 (hs.getD j nil0) n (X.getD j []) := rowB hr fun k hk => hb.block k (hr.lt k hk).2
  obtain ⟨v', w', hrun, h1, h2, _, h4⟩ := run_append_own_at (P := Tryz.prog) w1 lo 28 o.type 3 i2 (.int .i64 0) 1 8 Tryz.underlying28 hi2 hy0 hy1 hy2 rfl (by decide) _ n _ hr1 ad 1 1 [u] rfl
    (by intro i y hi
        match i, hi with
        | 0, hi => simp at hi; subst hi; simpa [Addr.add] using hnew)
    (by intro y hy; simp at hy; subst hy; exact hu) (by unfold maxLen; omega) (by omega) (by have := R.ge; have := R.lt; omega)
  unfold Oper.wp execOp
  simp only [ho, resolve, invoke, builtin, Sem.run_bind, Sem.run_pure, Result.andThen_ok, List.map_toArray, List.map_cons, List.map_nil, hs', hx, hrun]
  obtain ⟨p, c, rfl⟩ := row_form h1
  exact h p c w' (got R (by omega) hoff hn hb (by rw [e]; exact h1) h2 h4)

/-- 'append([]api.Rule{}, l...)' at a step: a copy, in new blocks. -/
theorem step_copyB {w : World} {ops : Array Oper} {o : Oper} {a : Act} {J : Act → World → Prop} {Q : Exit → Act → World → Prop} {E : Prop} (hgd : o.guard = none) (s x : Operand)
    (ho : o.op = .call { callee := .builtin .append, args := #[s, x], argTypes := #[50, 50] })
    (lo : Nat) (v vx : Value) (l : List Ru) (hs : a.eval s = v) (hx : a.eval x = vx) (hown : OwnsR w lo v []) (hhas : HasQ w vx l) (hlen : l.length ≤ 1048576) (hbase : lo ≤ w.heap.size)
    (h : ∀ p c w', OwnsR w' lo (.slice p l.length c) l → Below lo w w' → J (a.put o.dst (.slice p l.length c)) w') :
    if Region.wanted o (yielded ops a.tmps) = true then Oper.wp Tryz.prog o a w J Q else E := by
  refine step_append_rules hgd s x ho lo v vx [] l hs hx hown hhas (by simpa using hlen) hbase (fun v' w' h1 h2 => ?_)
  have h1' : OwnsR w' lo v' l := h1
  obtain ⟨p, c, rfl⟩ := row_form h1'
  exact h p c w' h1' h2
end Go.Proofs.YtpenaeoodfgmpaaGreatDoor.KI
