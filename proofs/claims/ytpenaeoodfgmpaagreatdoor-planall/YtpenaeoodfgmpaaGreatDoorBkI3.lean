/-
  THE BOOK in the midst of marks and grows.
-/
import Derived.Test.YtpenaeoodfgmpaaGreatDoorBkI8
namespace Go.Proofs.YtpenaeoodfgmpaaGreatDoor.KI
open Go.RowKit Bk
variable {z0 : Nat → Value}

structure Mid (w : World) (T : Nat → Nat) (lo K : Nat) (z : Nat → Value) (wr : World) (T' : Nat → Nat) (hs : List Value) (X : List (List Value)) (ws : List (Lst Ru)) (os : List (Bk.Ot Ru)) (fr rs : List (Lst Ru)) (olds : List (Value × TypeId × List Value)) : Prop where
  rows : Bk.Rows 58 tyB wr lo K T' hs X z
  kp : Kp rcs 71 7 wr lo T' ws os fr rs olds
  frm : Frm T (fun t => t ≠ 0) w wr
  zero : ∀ b, b < w.heap.size → (T' b = 0 ↔ T b = 0)

section
variable {w : World} {T : Nat → Nat} {lo K : Nat} {z : Nat → Value} {wr : World} {T' : Nat → Nat} {hs : List Value} {X : List (List Value)} {ws : List (Lst Ru)} {os : List (Bk.Ot Ru)} {fr rs : List (Lst Ru)} {olds : List (Value × TypeId × List Value)}

theorem Mid.step (M : Mid w T lo K z wr T' hs X ws os fr rs olds) {j o n : Nat} {u : Value} {w1 : World} {v' : Value} {w' : World} (G : Got wr lo K T' hs X z j o n u w1 v' w') :
    Mid w T lo K z (w'.setCell ⟨K, o, none⟩ v') (up T' w1.heap.size (2 + j)) (hs.set j v') (X.set j (X.getD j [] ++ [u])) ws os fr rs olds := by
  have s := M.frm.size
  have l := G.le
  refine ⟨G.rows, G.kp M.kp, M.frm.trans G.frm fun b hb h => ?_, fun b hb => ?_⟩
  · intro e
    have := (M.zero b hb).2 e
    omega
  · rw [up_old (by omega)]
    exact M.zero b hb

/-- A draw. -/
theorem Mid.drew (M : Mid w T lo K z wr T' hs X ws os fr rs olds) : Mid w T lo K z wr.drew T' hs X ws os fr rs olds := by
  have f : Frm T' (fun _ => False) wr wr.drew := ⟨rfl, rfl, rfl, Nat.le_refl _, fun _ _ _ => rfl⟩
  exact ⟨M.rows.frm f (fun _ _ _ h => h), M.kp.frm f (fun _ _ h => h) (fun _ _ => rfl), M.frm.trans f (fun _ _ h => h.elim), M.zero⟩

/-- New blocks. -/
theorem Mid.up (M : Mid w T lo K z wr T' hs X ws os fr rs olds) {wn : World} (hb : Below wr.heap.size wr wn) : Mid w T lo K z wn T' hs X ws os fr rs olds := by
  have f : Frm T' (fun _ => False) wr wn := ⟨hb.os, hb.tape, hb.output, hb.size, fun b h _ => hb.block b h⟩
  exact ⟨M.rows.frm f (fun _ _ _ h => h), M.kp.frm f (fun _ _ h => h) (fun _ _ => rfl), M.frm.trans f (fun _ _ h => h.elim), M.zero⟩

theorem Mid.up10 (M : Mid w T lo K z wr T' hs X ws os fr rs olds) : Mid w T lo K z wr (upr T' wr.heap.size 10) hs X ws os fr rs olds :=
  ⟨M.rows.ext fun b hb => upr_old hb, M.kp.frm (Frm.refl _ (fun _ => False) _) (fun _ _ h => h) fun b hb => upr_old hb, M.frm, fun b hb => by rw [upr_old (by have := M.frm.size; omega)]; exact M.zero b hb⟩

theorem Mid.put (M : Mid w T lo K z wr T' hs X ws os fr rs olds) (o : Nat) (ho : o < 58 ∨ 66 ≤ o) (ho2 : o < 148) (x : Value) : Mid w T lo K (fun i => if i = o then x else z i) (wr.setCell ⟨K, o, none⟩ x) T' hs X ws os fr rs olds := by
  obtain ⟨r, l, f⟩ := put2 M.rows M.kp o ho ho2 x
  refine ⟨r, l, M.frm.trans f fun b hb h => ?_, M.zero⟩
  intro e
  have := (M.zero b hb).2 e
  omega

theorem Mid.clear (M : Mid w T lo K z wr T' hs X ws os fr rs olds) {j o : Nat} (hj : j < 8) (ho : o = 58 + j) : Mid w T lo K z (wr.setCell ⟨K, o, none⟩ nil0) T' (hs.set j nil0) (X.set j []) ws os fr rs olds := by
  subst ho
  have f : Frm T' (fun t => t = 1) wr (wr.setCell ⟨K, 58 + j, none⟩ nil0) := by
    have := Frm.set (T := T') (w := wr) (K := K) (o := 58 + j) nil0
    rwa [M.rows.tK] at this
  refine ⟨M.rows.clear hj, M.kp.frm f (fun t ht => by omega) (fun _ _ => rfl), M.frm.trans f fun b hb h => ?_, M.zero⟩
  intro e
  have := (M.zero b hb).2 e
  omega

/-- A cell of an elder row. -/
theorem Mid.old (M : Mid w T lo K z wr T' hs X ws os fr rs olds) {g n c k : Nat} {e : TypeId} {xs : List Value} {u : Value} (h : ((Value.slice (some ⟨g, 0, none⟩) n c), e, xs) ∈ olds) (hu : xs[k]? = some u) : wr.cell? ⟨g, k, none⟩ = some u := by
  have := World.ownsRow.cells (M.kp.elder _ h).1 (g := g) rfl k u hu
  rw [add0] at this
  exact this

theorem Mid.write {id : Nat} (M : Mid w T lo K z wr T' hs X ws os fr rs olds) {g n c i : Nat} {xs : List Value} (hv : wr.ownsRow lo 71 7 (.slice (some ⟨g, 0, none⟩) n c) n xs) (ht : Tg wr T' (.slice (some ⟨g, 0, none⟩) n c) (11 + id)) (hL : ∀ x ∈ ws ++ rs ++ fr, x.id ≠ id) (hO : ∀ o ∈ os, o.tag ≠ 11 + id) (b : Value) :
    Mid w T lo K z (wr.setCell ⟨g, i, none⟩ b) T' hs X ws os fr rs olds ∧ (wr.setCell ⟨g, i, none⟩ b).ownsRow lo 71 7 (.slice (some ⟨g, 0, none⟩) n c) n (xs.set i b) ∧ Tg (wr.setCell ⟨g, i, none⟩ b) T' (.slice (some ⟨g, 0, none⟩) n c) (11 + id) := by
  have hg : T' g = 11 + id := (ht g rfl).2
  have f : Frm T' (fun t => t = 11 + id) wr (wr.setCell ⟨g, i, none⟩ b) := by
    have := Frm.set (T := T') (w := wr) (K := g) (o := i) b
    rwa [hg] at this
  refine ⟨⟨M.rows.frm f (fun t h1 h9 => by omega), M.kp.frmO f (by omega) (fun x hx e => hL x hx (by omega)) (fun o ho e => absurd e (hO o ho)) (fun _ _ => rfl), M.frm.trans f fun x hx h => ?_, M.zero⟩, (World.ownsRow.stored hv i b).1, ht.frm f (fun _ _ => rfl)⟩
  intro e
  have := (M.zero x hx).2 e
  omega
theorem rcs_put (L : List Ru) (i : Nat) (n : Int) (hi : i < L.length) : (((((((rcs L).set (i * 7) (.int .i64 (n))).set (i * 7 + 1) (.int .i64 0)).set (i * 7 + 2) (.string ⟨#[]⟩)).set (i * 7 + 3) (.int .i64 0)).set (i * 7 + 4) (.int .i64 0)).set (i * 7 + 5) (.int .i64 0)).set (i * 7 + 6) (.int .i64 0) = rcs (L.set i ⟨n, 0, ⟨#[]⟩, 0, 0, 0, 0⟩) := by
  obtain ⟨x, hx⟩ : ∃ x, L[i]? = some x := ⟨_, List.getElem?_eq_getElem hi⟩
  obtain ⟨q0, q1, q2, q3, q4, q5, q6⟩ := x
  unfold rcs
  have e0 := flat_set ic_size (f := ic) (j := 0) (y := .int .i64 (n)) (x' := ⟨n, q1, q2, q3, q4, q5, q6⟩) (L := L) hx (by omega) rfl
  rw [Nat.add_zero] at e0
  have e1 := flat_set ic_size (f := ic) (j := 1) (y := .int .i64 0) (x' := ⟨n, 0, q2, q3, q4, q5, q6⟩) (L := (L.set i ⟨n, q1, q2, q3, q4, q5, q6⟩)) (List.getElem?_set_self (by simpa using hi)) (by omega) rfl
  rw [List.set_set] at e1
  have e2 := flat_set ic_size (f := ic) (j := 2) (y := .string ⟨#[]⟩) (x' := ⟨n, 0, ⟨#[]⟩, q3, q4, q5, q6⟩) (L := (L.set i ⟨n, 0, q2, q3, q4, q5, q6⟩)) (List.getElem?_set_self (by simpa using hi)) (by omega) rfl
  rw [List.set_set] at e2
  have e3 := flat_set ic_size (f := ic) (j := 3) (y := .int .i64 0) (x' := ⟨n, 0, ⟨#[]⟩, 0, q4, q5, q6⟩) (L := (L.set i ⟨n, 0, ⟨#[]⟩, q3, q4, q5, q6⟩)) (List.getElem?_set_self (by simpa using hi)) (by omega) rfl
  rw [List.set_set] at e3
  have e4 := flat_set ic_size (f := ic) (j := 4) (y := .int .i64 0) (x' := ⟨n, 0, ⟨#[]⟩, 0, 0, q5, q6⟩) (L := (L.set i ⟨n, 0, ⟨#[]⟩, 0, q4, q5, q6⟩)) (List.getElem?_set_self (by simpa using hi)) (by omega) rfl
  rw [List.set_set] at e4
  have e5 := flat_set ic_size (f := ic) (j := 5) (y := .int .i64 0) (x' := ⟨n, 0, ⟨#[]⟩, 0, 0, 0, q6⟩) (L := (L.set i ⟨n, 0, ⟨#[]⟩, 0, 0, q5, q6⟩)) (List.getElem?_set_self (by simpa using hi)) (by omega) rfl
  rw [List.set_set] at e5
  have e6 := flat_set ic_size (f := ic) (j := 6) (y := .int .i64 0) (x' := ⟨n, 0, ⟨#[]⟩, 0, 0, 0, 0⟩) (L := (L.set i ⟨n, 0, ⟨#[]⟩, 0, 0, 0, q6⟩)) (List.getElem?_set_self (by simpa using hi)) (by omega) rfl
  rw [List.set_set] at e6
  rw [e0, e1, e2, e3, e4, e5, e6]

/-- A list beside the others. -/
def Sd (wr : World) (lo : Nat) (T' : Nat → Nat) (v : Value) (c : List Ru) (t : Nat) : Prop := OwnsR wr lo v c ∧ Tg wr T' v t

theorem Got.side {j o n t : Nat} {u : Value} {w1 : World} {v' : Value} {w' : World} (G : Got wr lo K T' hs X z j o n u w1 v' w') {v : Value} {c : List Ru} (h : Sd wr lo T' v c t) (ht : 10 ≤ t) : Sd (w'.setCell ⟨K, o, none⟩ v') lo (up T' w1.heap.size (2 + j)) v c t := by
  have := G.lt
  have l := G.le
  exact ⟨rowB h.1 (h.2.same G.frm (by omega)), h.2.frm G.frm fun b hb => up_old (by omega)⟩

theorem Sd.up {v : Value} {c : List Ru} {t : Nat} (h : Sd wr lo T' v c t) {wn : World} (hb : Below wr.heap.size wr wn) : Sd wn lo T' v c t :=
  ⟨rowB h.1 fun b hb' => hb.block b (World.ownsRow.lt h.1 b hb').2, fun b hb' => ⟨Nat.lt_of_lt_of_le (h.2 b hb').1 hb.size, (h.2 b hb').2⟩⟩

theorem Sd.up10 {v : Value} {c : List Ru} {t : Nat} (h : Sd wr lo T' v c t) : Sd wr lo (upr T' wr.heap.size 10) v c t :=
  ⟨h.1, fun b hb => ⟨(h.2 b hb).1, by rw [upr_old (h.2 b hb).1]; exact (h.2 b hb).2⟩⟩

theorem Mid.zext (M : Mid w T lo K z wr T' hs X ws os fr rs olds) {z' : Nat → Value} (h : ∀ o, o < 148 → (o < 58 ∨ 66 ≤ o) → z o = z' o) : Mid w T lo K z' wr T' hs X ws os fr rs olds :=
  ⟨M.rows.zext h, M.kp, M.frm, M.zero⟩

/-- Only what the lists are is said anew. -/
theorem Mid.lists (M : Mid w T lo K z wr T' hs X ws os fr rs olds) {ws' : List (Lst Ru)} {os' : List (Bk.Ot Ru)} {fr' rs' : List (Lst Ru)} {olds' : List (Value × TypeId × List Value)} (k : Kp rcs 71 7 wr lo T' ws' os' fr' rs' olds') : Mid w T lo K z wr T' hs X ws' os' fr' rs' olds' :=
  ⟨M.rows, k, M.frm, M.zero⟩

def markB (mark i : Nat) : Ru := ⟨((mark + 3 * i : Nat) : Int), 0, ⟨#[]⟩, 0, 0, 0, 0⟩
def wrB (c : List Ru) (mark m : Nat) : List Ru := (List.range m).map (markB mark) ++ c.drop m

theorem wrB_len {c : List Ru} {mark m : Nat} (h : m ≤ c.length) : (wrB c mark m).length = c.length := by simp [wrB]; omega

theorem wrB_next {c : List Ru} {mark m : Nat} (h : m < c.length) : (wrB c mark m).set m (markB mark m) = wrB c mark (m + 1) := by
  unfold wrB
  rw [List.set_append_right _ _ (by simp)]
  simp only [List.length_map, List.length_range, Nat.sub_self, List.range_succ, List.map_append, List.map_cons, List.map_nil, List.append_assoc, List.singleton_append]
  rw [List.drop_eq_getElem_cons h, List.set_cons_zero]

/-- A list that is written full, up to m. -/
def WriteAt (z0 : Nat → Value) (w : World) (T : Nat → Nat) (lo K turn seen : Nat) (wi : World) (T1 : Nat → Nat) (hs : List Value) (X : List (List Value)) (ws : List (Lst Ru)) (os : List (Bk.Ot Ru)) (fr rs : List (Lst Ru)) (olds : List (Value × TypeId × List Value)) (v : Value) (c : List Ru) (mark id m : Nat) : Prop :=
  Mid w T lo K (zB z0 turn 0 seen) wi T1 hs X ws os fr rs olds ∧ Sd wi lo T1 v (wrB c mark m) (11 + id)

theorem WriteAt.cell {turn seen : Nat} {c : List Ru} {mark id m n k : Nat} {p : Option Addr} (h : WriteAt z0 w T lo K turn seen wr T' hs X ws os fr rs olds (.slice p n k) c mark id m) (hm : m < c.length) :
    ∃ g, p = some ⟨g, 0, none⟩ ∧ (∃ r : Ru, Lies wr g (m * 7) (ic r)) ∧ (∀ o, wr.frozen? ⟨g, o, none⟩ = false) := by
  have ho := h.2.1
  have hl : (wrB c mark m).length = c.length := wrB_len (by omega)
  obtain ⟨r, hr⟩ : ∃ r, (wrB c mark m)[m]? = some r := ⟨_, List.getElem?_eq_getElem (by rw [hl]; exact hm)⟩
  obtain ⟨h1, h2 | ⟨g, cap, cur, hv, hg, hh, hn, _⟩⟩ := ho
  · rw [hl] at h2; omega
  · injection hv with e1 e2 e3
    refine ⟨g, e1, ⟨r, fun j u hj => ?_⟩, fun o => by simp [World.frozen?, hh]⟩
    have hj' := (Array.getElem?_eq_some_iff.1 hj).1
    rw [ic_size] at hj'
    subst e1 e2 e3
    have := World.ownsRow.cells h.2.1 (g := g) rfl (m * 7 + j) u (by unfold rcs; rw [flat_at ic_size hr hj']; exact hj)
    rwa [add0] at this

theorem WriteAt.next {turn seen : Nat} {c : List Ru} {mark id m n k g : Nat} (h : WriteAt z0 w T lo K turn seen wr T' hs X ws os fr rs olds (.slice (some ⟨g, 0, none⟩) n k) c mark id m) (hm : m < c.length) (hL : ∀ x ∈ ws ++ rs ++ fr, x.id ≠ id) (hO : ∀ o ∈ os, o.tag ≠ 11 + id) :
    WriteAt z0 w T lo K turn seen (((((((wr.setCell ⟨g, m * 7, none⟩ (.int .i64 (((mark + 3 * m : Nat) : Int)))).setCell ⟨g, m * 7 + 1, none⟩ (.int .i64 0)).setCell ⟨g, m * 7 + 2, none⟩ (.string ⟨#[]⟩)).setCell ⟨g, m * 7 + 3, none⟩ (.int .i64 0)).setCell ⟨g, m * 7 + 4, none⟩ (.int .i64 0)).setCell ⟨g, m * 7 + 5, none⟩ (.int .i64 0)).setCell ⟨g, m * 7 + 6, none⟩ (.int .i64 0)) T' hs X ws os fr rs olds (.slice (some ⟨g, 0, none⟩) n k) c mark id (m + 1) := by
  have hl : (wrB c mark m).length = c.length := wrB_len (by omega)
  have h0 := h.2.1
  have hn : (wrB c mark m).length = n := by
    obtain ⟨_, h2 | ⟨_, _, _, hv, _⟩⟩ := h0
    · cases h2.1
    · injection hv with _ e _; exact e.symm
  have h0' : wr.ownsRow lo 71 7 (.slice (some ⟨g, 0, none⟩) n k) n (rcs (wrB c mark m)) := by have := h.2.1; unfold OwnsR at this; rw [hn] at this; exact this
  obtain ⟨aa0, bb0, cc0⟩ := Mid.write h.1 h0' h.2.2 hL hO (i := m * 7) (.int .i64 (((mark + 3 * m : Nat) : Int)))
  obtain ⟨aa1, bb1, cc1⟩ := Mid.write aa0 bb0 cc0 hL hO (i := m * 7 + 1) (.int .i64 0)
  obtain ⟨aa2, bb2, cc2⟩ := Mid.write aa1 bb1 cc1 hL hO (i := m * 7 + 2) (.string ⟨#[]⟩)
  obtain ⟨aa3, bb3, cc3⟩ := Mid.write aa2 bb2 cc2 hL hO (i := m * 7 + 3) (.int .i64 0)
  obtain ⟨aa4, bb4, cc4⟩ := Mid.write aa3 bb3 cc3 hL hO (i := m * 7 + 4) (.int .i64 0)
  obtain ⟨aa5, bb5, cc5⟩ := Mid.write aa4 bb4 cc4 hL hO (i := m * 7 + 5) (.int .i64 0)
  obtain ⟨aa6, bb6, cc6⟩ := Mid.write aa5 bb5 cc5 hL hO (i := m * 7 + 6) (.int .i64 0)
  have e := rcs_put (wrB c mark m) m ((mark + 3 * m : Nat) : Int) (by rw [hl]; exact hm)
  have e3 : (wrB c mark m).set m (markB mark m) = wrB c mark (m + 1) := wrB_next hm
  unfold markB at e3
  rw [e3] at e
  rw [e] at bb6
  refine ⟨aa6, ?_, cc6⟩
  unfold OwnsR
  rw [wrB_len (by omega), ← hl, hn]
  exact bb6

theorem WriteAt.up {turn seen : Nat} {v : Value} {c : List Ru} {mark id m : Nat} (h : WriteAt z0 w T lo K turn seen wr T' hs X ws os fr rs olds v c mark id m) {wn : World} (hb : Below wr.heap.size wr wn) : WriteAt z0 w T lo K turn seen wn T' hs X ws os fr rs olds v c mark id m :=
  ⟨h.1.up hb, h.2.up hb⟩

theorem Mid.bel (M : Mid w T lo K z wr T' hs X ws os fr rs olds) (hlo : lo ≤ w.heap.size) : Below lo w wr := M.frm.below fun x hx =>
  ⟨by omega, fun h => h ((M.zero x (by omega)).1 (M.rows.low x hx))⟩

theorem Mid.start {turn seen : Nat} {hO hT hW hN hF hM hD hR : Value} (bk : BookSt z0 w lo K T [hO, hT, hW, hN, hF, hM, hD, hR] ws os turn 0 seen) :
    Mid w T lo K (zB z0 turn 0 seen) ((((w.setCell ⟨K, 60, none⟩ nil0).setCell ⟨K, 61, none⟩ nil0).setCell ⟨K, 63, none⟩ nil0).setCell ⟨K, 64, none⟩ nil0) (aside T) [hO, hT, nil0, nil0, hF, nil0, nil0, hR] (XB [] os []) [] os [] ws
      [(hW, 50, ws.map (·.v)), (hN, 50, ws.map (·.nv)), (hM, 3, ws.map (fun x => .int .i64 x.mark)), (hD, 3, ws.map (fun x => .int .i64 x.due))] := by
  have M0 : Mid w T lo K (zB z0 turn 0 seen) w T [hO, hT, hW, hN, hF, hM, hD, hR] (XB ws os []) ws os [] [] [] := ⟨bk.rows, bk.kp, Frm.refl _ _ _, fun _ _ => Iff.rfl⟩
  have M4 := (((M0.clear (j := 2) (o := 60) (by decide) rfl).clear (j := 3) (o := 61) (by decide) rfl).clear (j := 5) (o := 63) (by decide) rfl).clear (j := 6) (o := 64) (by decide) rfl
  have old : ∀ b, b ≠ K → ((((w.setCell ⟨K, 60, none⟩ nil0).setCell ⟨K, 61, none⟩ nil0).setCell ⟨K, 63, none⟩ nil0).setCell ⟨K, 64, none⟩ nil0).heap[b]? = w.heap[b]? := fun b hb => (setB hb).trans ((setB hb).trans ((setB hb).trans (setB hb)))
  have sz : ((((w.setCell ⟨K, 60, none⟩ nil0).setCell ⟨K, 61, none⟩ nil0).setCell ⟨K, 63, none⟩ nil0).setCell ⟨K, 64, none⟩ nil0).heap.size = w.heap.size := by simp only [sizeS]
  generalize hw4 : (((w.setCell ⟨K, 60, none⟩ nil0).setCell ⟨K, 61, none⟩ nil0).setCell ⟨K, 63, none⟩ nil0).setCell ⟨K, 64, none⟩ nil0 = w4 at *
  clear hw4
  have R := bk.rows
  have old' : ∀ j, j < 8 → (j = 2 ∨ j = 3 ∨ j = 5 ∨ j = 6) → ∀ v xs, [hO, hT, hW, hN, hF, hM, hD, hR].getD j nil0 = v → (XB ws os []).getD j [] = xs → w4.ownsRow lo (tyB j) 1 v xs.length xs ∧ Tg w4 (aside T) v 10 := by
    intro j hj h4 v xs hv hx
    subst hv hx
    have r := R.row j hj
    have t := R.tag j hj
    refine ⟨rowB r fun b hb => old b fun e => ?_, fun b hb => ⟨by rw [sz]; exact (r.lt b hb).2, ?_⟩⟩
    · have h1 := t b hb
      have h2 := R.tK
      rw [e] at h1; omega
    · have h1 := t b hb
      unfold aside; rw [if_pos]; omega
  have k := M4.kp.begin (olds := [(hW, 50, ws.map (·.v)), (hN, 50, ws.map (·.nv)), (hM, 3, ws.map (fun x => .int .i64 x.mark)), (hD, 3, ws.map (fun x => .int .i64 x.due))]) (by
    intro x hx
    simp only [List.mem_cons, List.not_mem_nil, or_false] at hx
    rcases hx with rfl | rfl | rfl | rfl
    · exact old' 2 (by decide) (by decide) _ _ rfl rfl
    · exact old' 3 (by decide) (by decide) _ _ rfl rfl
    · exact old' 5 (by decide) (by decide) _ _ rfl rfl
    · exact old' 6 (by decide) (by decide) _ _ rfl rfl)
  have r4 := M4.rows
  refine ⟨?_, k, M4.frm, fun b hb => aside_zero⟩
  have r5 : Bk.Rows 58 tyB w4 lo K T [hO, hT, nil0, nil0, hF, nil0, nil0, hR] (XB [] os []) (zB z0 turn 0 seen) := r4
  refine r5.retag (by unfold aside; rw [r5.tK, if_neg (by omega)]) (fun b hb => aside_zero.2 (r5.low b hb)) fun j hj b _ he => ?_
  have t := r5.tag j hj b he
  have hne : j ≠ 2 ∧ j ≠ 3 ∧ j ≠ 5 ∧ j ≠ 6 := by
    refine ⟨?_, ?_, ?_, ?_⟩ <;> (rintro rfl; simp [Value.ownBlock] at he)
  unfold aside
  rw [t, if_neg (by omega)]
end
end Go.Proofs.YtpenaeoodfgmpaaGreatDoor.KI
