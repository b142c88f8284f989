import Derived.Test.YtbjjbgaomoihaaaGreatDoorBBkTexts
namespace Go.Proofs.YtbjjbgaomoihaaaGreatDoor.Bk
open Go.RowKit Bk
theorem add0 (g j : Nat) : (⟨g, 0, none⟩ : Addr).add j = ⟨g, j, none⟩ := by rw [Addr.add_lit, Nat.zero_add]
structure Mid (w : World) (T : Nat → Nat) (lo K : Nat) (z : Nat → Value) (wr : World) (T' : Nat → Nat) (hs : List Value) (X : List (List Value)) (ws : List (Lst ByteArray)) (os : List (Bk.Ot ByteArray)) (fr rs : List (Lst ByteArray)) (olds : List (Value × TypeId × List Value)) : Prop where
  rows : Bk.Rows 22 tyB wr lo K T' hs X z
  kp : Kp Value.string 9 wr lo T' ws os fr rs olds
  frm : Frm T (fun t => t ≠ 0) w wr
  zero : ∀ b, b < w.heap.size → (T' b = 0 ↔ T b = 0)
section
variable {w : World} {T : Nat → Nat} {lo K : Nat} {z : Nat → Value} {wr : World} {T' : Nat → Nat} {hs : List Value} {X : List (List Value)} {ws : List (Lst ByteArray)} {os : List (Bk.Ot ByteArray)} {fr rs : List (Lst ByteArray)} {olds : List (Value × TypeId × List Value)}
theorem Mid.step (M : Mid w T lo K z wr T' hs X ws os fr rs olds) {j o n : Nat} {u : Value} {w1 : World} {v' : Value} {w' : World} (G : Got wr lo K T' hs X z j o n u w1 v' w') :
    Mid w T lo K z (w'.setCell ⟨K, o, none⟩ v') (up T' w1.heap.size (2 + j)) (hs.set j v') (X.set j (X.getD j [] ++ [u])) ws os fr rs olds := by
  have s := M.frm.size
  have l := G.le
  refine ⟨G.rows, G.kp M.kp, M.frm.trans G.frm fun b hb h => ?_, fun b hb => ?_⟩
  · intro e
    have := (M.zero b hb).2 e
    omega
  · rw [up_old (by omega)]
    exact M.zero b hb
theorem Mid.drew (M : Mid w T lo K z wr T' hs X ws os fr rs olds) : Mid w T lo K z wr.drew T' hs X ws os fr rs olds := by
  have f : Frm T' (fun _ => False) wr wr.drew := ⟨rfl, rfl, rfl, Nat.le_refl _, fun _ _ _ => rfl⟩
  exact ⟨M.rows.frm f (fun _ _ _ h => h), M.kp.frm f (fun _ _ h => h) (fun _ _ => rfl), M.frm.trans f (fun _ _ h => h.elim), M.zero⟩
theorem Mid.up (M : Mid w T lo K z wr T' hs X ws os fr rs olds) {wn : World} (hb : Below wr.heap.size wr wn) : Mid w T lo K z wn T' hs X ws os fr rs olds := by
  have f : Frm T' (fun _ => False) wr wn := ⟨hb.os, hb.tape, hb.output, hb.size, fun b h _ => hb.block b h⟩
  exact ⟨M.rows.frm f (fun _ _ _ h => h), M.kp.frm f (fun _ _ h => h) (fun _ _ => rfl), M.frm.trans f (fun _ _ h => h.elim), M.zero⟩
theorem Mid.up10 (M : Mid w T lo K z wr T' hs X ws os fr rs olds) : Mid w T lo K z wr (upr T' wr.heap.size 10) hs X ws os fr rs olds :=
  ⟨M.rows.ext fun b hb => upr_old hb, M.kp.frm (Frm.refl _ (fun _ => False) _) (fun _ _ h => h) fun b hb => upr_old hb, M.frm, fun b hb => by rw [upr_old (by have := M.frm.size; omega)]; exact M.zero b hb⟩
theorem Mid.put (M : Mid w T lo K z wr T' hs X ws os fr rs olds) (o : Nat) (ho : o < 22 ∨ 30 ≤ o) (ho2 : o < 148) (x : Value) : Mid w T lo K (fun i => if i = o then x else z i) (wr.setCell ⟨K, o, none⟩ x) T' hs X ws os fr rs olds := by
  obtain ⟨r, l, f⟩ := put2 M.rows M.kp o ho ho2 x
  refine ⟨r, l, M.frm.trans f fun b hb h => ?_, M.zero⟩
  intro e
  have := (M.zero b hb).2 e
  omega
theorem Mid.clear (M : Mid w T lo K z wr T' hs X ws os fr rs olds) {j o : Nat} (hj : j < 8) (ho : o = 22 + j) : Mid w T lo K z (wr.setCell ⟨K, o, none⟩ nil0) T' (hs.set j nil0) (X.set j []) ws os fr rs olds := by
  subst ho
  have f : Frm T' (fun t => t = 1) wr (wr.setCell ⟨K, 22 + j, none⟩ nil0) := by
    have := Frm.set (T := T') (w := wr) (K := K) (o := 22 + j) nil0
    rwa [M.rows.tK] at this
  refine ⟨M.rows.clear hj, M.kp.frm f (fun t ht => by omega) (fun _ _ => rfl), M.frm.trans f fun b hb h => ?_, M.zero⟩
  intro e
  have := (M.zero b hb).2 e
  omega
theorem Mid.old (M : Mid w T lo K z wr T' hs X ws os fr rs olds) {g n c k : Nat} {e : TypeId} {xs : List Value} {u : Value} (h : ((Value.slice (some ⟨g, 0, none⟩) n c), e, xs) ∈ olds) (hu : xs[k]? = some u) : wr.cell? ⟨g, k, none⟩ = some u := by
  have := World.ownsRow.cells (M.kp.elder _ h).1 (g := g) rfl k u hu
  rw [add0] at this
  exact this
theorem Mid.write {id : Nat} (M : Mid w T lo K z wr T' hs X ws os fr rs olds) {g n c i : Nat} {l : List ByteArray} (hv : OwnsT wr lo (.slice (some ⟨g, 0, none⟩) n c) l) (ht : Tg wr T' (.slice (some ⟨g, 0, none⟩) n c) (11 + id)) (hL : ∀ x ∈ ws ++ rs ++ fr, x.id ≠ id) (hO : ∀ o ∈ os, o.tag ≠ 11 + id) (b : ByteArray) :
    Mid w T lo K z (wr.setCell ⟨g, i, none⟩ (.string b)) T' hs X ws os fr rs olds ∧ OwnsT (wr.setCell ⟨g, i, none⟩ (.string b)) lo (.slice (some ⟨g, 0, none⟩) n c) (l.set i b) ∧ Tg (wr.setCell ⟨g, i, none⟩ (.string b)) T' (.slice (some ⟨g, 0, none⟩) n c) (11 + id) := by
  have hg : T' g = 11 + id := (ht g rfl).2
  have f : Frm T' (fun t => t = 11 + id) wr (wr.setCell ⟨g, i, none⟩ (.string b)) := by
    have := Frm.set (T := T') (w := wr) (K := g) (o := i) (.string b)
    rwa [hg] at this
  refine ⟨⟨M.rows.frm f (fun t h1 h9 => by omega), M.kp.frmO f (by omega) (fun x hx e => hL x hx (by omega)) (fun o ho e => absurd e (hO o ho)) (fun _ _ => rfl), M.frm.trans f fun x hx h => ?_, M.zero⟩, ?_, ht.frm f (fun _ _ => rfl)⟩
  · intro e
    have := (M.zero x hx).2 e
    omega
  · obtain ⟨h1, h | ⟨g', cap, cur, hv', hg', hh, hn, hm, hs', htk⟩⟩ := hv
    · cases h.1
    · injection hv' with e1 e2 e3
      injection e1 with e1
      injection e1 with e1
      subst e1 e2 e3
      have hl : (l.set i b).length = l.length := by simp
      unfold OwnsT
      rw [hl]
      refine ⟨by simp, .inr ⟨g, c, cur.setIfInBounds i (.string b), rfl, hg', ?_, hn, hm, by simpa using hs', ?_⟩⟩
      · simp only [World.setCell, Array.getElem?_modify, if_true, hh]
        simp
      · simp only [Nat.mul_one] at htk ⊢
        rw [List.map_set, ← htk, Array.toList_setIfInBounds, List.take_set]
def Sd (wr : World) (lo : Nat) (T' : Nat → Nat) (v : Value) (c : List ByteArray) (t : Nat) : Prop := OwnsT wr lo v c ∧ Tg wr T' v t
theorem Got.side {j o n t : Nat} {u : Value} {w1 : World} {v' : Value} {w' : World} (G : Got wr lo K T' hs X z j o n u w1 v' w') {v : Value} {c : List ByteArray} (h : Sd wr lo T' v c t) (ht : 10 ≤ t) : Sd (w'.setCell ⟨K, o, none⟩ v') lo (up T' w1.heap.size (2 + j)) v c t := by
  have := G.lt
  have l := G.le
  exact ⟨rowB h.1 (h.2.same G.frm (by omega)), h.2.frm G.frm fun b hb => up_old (by omega)⟩
theorem Sd.up {v : Value} {c : List ByteArray} {t : Nat} (h : Sd wr lo T' v c t) {wn : World} (hb : Below wr.heap.size wr wn) : Sd wn lo T' v c t :=
  ⟨rowB h.1 fun b hb' => hb.block b (World.ownsRow.lt h.1 b hb').2, fun b hb' => ⟨Nat.lt_of_lt_of_le (h.2 b hb').1 hb.size, (h.2 b hb').2⟩⟩
theorem Sd.up10 {v : Value} {c : List ByteArray} {t : Nat} (h : Sd wr lo T' v c t) : Sd wr lo (upr T' wr.heap.size 10) v c t :=
  ⟨h.1, fun b hb => ⟨(h.2 b hb).1, by rw [upr_old (h.2 b hb).1]; exact (h.2 b hb).2⟩⟩
theorem Mid.zext (M : Mid w T lo K z wr T' hs X ws os fr rs olds) {z' : Nat → Value} (h : ∀ o, o < 148 → (o < 22 ∨ 30 ≤ o) → z o = z' o) : Mid w T lo K z' wr T' hs X ws os fr rs olds :=
  ⟨M.rows.zext h, M.kp, M.frm, M.zero⟩
theorem Mid.lists (M : Mid w T lo K z wr T' hs X ws os fr rs olds) {ws' : List (Lst ByteArray)} {os' : List (Bk.Ot ByteArray)} {fr' rs' : List (Lst ByteArray)} {olds' : List (Value × TypeId × List Value)} (k : Kp Value.string 9 wr lo T' ws' os' fr' rs' olds') : Mid w T lo K z wr T' hs X ws' os' fr' rs' olds' :=
  ⟨M.rows, k, M.frm, M.zero⟩
def numT (n : Nat) : ByteArray := ⟨(Lib.itoa n).toArray⟩
def Tb (lo : Nat) (w : World) : Prop := ∀ (n : Nat) (w' : World), n ≤ 1000000000 → Below lo w w' → Calls Tryz.prog 148 #[.int .i64 n] w' fun e w'' => e = .returned (.string (numT n)) ∧ Below w'.heap.size w' w''
theorem Tb.on {lo : Nat} {w w1 : World} (h : Tb lo w) (hb : Below lo w w1) : Tb lo w1 := fun n w' hn h' => h n w' hn (hb.trans h')
def markB (mark i : Nat) : ByteArray := numT (mark + 3 * i)
def wrB (c : List ByteArray) (mark m : Nat) : List ByteArray := (List.range m).map (markB mark) ++ c.drop m
theorem wrB_len {c : List ByteArray} {mark m : Nat} (h : m ≤ c.length) : (wrB c mark m).length = c.length := by simp [wrB]; omega
theorem wrB_next {c : List ByteArray} {mark m : Nat} (h : m < c.length) : (wrB c mark m).set m (markB mark m) = wrB c mark (m + 1) := by
  unfold wrB
  rw [List.set_append_right _ _ (by simp)]
  simp only [List.length_map, List.length_range, Nat.sub_self, List.range_succ, List.map_append, List.map_cons, List.map_nil, List.append_assoc, List.singleton_append]
  rw [List.drop_eq_getElem_cons h, List.set_cons_zero]
def WriteAt (w : World) (T : Nat → Nat) (lo K turn seen : Nat) (wi : World) (T1 : Nat → Nat) (hs : List Value) (X : List (List Value)) (ws : List (Lst ByteArray)) (os : List (Bk.Ot ByteArray)) (fr rs : List (Lst ByteArray)) (olds : List (Value × TypeId × List Value)) (v : Value) (c : List ByteArray) (mark id m : Nat) : Prop :=
  Mid w T lo K (zB turn 0 seen) wi T1 hs X ws os fr rs olds ∧ Sd wi lo T1 v (wrB c mark m) (11 + id)
theorem WriteAt.cell {turn seen : Nat} {c : List ByteArray} {mark id m n k : Nat} {p : Option Addr} (h : WriteAt w T lo K turn seen wr T' hs X ws os fr rs olds (.slice p n k) c mark id m) (hm : m < c.length) :
    ∃ g, p = some ⟨g, 0, none⟩ ∧ (∃ b, wr.cell? ⟨g, m, none⟩ = some (.string b)) ∧ wr.frozen? ⟨g, m, none⟩ = false := by
  have ho := h.2.1
  have hl : (wrB c mark m).length = c.length := wrB_len (by omega)
  obtain ⟨h1, h2 | ⟨g, cap, cur, hv, hg, hh, hn, hr⟩⟩ := ho
  · rw [hl] at h2; omega
  · injection hv with e1 e2 e3
    refine ⟨g, e1, ⟨(wrB c mark m).getD m ByteArray.empty, ?_⟩, by simp [World.frozen?, hh]⟩
    subst e1 e2 e3
    have := World.ownsRow.cells h.2.1 (g := g) rfl m (.string ((wrB c mark m).getD m ByteArray.empty)) (by
      rw [List.getElem?_map, List.getD, List.getElem?_eq_getElem (by rw [hl]; exact hm)]
      rfl)
    rw [add0] at this
    exact this
theorem WriteAt.next {turn seen : Nat} {c : List ByteArray} {mark id m n k g : Nat} (h : WriteAt w T lo K turn seen wr T' hs X ws os fr rs olds (.slice (some ⟨g, 0, none⟩) n k) c mark id m) (hm : m < c.length) (hL : ∀ x ∈ ws ++ rs ++ fr, x.id ≠ id) (hO : ∀ o ∈ os, o.tag ≠ 11 + id) :
    WriteAt w T lo K turn seen (wr.setCell ⟨g, m, none⟩ (.string (markB mark m))) T' hs X ws os fr rs olds (.slice (some ⟨g, 0, none⟩) n k) c mark id (m + 1) := by
  obtain ⟨a, b, c'⟩ := h.1.write h.2.1 h.2.2 hL hO (i := m) (markB mark m)
  rw [wrB_next hm] at b
  exact ⟨a, b, c'⟩
theorem WriteAt.up {turn seen : Nat} {v : Value} {c : List ByteArray} {mark id m : Nat} (h : WriteAt w T lo K turn seen wr T' hs X ws os fr rs olds v c mark id m) {wn : World} (hb : Below wr.heap.size wr wn) : WriteAt w T lo K turn seen wn T' hs X ws os fr rs olds v c mark id m :=
  ⟨h.1.up hb, h.2.up hb⟩
theorem Mid.bel (M : Mid w T lo K z wr T' hs X ws os fr rs olds) (hlo : lo ≤ w.heap.size) : Below lo w wr := M.frm.below fun x hx =>
  ⟨by omega, fun h => h ((M.zero x (by omega)).1 (M.rows.low x hx))⟩
theorem Mid.start {turn seen : Nat} {hO hT hW hN hF hM hD hR : Value} (bk : BookSt w lo K T [hO, hT, hW, hN, hF, hM, hD, hR] ws os turn 0 seen) :
    Mid w T lo K (zB turn 0 seen) ((((w.setCell ⟨K, 24, none⟩ nil0).setCell ⟨K, 25, none⟩ nil0).setCell ⟨K, 27, none⟩ nil0).setCell ⟨K, 28, none⟩ nil0) (aside T) [hO, hT, nil0, nil0, hF, nil0, nil0, hR] (XB [] os []) [] os [] ws
      [(hW, 56, ws.map (·.v)), (hN, 56, ws.map (·.nv)), (hM, 3, ws.map (fun x => .int .i64 x.mark)), (hD, 3, ws.map (fun x => .int .i64 x.due))] := by
  have M0 : Mid w T lo K (zB turn 0 seen) w T [hO, hT, hW, hN, hF, hM, hD, hR] (XB ws os []) ws os [] [] [] := ⟨bk.rows, bk.kp, Frm.refl _ _ _, fun _ _ => Iff.rfl⟩
  have M4 := (((M0.clear (j := 2) (o := 24) (by decide) rfl).clear (j := 3) (o := 25) (by decide) rfl).clear (j := 5) (o := 27) (by decide) rfl).clear (j := 6) (o := 28) (by decide) rfl
  have old : ∀ b, b ≠ K → ((((w.setCell ⟨K, 24, none⟩ nil0).setCell ⟨K, 25, none⟩ nil0).setCell ⟨K, 27, none⟩ nil0).setCell ⟨K, 28, none⟩ nil0).heap[b]? = w.heap[b]? := fun b hb => (setB hb).trans ((setB hb).trans ((setB hb).trans (setB hb)))
  have sz : ((((w.setCell ⟨K, 24, none⟩ nil0).setCell ⟨K, 25, none⟩ nil0).setCell ⟨K, 27, none⟩ nil0).setCell ⟨K, 28, none⟩ nil0).heap.size = w.heap.size := by simp only [sizeS]
  generalize hw4 : (((w.setCell ⟨K, 24, none⟩ nil0).setCell ⟨K, 25, none⟩ nil0).setCell ⟨K, 27, none⟩ nil0).setCell ⟨K, 28, none⟩ nil0 = w4 at *
  clear hw4
  have R := bk.rows
  have old' : ∀ j, j < 8 → (j = 2 ∨ j = 3 ∨ j = 5 ∨ j = 6) → ∀ v xs, [hO, hT, hW, hN, hF, hM, hD, hR].getD j nil0 = v → (XB ws os []).getD j [] = xs → w4.ownsRow lo (tyB j) 1 v xs.length xs ∧ Tg w4 (aside T) v 10 := by
    intro j hj h4 v xs hv hx
    subst hv hx
    have r := R.row j hj
    have t := R.tag j hj
    refine ⟨rowB r fun b hb => old b fun e => ?_, fun b hb => ⟨by rw [sz]; exact (r.lt b hb).2, ?_⟩⟩
    · have h1 := t b hb
      have h2 := R.tK
      rw [e] at h1; omega
    · have h1 := t b hb
      unfold aside; rw [if_pos]; omega
  have k := M4.kp.begin (olds := [(hW, 56, ws.map (·.v)), (hN, 56, ws.map (·.nv)), (hM, 3, ws.map (fun x => .int .i64 x.mark)), (hD, 3, ws.map (fun x => .int .i64 x.due))]) (by
    intro x hx
    simp only [List.mem_cons, List.not_mem_nil, or_false] at hx
    rcases hx with rfl | rfl | rfl | rfl
    · exact old' 2 (by decide) (by decide) _ _ rfl rfl
    · exact old' 3 (by decide) (by decide) _ _ rfl rfl
    · exact old' 5 (by decide) (by decide) _ _ rfl rfl
    · exact old' 6 (by decide) (by decide) _ _ rfl rfl)
  have r4 := M4.rows
  refine ⟨?_, k, M4.frm, fun b hb => aside_zero⟩
  have r5 : Bk.Rows 22 tyB w4 lo K T [hO, hT, nil0, nil0, hF, nil0, nil0, hR] (XB [] os []) (zB turn 0 seen) := r4
  refine r5.retag (by unfold aside; rw [r5.tK, if_neg (by omega)]) (fun b hb => aside_zero.2 (r5.low b hb)) fun j hj b _ he => ?_
  have t := r5.tag j hj b he
  have hne : j ≠ 2 ∧ j ≠ 3 ∧ j ≠ 5 ∧ j ≠ 6 := by
    refine ⟨?_, ?_, ?_, ?_⟩ <;> (rintro rfl; simp [Value.ownBlock] at he)
  unfold aside
  rw [t, if_neg (by omega)]
end
end Go.Proofs.YtbjjbgaomoihaaaGreatDoor.Bk
