import Derived.Below
import Derived.Maps.AppendAt
namespace Go.Proofs.YtbjjbgaomoihaaaGreatDoor.Bk.Bk
open Go Go.RowKit
abbrev nil0 : Value := .slice none 0 0
def up (T : Nat → Nat) (n t : Nat) : Nat → Nat := fun b => if b = n then t else T b
theorem up_old {T : Nat → Nat} {n t b : Nat} (h : b < n) : up T n t b = T b := by simp [up, Nat.ne_of_lt h]
theorem up_new {T : Nat → Nat} {n t : Nat} : up T n t n = t := by simp [up]
theorem cellB {w w' : World} {R o : Nat} {x : Value} (h : w'.heap[R]? = w.heap[R]?) (hc : w.cell? ⟨R, o, none⟩ = some x) : w'.cell? ⟨R, o, none⟩ = some x := by
  simp only [World.cell?, h] at hc ⊢
  exact hc
theorem frozenB {w w' : World} {R : Nat} (h : w'.heap[R]? = w.heap[R]?) (hf : ∀ o, w.frozen? ⟨R, o, none⟩ = false) : ∀ o, w'.frozen? ⟨R, o, none⟩ = false := by
  intro o
  have := hf o
  simp only [World.frozen?, h] at this ⊢
  exact this
theorem setB {w : World} {R o b : Nat} {x : Value} (h : b ≠ R) : (w.setCell ⟨R, o, none⟩ x).heap[b]? = w.heap[b]? := by
  simp only [World.setCell]
  rw [Array.getElem?_modify]
  simp [Ne.symm h]
theorem sizeS (w : World) (a : Addr) (x : Value) : (w.setCell a x).heap.size = w.heap.size := by simp [World.setCell]
theorem frozenS {w : World} {R r : Nat} {x : Value} (hf : ∀ o, w.frozen? ⟨R, o, none⟩ = false) : ∀ o, (w.setCell ⟨R, r, none⟩ x).frozen? ⟨R, o, none⟩ = false := by
  intro o
  have h := hf o
  simp only [World.frozen?, World.setCell, Array.getElem?_modify, if_true] at h ⊢
  cases hh : w.heap[R]? with
  | none => simp
  | some y =>
    rw [hh] at h
    cases y <;> simp_all
theorem rowB {w w' : World} {lo e n : Nat} {v : Value} {xs : List Value} (h : w.ownsRow lo e 1 v n xs) (hb : ∀ k, v.ownBlock = some k → w'.heap[k]? = w.heap[k]?) : w'.ownsRow lo e 1 v n xs := by
  obtain ⟨h1, h | ⟨g, cap, cur, hv, hg, hh, hr⟩⟩ := h
  · exact ⟨h1, .inl h⟩
  · subst hv
    exact ⟨h1, .inr ⟨g, cap, cur, rfl, hg, (hb g rfl).trans hh, hr⟩⟩
structure Frm (T : Nat → Nat) (S : Nat → Prop) (w w' : World) : Prop where
  os : w'.os = w.os
  tape : w'.tape = w.tape
  output : w'.output = w.output
  size : w.heap.size ≤ w'.heap.size
  block : ∀ b, b < w.heap.size → ¬ S (T b) → w'.heap[b]? = w.heap[b]?
theorem Frm.refl (T : Nat → Nat) (S : Nat → Prop) (w : World) : Frm T S w w := ⟨rfl, rfl, rfl, Nat.le_refl _, fun _ _ _ => rfl⟩
theorem Frm.trans {T T' : Nat → Nat} {S S' : Nat → Prop} {a b c : World} (h : Frm T S a b) (k : Frm T' S' b c) (hT : ∀ x, x < a.heap.size → S' (T' x) → S (T x)) : Frm T S a c :=
  ⟨k.os.trans h.os, k.tape.trans h.tape, k.output.trans h.output, Nat.le_trans h.size k.size, fun x hx hS =>
    (k.block x (Nat.lt_of_lt_of_le hx h.size) (fun e => hS (hT x hx e))).trans (h.block x hx hS)⟩
theorem Frm.mono {T T' : Nat → Nat} {S S' : Nat → Prop} {a b : World} (h : Frm T S a b) (hS : ∀ x, x < a.heap.size → S (T x) → S' (T' x)) : Frm T' S' a b :=
  ⟨h.os, h.tape, h.output, h.size, fun x hx hn => h.block x hx (fun e => hn (hS x hx e))⟩
theorem Frm.of_below {T : Nat → Nat} {S : Nat → Prop} {a b : World} (h : Below a.heap.size a b) : Frm T S a b := ⟨h.os, h.tape, h.output, h.size, fun x hx _ => h.block x hx⟩
theorem Frm.below {T : Nat → Nat} {S : Nat → Prop} {a b : World} {lo : Nat} (h : Frm T S a b) (hl : ∀ x, x < lo → x < a.heap.size ∧ ¬ S (T x)) : Below lo a b :=
  ⟨h.os, h.tape, h.output, h.size, fun x hx => h.block x (hl x hx).1 (hl x hx).2⟩
theorem Frm.set {T : Nat → Nat} {w : World} {K o : Nat} (x : Value) : Frm T (fun t => t = T K) w (w.setCell ⟨K, o, none⟩ x) :=
  ⟨rfl, rfl, rfl, by rw [sizeS]; exact Nat.le_refl _, fun b _ hb => setB (fun e => hb (by rw [e]))⟩
structure Rows (B : Nat) (ty : Nat → TypeId) (w : World) (lo K : Nat) (T : Nat → Nat) (hs : List Value) (X : List (List Value)) (z : Nat → Value) : Prop where
  ge : lo ≤ K
  lt : K < w.heap.size
  low : ∀ b, b < lo → T b = 0
  tK : T K = 1
  fz : ∀ o, w.frozen? ⟨K, o, none⟩ = false
  nh : hs.length = 8
  nX : X.length = 8
  cell : ∀ j, j < 8 → w.cell? ⟨K, B + j, none⟩ = some (hs.getD j nil0)
  row : ∀ j, j < 8 → w.ownsRow lo (ty j) 1 (hs.getD j nil0) (X.getD j []).length (X.getD j [])
  tag : ∀ j, j < 8 → ∀ b, (hs.getD j nil0).ownBlock = some b → T b = 2 + j
  rest : ∀ o, o < 148 → (o < B ∨ B + 8 ≤ o) → w.cell? ⟨K, o, none⟩ = some (z o)
section
variable {B : Nat} {ty : Nat → TypeId} {w : World} {lo K : Nat} {T : Nat → Nat} {hs : List Value} {X : List (List Value)} {z : Nat → Value}
theorem Rows.keep (R : Rows B ty w lo K T hs X z) {w' : World} (hsz : w.heap.size ≤ w'.heap.size) (h : ∀ b, b < w.heap.size → 1 ≤ T b → T b ≤ 9 → w'.heap[b]? = w.heap[b]?) : Rows B ty w' lo K T hs X z := by
  have hK := h K R.lt (by rw [R.tK]; omega) (by rw [R.tK]; omega)
  refine ⟨R.ge, Nat.lt_of_lt_of_le R.lt hsz, R.low, R.tK, frozenB hK R.fz, R.nh, R.nX, fun j hj => cellB hK (R.cell j hj), fun j hj => rowB (R.row j hj) fun k hk => ?_, R.tag, fun o h1 h2 => cellB hK (R.rest o h1 h2)⟩
  have ht := R.tag j hj k hk
  exact h k ((R.row j hj).lt k hk).2 (by omega) (by omega)
theorem Rows.frm (R : Rows B ty w lo K T hs X z) {S : Nat → Prop} {w' : World} (F : Frm T S w w') (hS : ∀ t, 1 ≤ t → t ≤ 9 → ¬ S t) : Rows B ty w' lo K T hs X z :=
  R.keep F.size fun b hb h1 h9 => F.block b hb (hS _ h1 h9)
theorem Rows.retag (R : Rows B ty w lo K T hs X z) {T' : Nat → Nat} (hK : T' K = 1) (hlow : ∀ b, b < lo → T' b = 0) (h : ∀ j, j < 8 → ∀ b, b < w.heap.size → (hs.getD j nil0).ownBlock = some b → T' b = 2 + j) : Rows B ty w lo K T' hs X z :=
  ⟨R.ge, R.lt, hlow, hK, R.fz, R.nh, R.nX, R.cell, R.row, fun j hj b hb => h j hj b ((R.row j hj).lt b hb).2 hb, R.rest⟩
theorem Rows.ext (R : Rows B ty w lo K T hs X z) {T' : Nat → Nat} (h : ∀ b, b < w.heap.size → T' b = T b) : Rows B ty w lo K T' hs X z :=
  R.retag (by rw [h K R.lt]; exact R.tK) (fun b hb => by rw [h b (by have := R.ge; have := R.lt; omega)]; exact R.low b hb) fun j hj b hb he => by rw [h b hb]; exact R.tag j hj b he
theorem Rows.put (R : Rows B ty w lo K T hs X z) (o : Nat) (ho : o < B ∨ B + 8 ≤ o) (ho2 : o < 148) (x : Value) : Rows B ty (w.setCell ⟨K, o, none⟩ x) lo K T hs X (fun i => if i = o then x else z i) := by
  refine ⟨R.ge, by rw [sizeS]; exact R.lt, R.low, R.tK, frozenS R.fz, R.nh, R.nX, fun j hj => ?_, fun j hj => rowB (R.row j hj) fun k hk => setB (fun e => ?_), R.tag, fun i h1 h2 => ?_⟩
  · exact (World.cell?_setCell_other _ _ _ _ (by simp; omega)).trans (R.cell j hj)
  · have := R.tag j hj k hk
    have h1 := R.tK
    rw [e] at this; omega
  · by_cases e : i = o
    · subst e
      simp only [if_true]
      exact World.cell?_setCell_same _ _ _ (R.rest i h1 h2)
    · simp only [if_neg e]
      exact (World.cell?_setCell_other _ _ _ _ (by simp; omega)).trans (R.rest i h1 h2)
theorem getD_set {α : Type} (l : List α) (j i : Nat) (v d : α) (hj : j < l.length) : (l.set j v).getD i d = if i = j then v else l.getD i d := by
  by_cases e : i = j
  · subst e; simp [List.getD, hj]
  · simp [List.getD, e, Ne.symm e]
theorem Rows.grow (R : Rows B ty w lo K T hs X z) {j : Nat} (hj : j < 8) {w1 w2 : World} {v' : Value} {xs' : List Value} (hb : Below w.heap.size w w1)
    (ho : w2.ownsRow lo (ty j) 1 v' xs'.length xs') (hg : w1.grownBy w2 (hs.getD j nil0).ownBlock) (hat : v'.ownBlock = (hs.getD j nil0).ownBlock ∨ v'.ownBlock = some w1.heap.size) :
    Rows B ty (w2.setCell ⟨K, B + j, none⟩ v') lo K (up T w1.heap.size (2 + j)) (hs.set j v') (X.set j xs') z ∧ Frm T (fun t => t = 1 ∨ t = 2 + j) w (w2.setCell ⟨K, B + j, none⟩ v') := by
  have s1 := hb.size
  have s2 := hg.size
  have hKlt := R.lt
  have tj := R.tag j hj
  have hKj : (hs.getD j nil0).ownBlock ≠ some K := fun e => by have h1 := tj K e; have h2 := R.tK; omega
  have hK2 : w2.heap[K]? = w.heap[K]? := (hg.block K (by omega) (fun e => hKj e.symm)).trans (hb.block K hKlt)
  have old : ∀ b, b < w.heap.size → (hs.getD j nil0).ownBlock ≠ some b → b ≠ K → (w2.setCell ⟨K, B + j, none⟩ v').heap[b]? = w.heap[b]? := fun b h1 h2 h3 =>
    (setB h3).trans ((hg.block b (by omega) (fun e => h2 e.symm)).trans (hb.block b h1))
  have T1 : ∀ b, b < w.heap.size → up T w1.heap.size (2 + j) b = T b := fun b h => up_old (by omega)
  refine ⟨⟨R.ge, by rw [sizeS]; omega, fun b h => ?_, by rw [T1 K hKlt]; exact R.tK, frozenS (frozenB hK2 R.fz), by simp [R.nh], by simp [R.nX], fun i hi => ?_, fun i hi => ?_, fun i hi b he => ?_, fun o h1 h2 => ?_⟩, ⟨hg.os.trans hb.os, hg.tape.trans hb.tape, hg.output.trans hb.output, by rw [sizeS]; omega, fun b h hn => ?_⟩⟩
  · rw [T1 b (by have := R.ge; omega)]; exact R.low b h
  · rw [getD_set _ _ _ _ _ (by rw [R.nh]; exact hj)]
    by_cases e : i = j
    · subst e
      simp only [if_true]
      exact World.cell?_setCell_same _ _ _ (cellB hK2 (R.cell i hi))
    · simp only [if_neg e]
      exact (World.cell?_setCell_other _ _ _ _ (by simp; omega)).trans (cellB hK2 (R.cell i hi))
  · rw [getD_set _ _ _ _ _ (by rw [R.nh]; exact hj), getD_set _ _ _ _ _ (by rw [R.nX]; exact hj)]
    by_cases e : i = j
    · subst e
      simp only [if_true]
      refine rowB ho fun k hk => setB fun e => ?_
      subst e
      rcases hat with h | h
      · exact hKj (h ▸ hk)
      · rw [hk] at h; simp at h; omega
    · simp only [if_neg e]
      refine rowB (R.row i hi) fun k hk => old k ((R.row i hi).lt k hk).2 (fun h => ?_) (fun h => ?_)
      · have := tj k h; have := R.tag i hi k hk; omega
      · subst h
        have h1 := R.tag i hi k hk; have h2 := R.tK; omega
  · rw [getD_set _ _ _ _ _ (by rw [R.nh]; exact hj)] at he
    by_cases e : i = j
    · subst e
      simp only [if_true] at he
      rcases hat with h | h
      · rw [h] at he
        rw [T1 b ((R.row i hi).lt b he).2]
        exact tj b he
      · rw [he] at h
        simp at h
        rw [h]; exact up_new
    · simp only [if_neg e] at he
      rw [T1 b ((R.row i hi).lt b he).2]
      exact R.tag i hi b he
  · exact (World.cell?_setCell_other _ _ _ _ (by simp; omega)).trans (cellB hK2 (R.rest o h1 h2))
  · refine old b h (fun e => hn (.inr (tj b e))) (fun e => hn (.inl (by rw [e]; exact R.tK)))
theorem Rows.clear (R : Rows B ty w lo K T hs X z) {j : Nat} (hj : j < 8) : Rows B ty (w.setCell ⟨K, B + j, none⟩ nil0) lo K T (hs.set j nil0) (X.set j []) z := by
  refine ⟨R.ge, by rw [sizeS]; exact R.lt, R.low, R.tK, frozenS R.fz, by simp [R.nh], by simp [R.nX], fun i hi => ?_, fun i hi => ?_, fun i hi b he => ?_, fun o h1 h2 => ?_⟩
  · rw [getD_set _ _ _ _ _ (by rw [R.nh]; exact hj)]
    by_cases e : i = j
    · subst e
      simp only [if_true]
      exact World.cell?_setCell_same _ _ _ (R.cell i hi)
    · simp only [if_neg e]
      exact (World.cell?_setCell_other _ _ _ _ (by simp; omega)).trans (R.cell i hi)
  · rw [getD_set _ _ _ _ _ (by rw [R.nh]; exact hj), getD_set _ _ _ _ _ (by rw [R.nX]; exact hj)]
    by_cases e : i = j
    · simp only [if_pos e]
      exact World.ownsRow_nil _ _ _ _
    · simp only [if_neg e]
      refine rowB (R.row i hi) fun k hk => setB fun h => ?_
      subst h
      have h1 := R.tag i hi k hk; have h2 := R.tK; omega
  · rw [getD_set _ _ _ _ _ (by rw [R.nh]; exact hj)] at he
    by_cases e : i = j
    · simp only [if_pos e] at he
      simp [Value.ownBlock] at he
    · simp only [if_neg e] at he
      exact R.tag i hi b he
  · exact (World.cell?_setCell_other _ _ _ _ (by simp; omega)).trans (R.rest o h1 h2)
end
def Tg (w : World) (T : Nat → Nat) (v : Value) (t : Nat) : Prop := ∀ b, v.ownBlock = some b → b < w.heap.size ∧ T b = t
def HasV (w : World) (v : Value) (l : List Value) : Prop :=
  (v = nil0 ∧ l = []) ∨ ∃ a cap, v = .slice (some a) l.length cap ∧ l.length ≤ cap ∧ (∀ i u, l[i]? = some u → w.cell? (a.add i) = some u) ∧ ∃ cs ty, w.heap[a.block]? = some (.cells cs ty (0, 0))
theorem addBlock (a : Addr) (i : Nat) : (a.add i).block = a.block := by unfold Addr.add; split <;> rfl
theorem HasV.block {w w' : World} {v : Value} {l : List Value} (h : HasV w v l) (hb : ∀ b, v.ownBlock = some b → w'.heap[b]? = w.heap[b]?) : HasV w' v l := by
  rcases h with h | ⟨a, cap, rfl, hc, h, cs, ty, ho⟩
  · exact .inl h
  · refine .inr ⟨a, cap, rfl, hc, fun i u hi => ?_, cs, ty, (hb _ rfl).trans ho⟩
    rw [World.cell?_of_block (w := w) (by rw [addBlock]; exact hb _ rfl)]
    exact h i u hi
theorem HasV.of_row {w : World} {lo e n : Nat} {v : Value} {xs : List Value} (h : w.ownsRow lo e 1 v n xs) : HasV w v xs := by
  have h0 := h
  obtain ⟨h1, h | ⟨g, cap, cur, hv, hg, hh, hn, hr⟩⟩ := h
  · obtain ⟨rfl, hn⟩ := h
    exact .inl ⟨rfl, List.eq_nil_of_length_eq_zero (by omega)⟩
  · subst hv
    have e : n = xs.length := by omega
    subst e
    exact .inr ⟨_, cap, rfl, hn, fun i u hi => World.ownsRow.cells h0 (g := g) rfl i u hi, _, _, hh⟩
structure Lst (α : Type) where
  v : Value
  c : List α
  nv : Value
  mark : Nat
  due : Nat
  id : Nat
structure Ot (α : Type) where
  v : Value
  tv : Value
  c : List α
  tag : Nat
section
variable {α : Type}
def Lst.own (en : α → Value) (e : TypeId) (w : World) (lo : Nat) (T : Nat → Nat) (x : Lst α) : Prop :=
  w.ownsRow lo e 1 x.v x.c.length (x.c.map en) ∧ Tg w T x.v (11 + x.id) ∧ x.c.length ≤ 1000000 ∧ x.mark ≤ 100000000
def Lst.ok (en : α → Value) (e : TypeId) (w : World) (lo : Nat) (T : Nat → Nat) (x : Lst α) : Prop :=
  x.own en e w lo T ∧ w.ownsRow lo e 1 x.nv x.c.length (x.c.map en) ∧ Tg w T x.nv 10 ∧ x.due ≤ 100000000
def Ot.ok (en : α → Value) (w : World) (T : Nat → Nat) (x : Ot α) : Prop :=
  HasV w x.v (x.c.map en) ∧ HasV w x.tv (x.c.map en) ∧ Tg w T x.v x.tag ∧ Tg w T x.tv 10 ∧ 10 ≤ x.tag ∧ x.c.length ≤ 1048576
structure Kp (en : α → Value) (e : TypeId) (w : World) (lo : Nat) (T : Nat → Nat) (ws : List (Lst α)) (os : List (Ot α)) (fr rs : List (Lst α)) (olds : List (Value × TypeId × List Value)) : Prop where
  waits : ∀ x ∈ ws, x.ok en e w lo T
  outs : ∀ x ∈ os, x.ok en w T
  fresh : ∀ x ∈ fr, x.own en e w lo T
  rests : ∀ x ∈ rs, x.ok en e w lo T
  elder : ∀ x ∈ olds, w.ownsRow lo x.2.1 1 x.1 x.2.2.length x.2.2 ∧ Tg w T x.1 10
  ids : ((ws ++ rs).map Lst.id ++ fr.map Lst.id).Nodup
  apart : ∀ x ∈ os, ∀ y ∈ ws ++ rs, x.tag ≠ 11 + y.id
  link : ∀ x ∈ os, ∀ y ∈ fr, x.tag = 11 + y.id → x.v = y.v ∧ x.c = y.c
theorem Tg.frm {T T' : Nat → Nat} {S : Nat → Prop} {w w' : World} {v : Value} {t : Nat} (h : Tg w T v t) (F : Frm T S w w') (hT : ∀ b, b < w.heap.size → T' b = T b) : Tg w' T' v t := fun b hb =>
  ⟨Nat.lt_of_lt_of_le (h b hb).1 F.size, by rw [hT b (h b hb).1]; exact (h b hb).2⟩
theorem Tg.same {T : Nat → Nat} {S : Nat → Prop} {w w' : World} {v : Value} {t : Nat} (h : Tg w T v t) (F : Frm T S w w') (hS : ¬ S t) : ∀ b, v.ownBlock = some b → w'.heap[b]? = w.heap[b]? := fun b hb =>
  F.block b (h b hb).1 (by rw [(h b hb).2]; exact hS)
theorem Lst.own.frm {en : α → Value} {e : TypeId} {T T' : Nat → Nat} {S : Nat → Prop} {w w' : World} {lo : Nat} {x : Lst α} (h : x.own en e w lo T) (F : Frm T S w w') (hS : ¬ S (11 + x.id)) (hT : ∀ b, b < w.heap.size → T' b = T b) : x.own en e w' lo T' :=
  ⟨rowB h.1 (h.2.1.same F hS), h.2.1.frm F hT, h.2.2⟩
theorem Lst.ok.frm {en : α → Value} {e : TypeId} {T T' : Nat → Nat} {S : Nat → Prop} {w w' : World} {lo : Nat} {x : Lst α} (h : x.ok en e w lo T) (F : Frm T S w w') (hS : ¬ S (11 + x.id)) (h10 : ¬ S 10) (hT : ∀ b, b < w.heap.size → T' b = T b) : x.ok en e w' lo T' :=
  ⟨h.1.frm F hS hT, rowB h.2.1 (h.2.2.1.same F h10), h.2.2.1.frm F hT, h.2.2.2⟩
theorem Ot.ok.frm {en : α → Value} {T T' : Nat → Nat} {S : Nat → Prop} {w w' : World} {x : Ot α} (h : x.ok en w T) (F : Frm T S w w') (hS : ¬ S x.tag) (h10 : ¬ S 10) (hT : ∀ b, b < w.heap.size → T' b = T b) : x.ok en w' T' :=
  ⟨h.1.block (h.2.2.1.same F hS), h.2.1.block (h.2.2.2.1.same F h10), h.2.2.1.frm F hT, h.2.2.2.1.frm F hT, h.2.2.2.2⟩
theorem Kp.frm {en : α → Value} {e : TypeId} {T T' : Nat → Nat} {S : Nat → Prop} {w w' : World} {lo : Nat} {ws : List (Lst α)} {os : List (Ot α)} {fr rs : List (Lst α)} {olds : List (Value × TypeId × List Value)}
    (h : Kp en e w lo T ws os fr rs olds) (F : Frm T S w w') (hS : ∀ t, 10 ≤ t → ¬ S t) (hT : ∀ b, b < w.heap.size → T' b = T b) : Kp en e w' lo T' ws os fr rs olds :=
  ⟨fun x hx => (h.waits x hx).frm F (hS _ (by omega)) (hS _ (by omega)) hT, fun x hx => (h.outs x hx).frm F (hS _ (h.outs x hx).2.2.2.2.1) (hS _ (by omega)) hT,
   fun x hx => (h.fresh x hx).frm F (hS _ (by omega)) hT, fun x hx => (h.rests x hx).frm F (hS _ (by omega)) (hS _ (by omega)) hT,
   fun x hx => ⟨rowB (h.elder x hx).1 ((h.elder x hx).2.same F (hS _ (by omega))), (h.elder x hx).2.frm F hT⟩, h.ids, h.apart, h.link⟩
theorem put2 {B : Nat} {ty : Nat → TypeId} {w : World} {lo K : Nat} {T : Nat → Nat} {hs : List Value} {X : List (List Value)} {z : Nat → Value} {en : α → Value} {e : TypeId} {ws : List (Lst α)} {os : List (Ot α)} {fr rs : List (Lst α)} {olds : List (Value × TypeId × List Value)}
    (R : Rows B ty w lo K T hs X z) (L : Kp en e w lo T ws os fr rs olds) (o : Nat) (ho : o < B ∨ B + 8 ≤ o) (ho2 : o < 148) (x : Value) :
    Rows B ty (w.setCell ⟨K, o, none⟩ x) lo K T hs X (fun i => if i = o then x else z i) ∧ Kp en e (w.setCell ⟨K, o, none⟩ x) lo T ws os fr rs olds ∧ Frm T (fun t => t = 1) w (w.setCell ⟨K, o, none⟩ x) := by
  have F : Frm T (fun t => t = 1) w (w.setCell ⟨K, o, none⟩ x) := by
    have := Frm.set (T := T) (w := w) (K := K) (o := o) x
    rwa [R.tK] at this
  exact ⟨R.put o ho ho2 x, L.frm F (fun t ht => by omega) (fun _ _ => rfl), F⟩
end
theorem nodup_mid {a b : List Nat} {x : Nat} (h : (a ++ x :: b).Nodup) : x ∉ a ++ b := by
  rw [List.nodup_append] at h
  obtain ⟨_, h2, h3⟩ := h
  intro hx
  rcases List.mem_append.1 hx with k | k
  · exact h3 x k x (by simp) rfl
  · exact (List.nodup_cons.1 h2).1 k
section
variable {α : Type} {en : α → Value} {e : TypeId} {w w' : World} {lo : Nat} {T T' : Nat → Nat} {ws : List (Lst α)} {os : List (Ot α)} {fr rs : List (Lst α)} {olds : List (Value × TypeId × List Value)}
theorem Kp.frmO {S : Nat → Prop} (h : Kp en e w lo T ws os fr rs olds) (F : Frm T S w w') (h10 : ¬ S 10) (hL : ∀ x ∈ ws ++ rs ++ fr, ¬ S (11 + x.id)) (hO : ∀ o ∈ os, S o.tag → HasV w' o.v (o.c.map en)) (hT : ∀ b, b < w.heap.size → T' b = T b) : Kp en e w' lo T' ws os fr rs olds := by
  refine ⟨fun x hx => (h.waits x hx).frm F (hL x (by simp [hx])) h10 hT, fun x hx => ?_, fun x hx => (h.fresh x hx).frm F (hL x (by simp [hx])) hT, fun x hx => (h.rests x hx).frm F (hL x (by simp [hx])) h10 hT,
   fun x hx => ⟨rowB (h.elder x hx).1 ((h.elder x hx).2.same F h10), (h.elder x hx).2.frm F hT⟩, h.ids, h.apart, h.link⟩
  have k := h.outs x hx
  refine ⟨?_, k.2.1.block (k.2.2.2.1.same F h10), k.2.2.1.frm F hT, k.2.2.2.1.frm F hT, k.2.2.2.2⟩
  by_cases hs : S x.tag
  · exact hO x hx hs
  · exact k.1.block (k.2.2.1.same F hs)
theorem Kp.retag (h : Kp en e w lo T ws os fr rs olds) (hT : ∀ b, b < w.heap.size → 10 ≤ T b → T' b = T b) : Kp en e w lo T' ws os fr rs olds := by
  have tg : ∀ {v : Value} {t : Nat}, 10 ≤ t → Tg w T v t → Tg w T' v t := fun h10 k b hb => ⟨(k b hb).1, by rw [hT b (k b hb).1 (by rw [(k b hb).2]; exact h10)]; exact (k b hb).2⟩
  have ow : ∀ {x : Lst α}, x.own en e w lo T → x.own en e w lo T' := fun k => ⟨k.1, tg (by omega) k.2.1, k.2.2⟩
  have ok : ∀ {x : Lst α}, x.ok en e w lo T → x.ok en e w lo T' := fun k => ⟨ow k.1, k.2.1, tg (by omega) k.2.2.1, k.2.2.2⟩
  exact ⟨fun x hx => ok (h.waits x hx), fun x hx => ⟨(h.outs x hx).1, (h.outs x hx).2.1, tg (h.outs x hx).2.2.2.2.1 (h.outs x hx).2.2.1, tg (by omega) (h.outs x hx).2.2.2.1, (h.outs x hx).2.2.2.2⟩,
    fun x hx => ow (h.fresh x hx), fun x hx => ok (h.rests x hx), fun x hx => ⟨(h.elder x hx).1, tg (by omega) (h.elder x hx).2⟩, h.ids, h.apart, h.link⟩
def adopt (T : Nat → Nat) (v : Value) (t : Nat) : Nat → Nat := fun b => if v.ownBlock = some b then t else T b
theorem adopt_other {T : Nat → Nat} {v : Value} {t b : Nat} (h : v.ownBlock ≠ some b) : adopt T v t b = T b := by simp [adopt, h]
theorem Kp.adopt {x : Lst α} (h : Kp en e w lo T ws os [] [] olds) (hr : w.ownsRow lo e 1 x.v x.c.length (x.c.map en)) (hf : ∀ b, x.v.ownBlock = some b → T b = 0) (hc : x.c.length ≤ 1000000) (hm : x.mark ≤ 100000000)
    (hid : ∀ y ∈ ws, y.id ≠ x.id) (ho : ∀ y ∈ os, y.tag ≠ 11 + x.id) : Kp en e w lo (adopt T x.v (11 + x.id)) ws os [x] [] olds := by
  have k : Kp en e w lo (Bk.adopt T x.v (11 + x.id)) ws os [] [] olds := h.retag fun b _ h10 => adopt_other fun e => by have := hf b e; omega
  refine ⟨k.waits, k.outs, fun y hy => ?_, k.rests, k.elder, ?_, k.apart, fun o ho' y hy e => ?_⟩
  · obtain rfl := List.mem_singleton.1 hy
    exact ⟨hr, fun b hb => ⟨(hr.lt b hb).2, by simp [Bk.adopt, hb]⟩, hc, hm⟩
  · have := k.ids
    simp only [List.append_nil, List.map_nil, List.map_cons] at this ⊢
    rw [List.nodup_append]
    refine ⟨this, by simp, fun a ha b hb => ?_⟩
    obtain rfl := List.mem_singleton.1 hb
    obtain ⟨y, hy, rfl⟩ := List.mem_map.1 ha
    exact hid y hy
  · obtain rfl := List.mem_singleton.1 hy
    exact absurd e (ho o ho')
theorem Kp.note {x : Lst α} {nv : Value} {due : Nat} (h : Kp en e w lo T ws os [x] [] olds) (hr : w.ownsRow lo e 1 nv x.c.length (x.c.map en)) (ht : Tg w T nv 10) (hd : due ≤ 100000000) (ho : ∀ y ∈ os, y.tag ≠ 11 + x.id) :
    Kp en e w lo T (ws ++ [{ x with nv := nv, due := due }]) os [] [] olds := by
  refine ⟨fun y hy => ?_, h.outs, by simp, by simp, h.elder, ?_, fun o ho' y hy => ?_, by simp⟩
  · rcases List.mem_append.1 hy with hy | hy
    · exact h.waits y hy
    · obtain rfl := List.mem_singleton.1 hy
      exact ⟨h.fresh x (by simp), hr, ht, hd⟩
  · have := h.ids
    simpa using this
  · rw [List.append_nil] at hy
    rcases List.mem_append.1 hy with hy | hy
    · exact h.apart o ho' y (by simpa using hy)
    · obtain rfl := List.mem_singleton.1 hy
      exact ho o ho'
theorem Kp.head {x : Lst α} (h : Kp en e w lo T ws os fr (x :: rs) olds) : x.ok en e w lo T ∧ Kp en e w lo T ws os fr rs olds ∧ (∀ y ∈ ws ++ rs ++ fr, y.id ≠ x.id) ∧ (∀ o ∈ os, o.tag ≠ 11 + x.id) := by
  have hn := h.ids
  refine ⟨h.rests x (by simp), ⟨h.waits, h.outs, h.fresh, fun y hy => h.rests y (by simp [hy]), h.elder, ?_, fun o ho y hy => h.apart o ho y (by rcases List.mem_append.1 hy with k | k <;> simp [k]), h.link⟩, fun y hy => ?_, fun o ho => h.apart o ho x (by simp)⟩
  · refine hn.sublist ?_
    refine List.Sublist.append (List.Sublist.map _ ?_) (List.Sublist.refl _)
    exact List.Sublist.append (List.Sublist.refl _) (List.sublist_cons_self _ _)
  · intro e'
    have h2 : (ws.map Lst.id ++ x.id :: (rs.map Lst.id ++ fr.map Lst.id)).Nodup := by simpa using hn
    apply nodup_mid h2
    rw [← e']
    simp only [List.mem_append, List.mem_map]
    simp only [List.mem_append] at hy
    rcases hy with (hy | hy) | hy
    · exact .inl ⟨y, hy, rfl⟩
    · exact .inr (.inl ⟨y, hy, rfl⟩)
    · exact .inr (.inr ⟨y, hy, rfl⟩)
theorem Kp.wait {x : Lst α} (h : Kp en e w lo T ws os fr (x :: rs) olds) : Kp en e w lo T (ws ++ [x]) os fr rs olds := by
  have hh := h.head
  refine ⟨fun y hy => ?_, h.outs, h.fresh, hh.2.1.rests, h.elder, by have := h.ids; simpa using this, fun o ho y hy => h.apart o ho y (by simpa using hy), h.link⟩
  rcases List.mem_append.1 hy with hy | hy
  · exact h.waits y hy
  · obtain rfl := List.mem_singleton.1 hy
    exact hh.1
theorem Kp.due {x : Lst α} {tv : Value} {c' : List α} (h : Kp en e w lo T ws os fr rs olds) (hid : ∀ y ∈ ws ++ rs ++ fr, y.id ≠ x.id) (ho : ∀ o ∈ os, o.tag ≠ 11 + x.id)
    (hx : Lst.own en e w lo T { x with c := c' }) (hr : w.ownsRow lo e 1 tv c'.length (c'.map en)) (ht : Tg w T tv 10) :
    Kp en e w lo T ws (os ++ [⟨x.v, tv, c', 11 + x.id⟩]) (fr ++ [{ x with c := c' }]) rs olds := by
  refine ⟨h.waits, fun o hO => ?_, fun y hy => ?_, h.rests, h.elder, ?_, fun o hO y hy => ?_, fun o hO y hy e' => ?_⟩
  · rcases List.mem_append.1 hO with hO | hO
    · exact h.outs o hO
    · obtain rfl := List.mem_singleton.1 hO
      exact ⟨.of_row hx.1, .of_row hr, hx.2.1, ht, by show 10 ≤ 11 + x.id; omega, by have := hx.2.2.1; show c'.length ≤ _; have : c'.length ≤ 1000000 := this; omega⟩
  · rcases List.mem_append.1 hy with hy | hy
    · exact h.fresh y hy
    · obtain rfl := List.mem_singleton.1 hy
      exact hx
  · have h1 := h.ids
    rw [List.map_append (l₁ := fr), ← List.append_assoc, List.nodup_append]
    refine ⟨h1, by simp, fun a ha b hb => ?_⟩
    obtain rfl := List.mem_singleton.1 hb
    simp only [List.mem_append, List.mem_map] at ha
    rcases ha with ⟨y, hy, rfl⟩ | ⟨y, hy, rfl⟩
    · exact hid y (by simp only [List.mem_append]; exact .inl hy)
    · exact hid y (by simp only [List.mem_append]; exact .inr hy)
  · rcases List.mem_append.1 hO with hO | hO
    · exact h.apart o hO y hy
    · obtain rfl := List.mem_singleton.1 hO
      have := hid y (by rw [List.mem_append]; exact .inl hy)
      show 11 + x.id ≠ _
      omega
  · rcases List.mem_append.1 hO with hO | hO
    · rcases List.mem_append.1 hy with hy | hy
      · exact h.link o hO y hy e'
      · obtain rfl := List.mem_singleton.1 hy
        exact absurd e' (ho o hO)
    · obtain rfl := List.mem_singleton.1 hO
      rcases List.mem_append.1 hy with hy | hy
      · have := hid y (by rw [List.mem_append]; exact .inr hy)
        have e2 : 11 + x.id = 11 + y.id := e'
        omega
      · obtain rfl := List.mem_singleton.1 hy
        exact ⟨rfl, rfl⟩
theorem Kp.top {x : Lst α} (h : Kp en e w lo T ws os (x :: fr) [] []) : x.own en e w lo T ∧ Kp en e w lo T ws os fr [] [] ∧ (∀ y ∈ ws ++ [] ++ fr, y.id ≠ x.id) ∧ (∀ o ∈ os, o.tag = 11 + x.id → o.v = x.v ∧ o.c = x.c) := by
  have hn := h.ids
  refine ⟨h.fresh x (by simp), ⟨h.waits, h.outs, fun y hy => h.fresh y (by simp [hy]), by simp, by simp, ?_, h.apart, fun o ho y hy => h.link o ho y (by simp [hy])⟩, fun y hy e' => ?_, fun o ho => h.link o ho x (by simp)⟩
  · refine hn.sublist ?_
    exact List.Sublist.append (List.Sublist.refl _) (List.Sublist.map _ (List.sublist_cons_self _ _))
  · have h2 : (ws.map Lst.id ++ x.id :: fr.map Lst.id).Nodup := by simpa using hn
    apply nodup_mid h2
    rw [← e']
    simp only [List.append_nil, List.mem_append] at hy
    simp only [List.mem_append, List.mem_map]
    rcases hy with hy | hy
    · exact .inl ⟨y, hy, rfl⟩
    · exact .inr ⟨y, hy, rfl⟩
theorem Kp.more {o : Ot α} (h : Kp en e w lo T ws os fr [] []) (hid : ∀ y ∈ ws ++ [] ++ fr, o.tag ≠ 11 + y.id) (hx : o.ok en w T) : Kp en e w lo T ws (os ++ [o]) fr [] [] := by
  refine ⟨h.waits, fun p hp => ?_, h.fresh, h.rests, h.elder, h.ids, fun p hp y hy => ?_, fun p hp y hy e' => ?_⟩
  · rcases List.mem_append.1 hp with hp | hp
    · exact h.outs p hp
    · obtain rfl := List.mem_singleton.1 hp
      exact hx
  · rcases List.mem_append.1 hp with hp | hp
    · exact h.apart p hp y hy
    · obtain rfl := List.mem_singleton.1 hp
      exact hid y (by rw [List.mem_append]; exact .inl hy)
  · rcases List.mem_append.1 hp with hp | hp
    · exact h.link p hp y hy e'
    · obtain rfl := List.mem_singleton.1 hp
      exact absurd e' (hid y (by rw [List.mem_append]; exact .inr hy))
theorem Kp.drop_olds (h : Kp en e w lo T ws os fr rs olds) : Kp en e w lo T ws os fr rs [] := ⟨h.waits, h.outs, h.fresh, h.rests, by simp, h.ids, h.apart, h.link⟩
def aside (T : Nat → Nat) : Nat → Nat := fun b => if T b = 4 ∨ T b = 5 ∨ T b = 7 ∨ T b = 8 then 10 else T b
theorem aside_big {T : Nat → Nat} {b : Nat} (h : 10 ≤ T b) : aside T b = T b := by
  unfold aside; rw [if_neg]; omega
theorem aside_zero {T : Nat → Nat} {b : Nat} : aside T b = 0 ↔ T b = 0 := by
  unfold aside; split <;> omega
theorem Kp.begin (h : Kp en e w lo T ws os [] [] []) (hol : ∀ x ∈ olds, w.ownsRow lo x.2.1 1 x.1 x.2.2.length x.2.2 ∧ Tg w (aside T) x.1 10) : Kp en e w lo (aside T) [] os [] ws olds := by
  have k : Kp en e w lo (aside T) ws os [] [] [] := h.retag fun b _ h10 => aside_big h10
  exact ⟨by simp, k.outs, by simp, k.waits, hol, by have := k.ids; simpa using this, by have := k.apart; simpa using this, by simp⟩
end
def upr (T : Nat → Nat) (n t : Nat) : Nat → Nat := fun b => if n ≤ b then t else T b
theorem upr_old {T : Nat → Nat} {n t b : Nat} (h : b < n) : upr T n t b = T b := by simp [upr, Nat.not_le.2 h]
theorem upr_new {T : Nat → Nat} {n t b : Nat} (h : n ≤ b) : upr T n t b = t := by simp [upr, h]
def cap (T : Nat → Nat) (n : Nat) : Nat → Nat := fun b => if b < n then T b else 0
theorem cap_old {T : Nat → Nat} {n b : Nat} (h : b < n) : cap T n b = T b := by simp [cap, h]
end Go.Proofs.YtbjjbgaomoihaaaGreatDoor.Bk.Bk
