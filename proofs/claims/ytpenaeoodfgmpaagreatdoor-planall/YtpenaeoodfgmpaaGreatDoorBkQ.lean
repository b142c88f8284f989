/-
  THE BOOK: a plan is noted; a new Book.
-/
import Derived.Test.YtpenaeoodfgmpaaGreatDoorBkI8
import Derived.Test.YtpenaeoodfgmpaaGreatDoorBkN8
import Derived.Test.YtpenaeoodfgmpaaGreatDoorBkI4
import Derived.Test.YtpenaeoodfgmpaaGreatDoorBkN4
import Derived.Test.YtpenaeoodfgmpaaGreatDoorBkI6
import Derived.Test.YtpenaeoodfgmpaaGreatDoorBkN6
import Derived.Test.YtpenaeoodfgmpaaGreatDoorBkI7
import Derived.Test.YtpenaeoodfgmpaaGreatDoorBkN7
namespace Go.Proofs.YtpenaeoodfgmpaaGreatDoor
open Go.RowKit Bk

/-- What the Book's other cells hold, seen from the items, from the ints. -/
def zI (hsN : List Value) (sN : Nat) : Nat → Value := fun o => if 13 ≤ o ∧ o < 21 then hsN.getD (o - 13) nil0 else if o = 21 then .int .i64 sN else idle o
def zN (hsI : List Value) (sI : Nat) : Nat → Value := fun o => if 58 ≤ o ∧ o < 66 then hsI.getD (o - 58) nil0 else if o = 66 then .int .i64 sI else idle o

/-- One kind's part. -/
structure Sid {α : Type} (B : Nat) (ty : Nat → TypeId) (en : List α → List Value) (e : TypeId) (s : Nat) (XB : List (Lst α) → List (Bk.Ot α) → List (Lst α) → List (List Value)) (w : World) (lo K : Nat) (T : Nat → Nat) (hs : List Value) (ws : List (Lst α)) (os : List (Bk.Ot α)) (fr : List (Lst α)) (z : Nat → Value) (seen : Nat) : Prop where
  rows : Bk.Rows B ty w lo K T hs (XB ws os fr) z
  kp : Kp en e s w lo T ws os fr [] []
  fin : ∀ b, w.heap.size ≤ b → T b = 0
  idw : ∀ x ∈ ws, x.id < seen
  idf : ∀ x ∈ fr, x.id < seen
  tag : ∀ o ∈ os, o.tag < 11 + seen
  nw : ws.length + fr.length ≤ seen
  no : os.length + fr.length + 2 * ws.length ≤ 2 * seen

structure Bth (w : World) (lo K : Nat) (TI TN : Nat → Nat) (hsI hsN : List Value) (wsI : List (Lst It)) (osI : List (Bk.Ot It)) (frI : List (Lst It)) (wsN : List (Lst Int)) (osN : List (Bk.Ot Int)) (frN : List (Lst Int)) (turn deep sI sN : Nat) : Prop where
  i : Sid 58 KI.tyB KI.rcs 71 7 KI.XB w lo K TI hsI wsI osI frI (KI.zB (zI hsN sN) turn deep sI) sI
  n : Sid 13 KN.tyB KN.rcs 3 1 KN.XB w lo K TN hsN wsN osN frN (KN.zB (zN hsI sI) turn deep sN) sN
  sep : ∀ b, b ≠ K → TI b = 0 ∨ TN b = 0

/-- What is outside A stays, and stays outside. -/
structure Out (w : World) (A : Nat → Prop) (w' : World) (A' : Nat → Prop) : Prop where
  os : w'.os = w.os
  tape : w'.tape = w.tape
  output : w'.output = w.output
  size : w.heap.size ≤ w'.heap.size
  block : ∀ b, b < w.heap.size → ¬ A b → w'.heap[b]? = w.heap[b]? ∧ ¬ A' b
theorem Out.trans {w w1 w2 : World} {A A1 A2 : Nat → Prop} (h : Out w A w1 A1) (k : Out w1 A1 w2 A2) : Out w A w2 A2 :=
  ⟨k.os.trans h.os, k.tape.trans h.tape, k.output.trans h.output, Nat.le_trans h.size k.size, fun b hb hn => by
    obtain ⟨e1, n1⟩ := h.block b hb hn
    obtain ⟨e2, n2⟩ := k.block b (Nat.lt_of_lt_of_le hb h.size) n1
    exact ⟨e2.trans e1, n2⟩⟩
theorem Out.trans1 {w w1 w2 : World} {A A1 A2 V : Nat → Prop} (h : Out w A w1 A1) (k : Out w1 (fun b => A1 b ∨ V b) w2 A2) : Out w (fun b => A b ∨ V b) w2 A2 :=
  ⟨k.os.trans h.os, k.tape.trans h.tape, k.output.trans h.output, Nat.le_trans h.size k.size, fun b hb hn => by
    obtain ⟨e1, n1⟩ := h.block b hb (fun e => hn (.inl e))
    obtain ⟨e2, n2⟩ := k.block b (Nat.lt_of_lt_of_le hb h.size) (fun e => e.elim n1 fun v => hn (.inr v))
    exact ⟨e2.trans e1, n2⟩⟩
theorem Out.mono {w w1 : World} {A A' A1 : Nat → Prop} (h : Out w A w1 A1) (hA : ∀ b, A b → A' b) : Out w A' w1 A1 := ⟨h.os, h.tape, h.output, h.size, fun b hb hn => h.block b hb fun e => hn (hA b e)⟩

theorem Bth.stepI {w : World} {lo K : Nat} {TI TN : Nat → Nat} {hsI hsN : List Value} {wsI : List (Lst It)} {osI : List (Bk.Ot It)} {frI : List (Lst It)} {wsN : List (Lst Int)} {osN : List (Bk.Ot Int)} {frN : List (Lst Int)} {turn deep sI sN : Nat}
    (b : Bth w lo K TI TN hsI hsN wsI osI frI wsN osN frN turn deep sI sN) {w' : World} {T' TF : Nat → Nat} {hs' : List Value} {ws' : List (Lst KI.Ru)} {os' : List (Bk.Ot KI.Ru)} {fr' : List (Lst KI.Ru)} {turn' deep' s' : Nat}
    (R : Bk.Rows 58 KI.tyB w' lo K T' hs' (KI.XB ws' os' fr') (KI.zB (zI hsN sN) turn' deep' s')) (L : Kp KI.rcs 71 7 w' lo T' ws' os' fr' [] []) (F : Frm TF (fun t => t ≠ 0) w w')
    (hTF : ∀ x, x < w.heap.size → x ≠ K → TN x ≠ 0 → TF x = 0) (hT' : ∀ x, x < w.heap.size → x ≠ K → TN x ≠ 0 → T' x = 0)
    (i1 : ∀ x ∈ ws', x.id < s') (i2 : ∀ x ∈ fr', x.id < s') (i3 : ∀ o ∈ os', o.tag < 11 + s') (l1 : ws'.length + fr'.length ≤ s') (l2 : os'.length + fr'.length + 2 * ws'.length ≤ 2 * s') :
    Bth w' lo K (Bk.cap T' w'.heap.size) TN hs' hsN ws' os' fr' wsN osN frN turn' deep' s' sN := by
  have KT : TN K = 1 := b.n.rows.tK
  have F2 : Frm TN (fun t => t < 2) w w' := ⟨F.os, F.tape, F.output, F.size, fun x hx hn => F.block x hx (fun h => h (hTF x hx (fun e => by rw [e, KT] at hn; omega) (by omega)))⟩
  have C : ∀ o, o < 148 → w'.cell? ⟨K, o, none⟩ = some (if 58 ≤ o ∧ o < 66 then hs'.getD (o - 58) nil0 else KI.zB (zI hsN sN) turn' deep' s' o) := fun o ho => by
    by_cases h : 58 ≤ o ∧ o < 66
    · rw [if_pos h]
      have := R.cell (o - 58) (by omega)
      rwa [show 58 + (o - 58) = o from by omega] at this
    · rw [if_neg h]
      exact R.rest o ho (by omega)
  have RB : Bk.Rows 13 KN.tyB w' lo K TN hsN (KN.XB wsN osN frN) (KN.zB (zN hs' s') turn' deep' sN) := by
    have r := b.n.rows
    refine ⟨r.ge, R.lt, r.low, r.tK, R.fz, r.nh, r.nX, fun j hj => ?_, fun j hj => rowB (r.row j hj) fun k hk => ?_, r.tag, fun o h1 h2 => ?_⟩
    · rw [C (13 + j) (by omega), if_neg (by omega)]
      simp only [KI.zB, zI]
      rw [if_neg (by omega), if_neg (by omega), if_neg (by omega), if_neg (by omega), if_pos (by omega), Nat.add_sub_cancel_left]
    · have ht := r.tag j hj k hk
      exact F2.block k ((r.row j hj).lt k hk).2 (by omega)
    · rw [C o h1]
      congr 1
      simp only [KI.zB, KN.zB, zI, zN]
      by_cases q1 : 58 ≤ o ∧ o < 66
      · rw [if_pos q1, if_neg (by omega), if_neg (by omega), if_neg (by omega), if_neg (by omega), if_pos q1]
      · rw [if_neg q1]
        by_cases q2 : o < 2
        · rw [if_pos q2, if_pos q2]
        · rw [if_neg q2, if_neg q2]
          by_cases q3 : o = 2
          · rw [if_pos q3, if_pos q3]
          · rw [if_neg q3, if_neg q3]
            by_cases q4 : o = 3
            · rw [if_pos q4, if_pos q4]
            · rw [if_neg q4, if_neg q4]
              by_cases q5 : o = 66
              · rw [if_pos q5, if_neg (by omega), if_neg q1, if_pos q5]
              · rw [if_neg q5, if_neg (by omega)]
                by_cases q6 : o = 21
                · rw [if_pos q6, if_pos q6]
                · rw [if_neg q6, if_neg q6, if_neg q1, if_neg q5]
  have LB : Kp KN.rcs 3 1 w' lo TN wsN osN frN [] [] := b.n.kp.frm F2 (fun t ht => by omega) (fun _ _ => rfl)
  have SA : Sid 58 KI.tyB KI.rcs 71 7 KI.XB w' lo K (Bk.cap T' w'.heap.size) hs' ws' os' fr' (KI.zB (zI hsN sN) turn' deep' s') s' :=
    ⟨R.ext fun x hx => Bk.cap_old hx, L.frm (Frm.refl _ (fun _ => False) _) (fun _ _ h => h) fun x hx => Bk.cap_old hx, fun x hx => Bk.cap_new hx, i1, i2, i3, l1, l2⟩
  have SB : Sid 13 KN.tyB KN.rcs 3 1 KN.XB w' lo K TN hsN wsN osN frN (KN.zB (zN hs' s') turn' deep' sN) sN :=
    ⟨RB, LB, fun x hx => b.n.fin x (by have := F.size; omega), b.n.idw, b.n.idf, b.n.tag, b.n.nw, b.n.no⟩
  have SP : ∀ x, x ≠ K → Bk.cap T' w'.heap.size x = 0 ∨ TN x = 0 := fun x hx => by
    by_cases h : TN x = 0
    · exact .inr h
    · left
      have hl : x < w.heap.size := by
        rcases Nat.lt_or_ge x w.heap.size with h1 | h1
        · exact h1
        · exact absurd (b.n.fin x h1) h
      rw [Bk.cap_old (by have := F.size; omega)]
      exact hT' x hl hx h
  exact ⟨SA, SB, SP⟩
theorem Bth.stepN {w : World} {lo K : Nat} {TI TN : Nat → Nat} {hsI hsN : List Value} {wsI : List (Lst It)} {osI : List (Bk.Ot It)} {frI : List (Lst It)} {wsN : List (Lst Int)} {osN : List (Bk.Ot Int)} {frN : List (Lst Int)} {turn deep sI sN : Nat}
    (b : Bth w lo K TI TN hsI hsN wsI osI frI wsN osN frN turn deep sI sN) {w' : World} {T' TF : Nat → Nat} {hs' : List Value} {ws' : List (Lst KN.Ru)} {os' : List (Bk.Ot KN.Ru)} {fr' : List (Lst KN.Ru)} {turn' deep' s' : Nat}
    (R : Bk.Rows 13 KN.tyB w' lo K T' hs' (KN.XB ws' os' fr') (KN.zB (zN hsI sI) turn' deep' s')) (L : Kp KN.rcs 3 1 w' lo T' ws' os' fr' [] []) (F : Frm TF (fun t => t ≠ 0) w w')
    (hTF : ∀ x, x < w.heap.size → x ≠ K → TI x ≠ 0 → TF x = 0) (hT' : ∀ x, x < w.heap.size → x ≠ K → TI x ≠ 0 → T' x = 0)
    (i1 : ∀ x ∈ ws', x.id < s') (i2 : ∀ x ∈ fr', x.id < s') (i3 : ∀ o ∈ os', o.tag < 11 + s') (l1 : ws'.length + fr'.length ≤ s') (l2 : os'.length + fr'.length + 2 * ws'.length ≤ 2 * s') :
    Bth w' lo K TI (Bk.cap T' w'.heap.size) hsI hs' wsI osI frI ws' os' fr' turn' deep' sI s' := by
  have KT : TI K = 1 := b.i.rows.tK
  have F2 : Frm TI (fun t => t < 2) w w' := ⟨F.os, F.tape, F.output, F.size, fun x hx hn => F.block x hx (fun h => h (hTF x hx (fun e => by rw [e, KT] at hn; omega) (by omega)))⟩
  have C : ∀ o, o < 148 → w'.cell? ⟨K, o, none⟩ = some (if 13 ≤ o ∧ o < 21 then hs'.getD (o - 13) nil0 else KN.zB (zN hsI sI) turn' deep' s' o) := fun o ho => by
    by_cases h : 13 ≤ o ∧ o < 21
    · rw [if_pos h]
      have := R.cell (o - 13) (by omega)
      rwa [show 13 + (o - 13) = o from by omega] at this
    · rw [if_neg h]
      exact R.rest o ho (by omega)
  have RB : Bk.Rows 58 KI.tyB w' lo K TI hsI (KI.XB wsI osI frI) (KI.zB (zI hs' s') turn' deep' sI) := by
    have r := b.i.rows
    refine ⟨r.ge, R.lt, r.low, r.tK, R.fz, r.nh, r.nX, fun j hj => ?_, fun j hj => rowB (r.row j hj) fun k hk => ?_, r.tag, fun o h1 h2 => ?_⟩
    · rw [C (58 + j) (by omega), if_neg (by omega)]
      simp only [KN.zB, zN]
      rw [if_neg (by omega), if_neg (by omega), if_neg (by omega), if_neg (by omega), if_pos (by omega), Nat.add_sub_cancel_left]
    · have ht := r.tag j hj k hk
      exact F2.block k ((r.row j hj).lt k hk).2 (by omega)
    · rw [C o h1]
      congr 1
      simp only [KN.zB, KI.zB, zN, zI]
      by_cases q1 : 13 ≤ o ∧ o < 21
      · rw [if_pos q1, if_neg (by omega), if_neg (by omega), if_neg (by omega), if_neg (by omega), if_pos q1]
      · rw [if_neg q1]
        by_cases q2 : o < 2
        · rw [if_pos q2, if_pos q2]
        · rw [if_neg q2, if_neg q2]
          by_cases q3 : o = 2
          · rw [if_pos q3, if_pos q3]
          · rw [if_neg q3, if_neg q3]
            by_cases q4 : o = 3
            · rw [if_pos q4, if_pos q4]
            · rw [if_neg q4, if_neg q4]
              by_cases q5 : o = 21
              · rw [if_pos q5, if_neg (by omega), if_neg q1, if_pos q5]
              · rw [if_neg q5, if_neg (by omega)]
                by_cases q6 : o = 66
                · rw [if_pos q6, if_pos q6]
                · rw [if_neg q6, if_neg q6, if_neg q1, if_neg q5]
  have LB : Kp KI.rcs 71 7 w' lo TI wsI osI frI [] [] := b.i.kp.frm F2 (fun t ht => by omega) (fun _ _ => rfl)
  have SA : Sid 13 KN.tyB KN.rcs 3 1 KN.XB w' lo K (Bk.cap T' w'.heap.size) hs' ws' os' fr' (KN.zB (zN hsI sI) turn' deep' s') s' :=
    ⟨R.ext fun x hx => Bk.cap_old hx, L.frm (Frm.refl _ (fun _ => False) _) (fun _ _ h => h) fun x hx => Bk.cap_old hx, fun x hx => Bk.cap_new hx, i1, i2, i3, l1, l2⟩
  have SB : Sid 58 KI.tyB KI.rcs 71 7 KI.XB w' lo K TI hsI wsI osI frI (KI.zB (zI hs' s') turn' deep' sI) sI :=
    ⟨RB, LB, fun x hx => b.i.fin x (by have := F.size; omega), b.i.idw, b.i.idf, b.i.tag, b.i.nw, b.i.no⟩
  have SP : ∀ x, x ≠ K → Bk.cap T' w'.heap.size x = 0 ∨ TI x = 0 := fun x hx => by
    by_cases h : TI x = 0
    · exact .inr h
    · left
      have hl : x < w.heap.size := by
        rcases Nat.lt_or_ge x w.heap.size with h1 | h1
        · exact h1
        · exact absurd (b.i.fin x h1) h
      rw [Bk.cap_old (by have := F.size; omega)]
      exact hT' x hl hx h
  exact ⟨SB, SA, fun x hx => (SP x hx).symm⟩
theorem Bth.outI {w : World} {TI TN : Nat → Nat} {A : Nat → Prop} {w' : World} {T' TF : Nat → Nat} (hA : ∀ x, A x ↔ (TI x ≠ 0 ∨ TN x ≠ 0)) (F : Frm TF (fun t => t ≠ 0) w w')
    {V : Nat → Prop} (h1 : ∀ x, x < w.heap.size → TI x = 0 → ¬ V x → TF x = 0 ∧ T' x = 0) : Out w (fun x => A x ∨ V x) w' (fun x => Bk.cap T' w'.heap.size x ≠ 0 ∨ TN x ≠ 0) := by
  refine ⟨F.os, F.tape, F.output, F.size, fun x hx hn => ?_⟩
  have hn1 : ¬ A x := fun h => hn (.inl h)
  have hn2 : ¬ V x := fun h => hn (.inr h)
  rw [hA x] at hn1
  obtain ⟨h2, h3⟩ := h1 x hx (by omega) hn2
  refine ⟨F.block x hx (by rw [h2]; simp), ?_⟩
  rw [Bk.cap_old (by have := F.size; omega), h3]
  omega
theorem Bth.outN {w : World} {TI TN : Nat → Nat} {A : Nat → Prop} {w' : World} {T' TF : Nat → Nat} (hA : ∀ x, A x ↔ (TI x ≠ 0 ∨ TN x ≠ 0)) (F : Frm TF (fun t => t ≠ 0) w w')
    {V : Nat → Prop} (h1 : ∀ x, x < w.heap.size → TN x = 0 → ¬ V x → TF x = 0 ∧ T' x = 0) : Out w (fun x => A x ∨ V x) w' (fun x => TI x ≠ 0 ∨ Bk.cap T' w'.heap.size x ≠ 0) := by
  refine ⟨F.os, F.tape, F.output, F.size, fun x hx hn => ?_⟩
  have hn1 : ¬ A x := fun h => hn (.inl h)
  have hn2 : ¬ V x := fun h => hn (.inr h)
  rw [hA x] at hn1
  obtain ⟨h2, h3⟩ := h1 x hx (by omega) hn2
  refine ⟨F.block x hx (by rw [h2]; simp), ?_⟩
  rw [Bk.cap_old (by have := F.size; omega), h3]
  omega
end Go.Proofs.YtpenaeoodfgmpaaGreatDoor
namespace Go.Proofs.YtpenaeoodfgmpaaGreatDoor
open Go.RowKit Bk

/-- The Book at K; A: its blocks. fI, fN: nothing of the kind is fresh. -/
def BthE (w : World) (lo K turn deep sI sN : Nat) (fI fN : Bool) (A : Nat → Prop) : Prop :=
  ∃ TI TN hsI hsN wsI osI frI wsN osN frN, Bth w lo K TI TN hsI hsN wsI osI frI wsN osN frN turn deep sI sN ∧ (fI = true → frI = []) ∧ (fN = true → frN = []) ∧ ∀ b, A b ↔ (TI b ≠ 0 ∨ TN b ≠ 0)
theorem hs8 {hs : List Value} (h : hs.length = 8) : ∃ a b c d e f g i, hs = [a, b, c, d, e, f, g, i] := by
  match hs, h with
  | [a, b, c, d, e, f, g, i], _ => exact ⟨a, b, c, d, e, f, g, i, rfl⟩
section
variable {w : World} {lo K turn deep sI sN : Nat} {fp fq : Bool} {A : Nat → Prop}
theorem BthE.lt (h : BthE w lo K turn deep sI sN fp fq A) : ∀ b, A b → b < w.heap.size := by
  obtain ⟨TI, TN, hsI, hsN, wsI, osI, frI, wsN, osN, frN, b, hI, hN, hA⟩ := h
  intro x hx
  rcases Nat.lt_or_ge x w.heap.size with h | h
  · exact h
  · have h1 := b.i.fin x h
    have h2 := b.n.fin x h
    rw [hA x] at hx; omega
theorem BthE.ge (h : BthE w lo K turn deep sI sN fp fq A) : ∀ b, A b → lo ≤ b := by
  obtain ⟨TI, TN, hsI, hsN, wsI, osI, frI, wsN, osN, frN, b, hI, hN, hA⟩ := h
  intro x hx
  rcases Nat.lt_or_ge x lo with h | h
  · have h1 := b.i.rows.low x h
    have h2 := b.n.rows.low x h
    rw [hA x] at hx; omega
  · exact h
theorem BthE.at (h : BthE w lo K turn deep sI sN fp fq A) : A K ∧ lo ≤ K ∧ K < w.heap.size ∧ w.cell? ⟨K, 1, none⟩ = some (.bool false) ∧ w.cell? ⟨K, 2, none⟩ = some (.int .i64 turn) ∧ w.cell? ⟨K, 3, none⟩ = some (.int .i64 deep) ∧ ∀ o, w.frozen? ⟨K, o, none⟩ = false := by
  obtain ⟨TI, TN, hsI, hsN, wsI, osI, frI, wsN, osN, frN, b, hI, hN, hA⟩ := h
  exact ⟨by rw [hA K, b.i.rows.tK]; simp, b.i.rows.ge, b.i.rows.lt, b.i.rows.rest 1 (by decide) (by decide), b.i.rows.rest 2 (by decide) (by decide), b.i.rows.rest 3 (by decide) (by decide), b.i.rows.fz⟩
theorem BthE.idle (h : BthE w lo K turn deep sI sN fp fq A) : Idle w K := by
  obtain ⟨TI, TN, hsI, hsN, wsI, osI, frI, wsN, osN, frN, b, hI, hN, hA⟩ := h
  intro o h1 h2 h3 h4
  rw [b.i.rows.rest o h2 (by omega)]
  simp only [KI.zB, zI]
  rw [if_neg (by omega), if_neg (by omega), if_neg (by omega), if_neg (by omega), if_neg (by omega), if_neg (by omega)]
/-- What is the Book's own stays: so does the Book. -/
theorem BthE.keep (h : BthE w lo K turn deep sI sN fp fq A) {w' : World} (hs : w.heap.size ≤ w'.heap.size) (hb : ∀ b, A b → w'.heap[b]? = w.heap[b]?) (ho : w'.os = w.os) (ht : w'.tape = w.tape) (hu : w'.output = w.output) : BthE w' lo K turn deep sI sN fp fq A := by
  obtain ⟨TI, TN, hsI, hsN, wsI, osI, frI, wsN, osN, frN, b, hI, hN, hA⟩ := h
  have F : Frm TI (fun t => t = 0) w w' := ⟨ho, ht, hu, hs, fun x _ hn => hb x ((hA x).2 (.inl hn))⟩
  have F2 : Frm TN (fun t => t = 0) w w' := ⟨ho, ht, hu, hs, fun x _ hn => hb x ((hA x).2 (.inr hn))⟩
  exact ⟨_, _, _, _, _, _, _, _, _, _, ⟨⟨b.i.rows.frm F (fun t h1 _ => by omega), b.i.kp.frm F (fun t h1 => by omega) (fun _ _ => rfl), fun x hx => b.i.fin x (by omega), b.i.idw, b.i.idf, b.i.tag, b.i.nw, b.i.no⟩,
    ⟨b.n.rows.frm F2 (fun t h1 _ => by omega), b.n.kp.frm F2 (fun t h1 => by omega) (fun _ _ => rfl), fun x hx => b.n.fin x (by omega), b.n.idw, b.n.idf, b.n.tag, b.n.nw, b.n.no⟩, b.sep⟩, hI, hN, hA⟩
theorem BthE.up (h : BthE w lo K turn deep sI sN fp fq A) {w' : World} (hb : Below w.heap.size w w') : BthE w' lo K turn deep sI sN fp fq A :=
  h.keep hb.size (fun x hx => hb.block x (h.lt x hx)) hb.os hb.tape hb.output
/-- Its depth, its turn are set. -/
theorem BthE.deep' (h : BthE w lo K turn deep sI sN fp fq A) (d : Nat) : ∃ A', BthE (w.setCell ⟨K, 3, none⟩ (.int .i64 (d : Int))) lo K turn d sI sN fp fq A' ∧ Out w A (w.setCell ⟨K, 3, none⟩ (.int .i64 (d : Int))) A' := by
  obtain ⟨TI, TN, hsI, hsN, wsI, osI, frI, wsN, osN, frN, b, hI, hN, hA⟩ := h
  obtain ⟨r, l, f⟩ := put2 b.i.rows b.i.kp 3 (by decide) (by decide) (.int .i64 (d : Int))
  have f' : Frm TI (fun t => t ≠ 0) w (w.setCell ⟨K, 3, none⟩ (.int .i64 (d : Int))) := f.mono fun x _ e => by omega
  have nb := b.stepI (s' := sI) (turn' := turn) (deep' := d) (r.zext (by
    intro o h1 h2
    simp only [KI.zB]
    by_cases h3 : o = 3
    · subst h3; simp
    · simp [h3])) l f' (fun x _ hk hn => by have := b.sep x hk; omega) (fun x _ hk hn => by have := b.sep x hk; omega) b.i.idw b.i.idf b.i.tag b.i.nw b.i.no
  exact ⟨_, ⟨_, _, _, _, _, _, _, _, _, _, nb, hI, hN, fun _ => Iff.rfl⟩, (Bth.outI hA f' (V := fun _ => False) (fun x hx h _ => ⟨h, h⟩)).mono fun _ h => h.elim id False.elim⟩
theorem BthE.turn' (h : BthE w lo K turn deep sI sN fp fq A) (d : Nat) : ∃ A', BthE (w.setCell ⟨K, 2, none⟩ (.int .i64 (d : Int))) lo K d deep sI sN fp fq A' ∧ Out w A (w.setCell ⟨K, 2, none⟩ (.int .i64 (d : Int))) A' := by
  obtain ⟨TI, TN, hsI, hsN, wsI, osI, frI, wsN, osN, frN, b, hI, hN, hA⟩ := h
  obtain ⟨r, l, f⟩ := put2 b.i.rows b.i.kp 2 (by decide) (by decide) (.int .i64 (d : Int))
  have f' : Frm TI (fun t => t ≠ 0) w (w.setCell ⟨K, 2, none⟩ (.int .i64 (d : Int))) := f.mono fun x _ e => by omega
  have nb := b.stepI (s' := sI) (turn' := d) (deep' := deep) (r.zext (by
    intro o h1 h2
    simp only [KI.zB]
    by_cases h3 : o = 2
    · subst h3; simp
    · simp [h3])) l f' (fun x _ hk hn => by have := b.sep x hk; omega) (fun x _ hk hn => by have := b.sep x hk; omega) b.i.idw b.i.idf b.i.tag b.i.nw b.i.no
  exact ⟨_, ⟨_, _, _, _, _, _, _, _, _, _, nb, hI, hN, fun _ => Iff.rfl⟩, (Bth.outI hA f' (V := fun _ => False) (fun x hx h _ => ⟨h, h⟩)).mono fun _ h => h.elim id False.elim⟩
end
theorem markI {w : World} {lo K turn sI sN : Nat} {fq : Bool} {A : Nat → Prop} (h : BthE w lo K turn 0 sI sN true fq A) (hs : sI ≤ 300000) :
    Calls Tryz.prog 101 #[.pointer (some ⟨K, 0, none⟩)] w fun e w' => e = .returned (.tuple #[]) ∧ ∃ A', BthE w' lo K turn 0 sI sN false fq A' ∧ Out w A w' A' := by
  obtain ⟨TI, TN, hsI, hsN, wsI, osI, frI, wsN, osN, frN, b, hI, hN, hA⟩ := h
  obtain rfl := hI rfl
  obtain ⟨a0, a1, a2, a3, a4, a5, a6, a7, rfl⟩ := hs8 b.i.rows.nh
  have n1 := b.i.nw
  have n2 := b.i.no
  simp only [List.length_nil] at n1 n2
  have bk : KI.BookSt (zI hsN sN) w lo K TI [a0, a1, a2, a3, a4, a5, a6, a7] wsI osI turn 0 sI := ⟨b.i.rows, b.i.kp, b.i.idw, b.i.tag, by omega, by omega⟩
  refine (KI.mark_any w lo K TI a0 a1 a2 a3 a4 a5 a6 a7 wsI osI turn sI bk hs).mono ?_
  rintro e w' ⟨rfl, T', hs', ws', os', fr', M, l1, l2, l3, i1, i2, i3⟩
  have nb := b.stepI M.rows M.kp M.frm (fun x _ hk hn => by have := b.sep x hk; omega) (fun x hx hk hn => (M.zero x hx).2 (by have := b.sep x hk; omega)) i1 i2 i3 (by omega) (by omega)
  exact ⟨rfl, _, ⟨_, _, _, _, _, _, _, _, _, _, nb, (fun h => by cases h), hN, fun _ => Iff.rfl⟩, (Bth.outI hA M.frm (V := fun _ => False) (fun x hx h _ => ⟨h, (M.zero x hx).2 h⟩)).mono fun _ h => h.elim id False.elim⟩
theorem growI {w : World} {lo K turn sI sN : Nat} {fp fq : Bool} {A : Nat → Prop} (h : BthE w lo K turn 0 sI sN fp fq A) (hs : sI ≤ 300000) :
    Calls Tryz.prog 117 #[.pointer (some ⟨K, 0, none⟩)] w fun e w' => e = .returned (.tuple #[]) ∧ ∃ A', BthE w' lo K turn 0 sI sN true fq A' ∧ Out w A w' A' := by
  obtain ⟨TI, TN, hsI, hsN, wsI, osI, frI, wsN, osN, frN, b, hI, hN, hA⟩ := h
  obtain ⟨a0, a1, a2, a3, a4, a5, a6, a7, rfl⟩ := hs8 b.i.rows.nh
  have n1 := b.i.nw
  have n2 := b.i.no
  have M0 : KI.Mid w TI lo K (KI.zB (zI hsN sN) turn 0 sI) w TI [a0, a1, a2, a3, a4, a5, a6, a7] (KI.XB wsI osI frI) wsI osI frI [] [] := ⟨b.i.rows, b.i.kp, Frm.refl _ _ _, fun _ _ => Iff.rfl⟩
  refine (KI.grow_any w TI w lo K TI a0 a1 a2 a3 a4 a5 a6 a7 wsI osI frI turn sI M0 b.i.tag b.i.idf (by omega) (by omega)).mono ?_
  rintro e w' ⟨rfl, T', hs', os', M, l1, i3⟩
  have nb := b.stepI M.rows M.kp M.frm (fun x _ hk hn => by have := b.sep x hk; omega) (fun x hx hk hn => (M.zero x hx).2 (by have := b.sep x hk; omega)) b.i.idw (by simp) i3 (by simp; omega) (by simp; omega)
  exact ⟨rfl, _, ⟨_, _, _, _, _, _, _, _, _, _, nb, (fun _ => rfl), hN, fun _ => Iff.rfl⟩, (Bth.outI hA M.frm (V := fun _ => False) (fun x hx h _ => ⟨h, (M.zero x hx).2 h⟩)).mono fun _ h => h.elim id False.elim⟩
theorem entI {w : World} {lo K turn sI sN : Nat} {fq : Bool} {A : Nat → Prop} (h : BthE w lo K turn 1 sI sN true fq A) (v : Value) (l : List It) (mark : Nat) (hv : KI.OwnsR w lo v l) (hf : ∀ b, v.ownBlock = some b → ¬ A b) (hc : l.length ≤ 1000000) (hm : mark ≤ 100000000) (ht : turn ≤ 300000) (hs : sI ≤ 300000) :
    Calls Tryz.prog 26 #[.pointer (some ⟨K, 0, none⟩), v, .int .i64 mark] w fun e w' => e = .returned (.tuple #[]) ∧ ∃ A', BthE w' lo K turn 1 (sI + 1) sN true fq A' ∧ Out w (fun b => A b ∨ v.ownBlock = some b) w' A' := by
  obtain ⟨TI, TN, hsI, hsN, wsI, osI, frI, wsN, osN, frN, b, hI, hN, hA⟩ := h
  obtain rfl := hI rfl
  have n1 := b.i.nw
  have n2 := b.i.no
  simp only [List.length_nil] at n1 n2
  have bk : KI.BookSt (zI hsN sN) w lo K TI hsI wsI osI turn 1 sI := ⟨b.i.rows, b.i.kp, b.i.idw, b.i.tag, by omega, by omega⟩
  have hf' : ∀ x, v.ownBlock = some x → TI x = 0 ∧ TN x = 0 := fun x hx => by have := hf x hx; rw [hA x] at this; omega
  refine (KI.ent_any w lo K TI hsI wsI osI turn sI v l mark bk hv (fun x hx => by have := hf' x hx; omega) hc hm ht hs).mono ?_
  rintro e w' ⟨rfl, T1, hs1, ws1, b1, f1, t1⟩
  have o1 := b1.nw
  have o2 := b1.no
  have ne : ∀ x, TN x ≠ 0 → v.ownBlock ≠ some x := fun x hx e => by have := hf' x e; omega
  have nb := b.stepI (fr' := []) b1.rows b1.kp f1 (fun x _ hk hn => by rw [adopt_other (ne x hn)]; have := b.sep x hk; omega) (fun x hx hk hn => by rw [t1 x hx (ne x hn)]; have := b.sep x hk; omega) b1.ids (by simp) b1.tags (by simp; omega) (by simp; omega)
  exact ⟨rfl, _, ⟨_, _, _, _, _, _, _, _, _, _, nb, (fun _ => rfl), hN, fun _ => Iff.rfl⟩, Bth.outI hA f1 (V := fun x => v.ownBlock = some x) (fun x hx h hn => ⟨by rw [adopt_other hn]; exact h, by rw [t1 x hx hn]; exact h⟩)⟩
theorem markN {w : World} {lo K turn sI sN : Nat} {fq : Bool} {A : Nat → Prop} (h : BthE w lo K turn 0 sI sN fq true A) (hs : sN ≤ 300000) :
    Calls Tryz.prog 96 #[.pointer (some ⟨K, 0, none⟩)] w fun e w' => e = .returned (.tuple #[]) ∧ ∃ A', BthE w' lo K turn 0 sI sN fq false A' ∧ Out w A w' A' := by
  obtain ⟨TI, TN, hsI, hsN, wsI, osI, frI, wsN, osN, frN, b, hI, hN, hA⟩ := h
  obtain rfl := hN rfl
  obtain ⟨a0, a1, a2, a3, a4, a5, a6, a7, rfl⟩ := hs8 b.n.rows.nh
  have n1 := b.n.nw
  have n2 := b.n.no
  simp only [List.length_nil] at n1 n2
  have bk : KN.BookSt (zN hsI sI) w lo K TN [a0, a1, a2, a3, a4, a5, a6, a7] wsN osN turn 0 sN := ⟨b.n.rows, b.n.kp, b.n.idw, b.n.tag, by omega, by omega⟩
  refine (KN.mark_any w lo K TN a0 a1 a2 a3 a4 a5 a6 a7 wsN osN turn sN bk hs).mono ?_
  rintro e w' ⟨rfl, T', hs', ws', os', fr', M, l1, l2, l3, i1, i2, i3⟩
  have nb := b.stepN M.rows M.kp M.frm (fun x _ hk hn => by have := b.sep x hk; omega) (fun x hx hk hn => (M.zero x hx).2 (by have := b.sep x hk; omega)) i1 i2 i3 (by omega) (by omega)
  exact ⟨rfl, _, ⟨_, _, _, _, _, _, _, _, _, _, nb, hI, (fun h => by cases h), fun _ => Iff.rfl⟩, (Bth.outN hA M.frm (V := fun _ => False) (fun x hx h _ => ⟨h, (M.zero x hx).2 h⟩)).mono fun _ h => h.elim id False.elim⟩
theorem growN {w : World} {lo K turn sI sN : Nat} {fp fq : Bool} {A : Nat → Prop} (h : BthE w lo K turn 0 sI sN fq fp A) (hs : sN ≤ 300000) :
    Calls Tryz.prog 112 #[.pointer (some ⟨K, 0, none⟩)] w fun e w' => e = .returned (.tuple #[]) ∧ ∃ A', BthE w' lo K turn 0 sI sN fq true A' ∧ Out w A w' A' := by
  obtain ⟨TI, TN, hsI, hsN, wsI, osI, frI, wsN, osN, frN, b, hI, hN, hA⟩ := h
  obtain ⟨a0, a1, a2, a3, a4, a5, a6, a7, rfl⟩ := hs8 b.n.rows.nh
  have n1 := b.n.nw
  have n2 := b.n.no
  have M0 : KN.Mid w TN lo K (KN.zB (zN hsI sI) turn 0 sN) w TN [a0, a1, a2, a3, a4, a5, a6, a7] (KN.XB wsN osN frN) wsN osN frN [] [] := ⟨b.n.rows, b.n.kp, Frm.refl _ _ _, fun _ _ => Iff.rfl⟩
  refine (KN.grow_any w TN w lo K TN a0 a1 a2 a3 a4 a5 a6 a7 wsN osN frN turn sN M0 b.n.tag b.n.idf (by omega) (by omega)).mono ?_
  rintro e w' ⟨rfl, T', hs', os', M, l1, i3⟩
  have nb := b.stepN M.rows M.kp M.frm (fun x _ hk hn => by have := b.sep x hk; omega) (fun x hx hk hn => (M.zero x hx).2 (by have := b.sep x hk; omega)) b.n.idw (by simp) i3 (by simp; omega) (by simp; omega)
  exact ⟨rfl, _, ⟨_, _, _, _, _, _, _, _, _, _, nb, hI, (fun _ => rfl), fun _ => Iff.rfl⟩, (Bth.outN hA M.frm (V := fun _ => False) (fun x hx h _ => ⟨h, (M.zero x hx).2 h⟩)).mono fun _ h => h.elim id False.elim⟩
theorem entN {w : World} {lo K turn sI sN : Nat} {fq : Bool} {A : Nat → Prop} (h : BthE w lo K turn 1 sI sN fq true A) (v : Value) (l : List Int) (mark : Nat) (hv : KN.OwnsR w lo v l) (hf : ∀ b, v.ownBlock = some b → ¬ A b) (hc : l.length ≤ 1000000) (hm : mark ≤ 100000000) (ht : turn ≤ 300000) (hs : sN ≤ 300000) :
    Calls Tryz.prog 27 #[.pointer (some ⟨K, 0, none⟩), v, .int .i64 mark] w fun e w' => e = .returned (.tuple #[]) ∧ ∃ A', BthE w' lo K turn 1 sI (sN + 1) fq true A' ∧ Out w (fun b => A b ∨ v.ownBlock = some b) w' A' := by
  obtain ⟨TI, TN, hsI, hsN, wsI, osI, frI, wsN, osN, frN, b, hI, hN, hA⟩ := h
  obtain rfl := hN rfl
  have n1 := b.n.nw
  have n2 := b.n.no
  simp only [List.length_nil] at n1 n2
  have bk : KN.BookSt (zN hsI sI) w lo K TN hsN wsN osN turn 1 sN := ⟨b.n.rows, b.n.kp, b.n.idw, b.n.tag, by omega, by omega⟩
  have hf' : ∀ x, v.ownBlock = some x → TI x = 0 ∧ TN x = 0 := fun x hx => by have := hf x hx; rw [hA x] at this; omega
  refine (KN.ent_any w lo K TN hsN wsN osN turn sN v l mark bk hv (fun x hx => by have := hf' x hx; omega) hc hm ht hs).mono ?_
  rintro e w' ⟨rfl, T1, hs1, ws1, b1, f1, t1⟩
  have o1 := b1.nw
  have o2 := b1.no
  have ne : ∀ x, TI x ≠ 0 → v.ownBlock ≠ some x := fun x hx e => by have := hf' x e; omega
  have nb := b.stepN (fr' := []) b1.rows b1.kp f1 (fun x _ hk hn => by rw [adopt_other (ne x hn)]; have := b.sep x hk; omega) (fun x hx hk hn => by rw [t1 x hx (ne x hn)]; have := b.sep x hk; omega) b1.ids (by simp) b1.tags (by simp; omega) (by simp; omega)
  exact ⟨rfl, _, ⟨_, _, _, _, _, _, _, _, _, _, nb, hI, (fun _ => rfl), fun _ => Iff.rfl⟩, Bth.outN hA f1 (V := fun x => v.ownBlock = some x) (fun x hx h hn => ⟨by rw [adopt_other hn]; exact h, by rw [t1 x hx hn]; exact h⟩)⟩
theorem holdI {w : World} {lo K turn deep sI sN : Nat} {fp fq : Bool} {A : Nat → Prop} (h : BthE w lo K turn deep sI sN fp fq A) (hs : sI ≤ 300000) :
    Calls Tryz.prog 35 #[.pointer (some ⟨K, 0, none⟩)] w fun e w' => e = .returned (.bool true) ∧ Below w.heap.size w w' := by
  obtain ⟨TI, TN, hsI, hsN, wsI, osI, frI, wsN, osN, frN, b, hI, hN, hA⟩ := h
  obtain ⟨a0, a1, a2, a3, a4, a5, a6, a7, rfl⟩ := hs8 b.i.rows.nh
  have n1 := b.i.nw
  have n2 := b.i.no
  have r0 := b.i.rows.row 0 (by decide)
  have r1 := b.i.rows.row 1 (by decide)
  have r2 := b.i.rows.row 2 (by decide)
  have r3 := b.i.rows.row 3 (by decide)
  simp only [KI.XB, List.getD_cons_succ, List.getD_cons_zero, List.length_map] at r0 r1 r2 r3
  refine KI.hold_any lo K (osI.map fun o => ⟨o.v, o.tv, o.c⟩) (wsI.map fun x => ⟨x.v, x.nv, x.c⟩) a0 a1 a2 a3 w (b.i.rows.cell 0 (by decide)) (b.i.rows.cell 1 (by decide)) (b.i.rows.cell 2 (by decide)) (b.i.rows.cell 3 (by decide)) ?_ ?_ ?_ ?_ ?_ ?_ ?_ ?_
  · simpa [KI.tyB, Function.comp_def] using r0
  · simpa [KI.tyB, Function.comp_def] using r1
  · simpa [KI.tyB, Function.comp_def] using r2
  · simpa [KI.tyB, Function.comp_def] using r3
  · intro x hx
    obtain ⟨o, ho, rfl⟩ := List.mem_map.1 hx
    have k := b.i.kp.outs o ho
    exact ⟨k.1, k.2.1, k.2.2.2.2.2⟩
  · intro x hx
    obtain ⟨o, ho, rfl⟩ := List.mem_map.1 hx
    have k := b.i.kp.waits o ho
    exact ⟨KI.OwnsR.hasq (lo := lo) k.1.1, KI.OwnsR.hasq (lo := lo) k.2.1, by have := k.1.2.2.1; show o.c.length ≤ _; omega⟩
  · simp; omega
  · simp; omega
theorem holdN {w : World} {lo K turn deep sI sN : Nat} {fp fq : Bool} {A : Nat → Prop} (h : BthE w lo K turn deep sI sN fp fq A) (hs : sN ≤ 300000) :
    Calls Tryz.prog 30 #[.pointer (some ⟨K, 0, none⟩)] w fun e w' => e = .returned (.bool true) ∧ Below w.heap.size w w' := by
  obtain ⟨TI, TN, hsI, hsN, wsI, osI, frI, wsN, osN, frN, b, hI, hN, hA⟩ := h
  obtain ⟨a0, a1, a2, a3, a4, a5, a6, a7, rfl⟩ := hs8 b.n.rows.nh
  have n1 := b.n.nw
  have n2 := b.n.no
  have r0 := b.n.rows.row 0 (by decide)
  have r1 := b.n.rows.row 1 (by decide)
  have r2 := b.n.rows.row 2 (by decide)
  have r3 := b.n.rows.row 3 (by decide)
  simp only [KN.XB, List.getD_cons_succ, List.getD_cons_zero, List.length_map] at r0 r1 r2 r3
  refine KN.hold_any lo K (osN.map fun o => ⟨o.v, o.tv, o.c⟩) (wsN.map fun x => ⟨x.v, x.nv, x.c⟩) a0 a1 a2 a3 w (b.n.rows.cell 0 (by decide)) (b.n.rows.cell 1 (by decide)) (b.n.rows.cell 2 (by decide)) (b.n.rows.cell 3 (by decide)) ?_ ?_ ?_ ?_ ?_ ?_ ?_ ?_
  · simpa [KN.tyB, Function.comp_def] using r0
  · simpa [KN.tyB, Function.comp_def] using r1
  · simpa [KN.tyB, Function.comp_def] using r2
  · simpa [KN.tyB, Function.comp_def] using r3
  · intro x hx
    obtain ⟨o, ho, rfl⟩ := List.mem_map.1 hx
    have k := b.n.kp.outs o ho
    exact ⟨k.1, k.2.1, k.2.2.2.2.2⟩
  · intro x hx
    obtain ⟨o, ho, rfl⟩ := List.mem_map.1 hx
    have k := b.n.kp.waits o ho
    exact ⟨KN.OwnsR.hasq (lo := lo) k.1.1, KN.OwnsR.hasq (lo := lo) k.2.1, by have := k.1.2.2.1; show o.c.length ≤ _; omega⟩
  · simp; omega
  · simp; omega

/-- done, at the end of the greater entry. -/
theorem done_all {w : World} {lo K turn sI sN : Nat} {A : Nat → Prop} (h : BthE w lo K turn 1 sI sN true true A) (hI : sI ≤ 300000) (hN : sN ≤ 300000) (ht : turn ≤ 300000) :
    Calls Tryz.prog 28 #[.pointer (some ⟨K, 0, none⟩)] w fun e w' => e = .returned (.tuple #[]) ∧ ∃ A', BthE w' lo K (turn + 1) 0 sI sN true true A' ∧ Out w A w' A' := by
  obtain ⟨A0, h0, o0⟩ := h.deep' 0
  obtain ⟨-, -, -, -, -, c3, fz⟩ := h.at
  have e0 : (Value.int .i64 ((0 : Nat) : Int)) = .int .i64 0 := rfl
  rw [e0] at h0 o0
  refine (done_by K turn w (fun w' => ∃ A', BthE w' lo K turn 0 sI sN false false A' ∧ Out w A w' A') (fun w' => ∃ A', BthE w' lo K turn 0 sI sN true true A' ∧ Out w A w' A') c3 fz (by omega) ?_ ?_ ?_).mono ?_
  · refine marks_by K _ (fun w' => ∃ A', BthE w' lo K turn 0 sI sN true false A' ∧ Out w A w' A') _ ((markN h0 hN).mono ?_) ?_ ?_ ?_ h0.idle
    · rintro e w' ⟨rfl, A', h1, o1⟩
      exact ⟨rfl, A', h1, o0.trans o1⟩
    · rintro w1 ⟨A1, h1, o1⟩
      refine (markI h1 hI).mono ?_
      rintro e w' ⟨rfl, A', h2, o2⟩
      exact ⟨rfl, A', h2, o1.trans o2⟩
    · rintro w' ⟨_, h, _⟩
      exact h.idle
    · rintro w' ⟨_, h, _⟩
      exact h.idle
  · rintro w1 ⟨A1, h1, o1⟩
    refine grows_by K w1 (fun w' => ∃ A', BthE w' lo K turn 0 sI sN false true A' ∧ Out w A w' A') _ ((growN h1 hN).mono ?_) ?_ ?_ ?_ h1.idle h1.at.2.2.2.2.2.2
    · rintro e w' ⟨rfl, A', h2, o2⟩
      exact ⟨rfl, A', h2, o1.trans o2⟩
    · rintro w2 ⟨A2, h2, o2⟩
      refine (growI h2 hI).mono ?_
      rintro e w' ⟨rfl, A', h3, o3⟩
      exact ⟨rfl, A', h3, o2.trans o3⟩
    · rintro w' ⟨_, h, _⟩
      exact ⟨h.idle, h.at.2.2.2.2.2.2⟩
    · rintro w' ⟨_, h, _⟩
      exact ⟨h.idle, h.at.2.2.2.2.2.2⟩
  · rintro w2 ⟨_, h, _⟩
    exact ⟨h.at.2.2.2.2.1, h.at.2.2.2.2.2.2⟩
  · rintro e w' ⟨rfl, w2, ⟨A2, h2, o2⟩, rfl⟩
    obtain ⟨A3, h3, o3⟩ := h2.turn' (turn + 1)
    exact ⟨rfl, A3, h3, o2.trans o3⟩

/-- Hold. -/
theorem hold_all {w : World} {lo K turn deep sI sN : Nat} {fp fq : Bool} {A : Nat → Prop} (h : BthE w lo K turn deep sI sN fp fq A) (hI : sI ≤ 300000) (hN : sN ≤ 300000) :
    Calls Tryz.prog 11 #[.pointer (some ⟨K, 0, none⟩)] w fun e w' => e = .returned (.bool true) ∧ Below w.heap.size w w' :=
  hold_by K w (fun w' => Below w.heap.size w w') (fun w' => Below w.heap.size w w') (holdN h hN)
    (fun _ b1 => ((holdI (h.up b1) hI).mono fun _ _ ⟨h1, h2⟩ => ⟨h1, b1.trans (h2.mono b1.size)⟩)) (fun _ b => (h.up b).idle) (fun _ b => (h.up b).idle) h.idle h.at.2.2.2.1
end Go.Proofs.YtpenaeoodfgmpaaGreatDoor
namespace Go.Proofs.YtpenaeoodfgmpaaGreatDoor
open Go.RowKit Bk

set_option maxHeartbeats 2000000 in
set_option maxRecDepth 100000 in
theorem bookPlan {w : World} {lo K n : Nat} {A : Nat → Prop} (h : BthE w lo K n 0 n n true true A) (vi vl : Value) (I : List It) (R : List Int) (a b c d : Int) (mark : Nat) (hi : OwnsI w lo vi I) (hl : OwnsN w lo vl R) (hne : vi.ownBlock = none ∨ vi.ownBlock ≠ vl.ownBlock)
    (fi : ∀ x, vi.ownBlock = some x → ¬ A x) (fl : ∀ x, vl.ownBlock = some x → ¬ A x) (hI : I.length ≤ 1000) (hR : R.length ≤ 1000) (hm : mark ≤ 100000) (hn : n ≤ 1000) :
    Calls Tryz.prog 10 #[.pointer (some ⟨K, 0, none⟩), .agg (pRow vi vl a b c d), .int .i64 mark] w fun e w' => e = .returned (.tuple #[]) ∧ ∃ A', BthE w' lo K (n + 1) 0 (n + 1) (n + 1) true true A' ∧ Out w (fun x => A x ∨ vi.ownBlock = some x ∨ vl.ownBlock = some x) w' A' := by
  obtain ⟨pi, ci, ei⟩ := row_form hi
  obtain ⟨pl, cl, el⟩ := row_form hl
  obtain ⟨B, hB⟩ : ∃ B, w.heap.size = B := ⟨_, rfl⟩
  obtain ⟨w1, hw1⟩ : ∃ w1, w.alloc (.cells (pRow vi vl a b c d) 55) = w1 := ⟨_, rfl⟩
  have g1 : G w w1 := by rw [← hw1]; exact G.al _ _
  have s1 : w1.heap.size = B + 1 := by rw [← hw1, World.size_alloc, hB]
  have r1 : w1.heap[B]? = some (.cells (pRow vi vl a b c d) 55 (0, 0)) := by
    rw [← hw1, ← hB]; exact heap_alloc_new _ _
  have h1 := h.up g1
  obtain ⟨A2, h2, o2⟩ := h1.deep' 1
  obtain ⟨w2, hw2⟩ : ∃ w2, w1.setCell ⟨K, 3, none⟩ (.int .i64 1) = w2 := ⟨_, rfl⟩
  have e1 : (Value.int .i64 ((1 : Nat) : Int)) = .int .i64 1 := rfl
  rw [e1, hw2] at h2 o2
  have nB : ¬ A B := fun e => by have := h.lt B e; omega
  obtain ⟨q2, n2⟩ := o2.block B (by omega) nB
  have r2 := q2.trans r1
  have blk : ∀ x, x < w.heap.size → ¬ A x → w2.heap[x]? = w.heap[x]? ∧ ¬ A2 x := fun x hx hn => by
    obtain ⟨e, n⟩ := o2.block x (by omega) hn
    exact ⟨e.trans (g1.block x hx), n⟩
  have hi2 : KI.OwnsR w2 lo vi I := rowB hi fun x hx => (blk x (World.ownsRow.lt hi x hx).2 (fi x hx)).1
  have hl2 : KN.OwnsR w2 lo vl R := rowB hl fun x hx => (blk x (World.ownsRow.lt hl x hx).2 (fl x hx)).1
  have C1 := hid (entI h2 vi I mark hi2 (fun x hx => (blk x (World.ownsRow.lt hi x hx).2 (fi x hx)).2) (by omega) (by omega) (by omega) (by omega))
  have viB : vi.ownBlock ≠ some B := fun e => by have := (World.ownsRow.lt hi B e).2; omega
  have vlB : vl.ownBlock ≠ some B := fun e => by have := (World.ownsRow.lt hl B e).2; omega
  have C2 := hid (fun w3 A3 (h3 : BthE w3 lo K n 1 (n + 1) n true true A3) (o3 : Out w2 (fun x => A2 x ∨ vi.ownBlock = some x) w3 A3) => by
    have nvl : ∀ x, vl.ownBlock = some x → ¬ (A2 x ∨ vi.ownBlock = some x) := fun x hx => by
      rintro (e | e)
      · exact (blk x (World.ownsRow.lt hl x hx).2 (fl x hx)).2 e
      · rcases hne with k | k
        · rw [k] at e; cases e
        · exact k (e.trans hx.symm)
    have lt2 : ∀ x, vl.ownBlock = some x → x < w2.heap.size := fun x hx => (World.ownsRow.lt hl2 x hx).2
    have hl3 : KN.OwnsR w3 lo vl R := rowB hl2 fun x hx => (o3.block x (lt2 x hx) (nvl x hx)).1
    exact entN h3 vl R (mark + 1) hl3 (fun x hx => (o3.block x (lt2 x hx) (nvl x hx)).2) (by omega) (by omega) (by omega) (by omega))
  have s2 : B < w2.heap.size := (Array.getElem?_eq_some_iff.1 r2).1
  have R3 := hid (fun w3 A3 (o3 : Out w2 (fun x => A2 x ∨ vi.ownBlock = some x) w3 A3) => ((o3.block B s2 (fun e => e.elim n2 viB)).1.trans r2 : w3.heap[B]? = some (.cells (pRow vi vl a b c d) 55 (0, 0))))
  have O2 : Hid (Out w A w2 A2) := ⟨o2.os.trans g1.os, o2.tape.trans g1.tape, o2.output.trans g1.output, Nat.le_trans g1.size o2.size, fun x hx hn => blk x hx hn⟩
  have c3 : w1.cell? ⟨K, 3, none⟩ = some (.int .i64 0) := h1.at.2.2.2.2.2.1
  have fz : ∀ o, w1.frozen? ⟨K, o, none⟩ = false := h1.at.2.2.2.2.2.2
  have d0 : w2.cell? ⟨B, 0, none⟩ = some vi := cell_of_row _ _ 0 _ _ _ r2
  clear h h1 h2 o2 g1 blk hi hl hi2 hl2 hne fi fl viB vlB nB n2 q2 r1 r2 s2
  unfold pRow at hw1 ⊢
  rw [ei] at d0 hw1 ⊢
  rw [el] at hw1 ⊢
  go_enter Tryz.func10, Tryz.ntmps10
  go_wp2_with fail
  rw [ei] at C1
  refine C1.out.mono ?_
  rintro e w3 ⟨rfl, A3, h3, o3⟩
  rw [← ei] at o3
  have H3 := hid (C2.out w3 A3 h3 o3)
  have d1 : w3.cell? ⟨B, 1, none⟩ = some vl := cell_of_row _ _ 1 _ _ _ (R3.out w3 A3 o3)
  have O3 := hid (O2.out.trans1 o3)
  clear h3 o3 C1 C2 R3 O2
  rw [el] at d1 H3
  go_wp2_with fail
  refine H3.out.mono ?_
  rintro e w4 ⟨rfl, A4, h4, o4⟩
  rw [← el] at o4
  have H4 := hid (done_all h4 (by omega) (by omega) (by omega))
  have O4 := hid (O3.out.trans1 o4)
  clear h4 o4 H3 O3
  go_wp2_with fail
  refine H4.out.mono ?_
  rintro e w5 ⟨rfl, A5, h5, o5⟩
  have F5 := hid (And.intro h5 (O4.out.trans o5))
  clear h5 o5 H4 O4
  go_wp2
  go_end0
  refine ⟨rfl, A5, F5.out.1, F5.out.2.mono fun x hx => ?_⟩
  rw [← ei, ← el]
  rcases hx with (e | e) | e
  · exact .inl e
  · exact .inr (.inl e)
  · exact .inr (.inr e)

def bookObj : Obj := .cells #[Value.bool false, Value.bool false, Value.int .i64 0, Value.int .i64 0, Value.slice none 0 0, Value.slice none 0 0, Value.slice none 0 0, Value.slice none 0 0, Value.slice none 0 0, Value.slice none 0 0, Value.slice none 0 0, Value.slice none 0 0, Value.int .i64 0, Value.slice none 0 0, Value.slice none 0 0, Value.slice none 0 0, Value.slice none 0 0, Value.slice none 0 0, Value.slice none 0 0, Value.slice none 0 0, Value.slice none 0 0, Value.int .i64 0, Value.slice none 0 0, Value.slice none 0 0, Value.slice none 0 0, Value.slice none 0 0, Value.slice none 0 0, Value.slice none 0 0, Value.slice none 0 0, Value.slice none 0 0, Value.int .i64 0, Value.slice none 0 0, Value.slice none 0 0, Value.slice none 0 0, Value.slice none 0 0, Value.slice none 0 0, Value.slice none 0 0, Value.slice none 0 0, Value.slice none 0 0, Value.int .i64 0, Value.slice none 0 0, Value.slice none 0 0, Value.slice none 0 0, Value.slice none 0 0, Value.slice none 0 0, Value.slice none 0 0, Value.slice none 0 0, Value.slice none 0 0, Value.int .i64 0, Value.slice none 0 0, Value.slice none 0 0, Value.slice none 0 0, Value.slice none 0 0, Value.slice none 0 0, Value.slice none 0 0, Value.slice none 0 0, Value.slice none 0 0, Value.int .i64 0, Value.slice none 0 0, Value.slice none 0 0, Value.slice none 0 0, Value.slice none 0 0, Value.slice none 0 0, Value.slice none 0 0, Value.slice none 0 0, Value.slice none 0 0, Value.int .i64 0, Value.slice none 0 0, Value.slice none 0 0, Value.slice none 0 0, Value.slice none 0 0, Value.slice none 0 0, Value.slice none 0 0, Value.slice none 0 0, Value.slice none 0 0, Value.int .i64 0, Value.slice none 0 0, Value.slice none 0 0, Value.slice none 0 0, Value.slice none 0 0, Value.slice none 0 0, Value.slice none 0 0, Value.slice none 0 0, Value.slice none 0 0, Value.int .i64 0, Value.slice none 0 0, Value.slice none 0 0, Value.slice none 0 0, Value.slice none 0 0, Value.slice none 0 0, Value.slice none 0 0, Value.slice none 0 0, Value.slice none 0 0, Value.int .i64 0, Value.slice none 0 0, Value.slice none 0 0, Value.slice none 0 0, Value.slice none 0 0, Value.slice none 0 0, Value.slice none 0 0, Value.slice none 0 0, Value.slice none 0 0, Value.int .i64 0, Value.slice none 0 0, Value.slice none 0 0, Value.slice none 0 0, Value.slice none 0 0, Value.slice none 0 0, Value.slice none 0 0, Value.slice none 0 0, Value.slice none 0 0, Value.int .i64 0, Value.slice none 0 0, Value.slice none 0 0, Value.slice none 0 0, Value.slice none 0 0, Value.slice none 0 0, Value.slice none 0 0, Value.slice none 0 0, Value.slice none 0 0, Value.int .i64 0, Value.slice none 0 0, Value.slice none 0 0, Value.slice none 0 0, Value.slice none 0 0, Value.slice none 0 0, Value.slice none 0 0, Value.slice none 0 0, Value.slice none 0 0, Value.int .i64 0, Value.slice none 0 0, Value.slice none 0 0, Value.slice none 0 0, Value.slice none 0 0, Value.slice none 0 0, Value.slice none 0 0, Value.slice none 0 0, Value.slice none 0 0, Value.int .i64 0, Value.slice none 0 0, Value.slice none 0 0, Value.slice none 0 0, Value.slice none 0 0, Value.slice none 0 0, Value.slice none 0 0, Value.slice none 0 0, Value.slice none 0 0, Value.int .i64 0] 48
def bookCell (i : Nat) : Value := if i < 2 then .bool false else if i = 2 ∨ i = 3 then .int .i64 0 else idle i
theorem bookObj_eq : bookObj = .cells ((List.range 148).map bookCell).toArray 48 := by kernel_rfl
theorem idle_row (j : Nat) (hj : j < 8) : idle (58 + j) = nil0 ∧ idle (13 + j) = nil0 := by
  match j, hj with
  | 0, _ | 1, _ | 2, _ | 3, _ | 4, _ | 5, _ | 6, _ | 7, _ => exact ⟨rfl, rfl⟩
theorem idle_seen : idle 66 = .int .i64 0 ∧ idle 21 = .int .i64 0 := ⟨rfl, rfl⟩
theorem book_new (w : World) (lo : Nat) (hlo : lo ≤ w.heap.size) : BthE (w.alloc bookObj) lo w.heap.size 0 0 0 0 true true (fun b => b = w.heap.size) := by
  have h : (w.alloc bookObj).heap[w.heap.size]? = some bookObj := heap_alloc_new w bookObj
  have hc : ∀ i, i < 148 → (w.alloc bookObj).cell? ⟨w.heap.size, i, none⟩ = some (bookCell i) := fun i hi => by
    rw [bookObj_eq] at h ⊢
    simp only [World.cell?, h]
    show ((List.range 148).map bookCell).toArray[i]? = _
    rw [List.getElem?_toArray, List.getElem?_map, List.getElem?_range hi]
    rfl
  have hz : ∀ j, j < 8 → [nil0, nil0, nil0, nil0, nil0, nil0, nil0, nil0].getD j nil0 = nil0 := fun j hj => by
    match j, hj with
    | 0, _ | 1, _ | 2, _ | 3, _ | 4, _ | 5, _ | 6, _ | 7, _ => rfl
  have hx : ∀ j, (KI.XB [] [] []).getD j [] = [] := fun j => by
    match j with
    | 0 | 1 | 2 | 3 | 4 | 5 | 6 | 7 => rfl
    | n + 8 => rfl
  have hy : ∀ j, (KN.XB [] [] []).getD j [] = [] := fun j => by
    match j with
    | 0 | 1 | 2 | 3 | 4 | 5 | 6 | 7 => rfl
    | n + 8 => rfl
  have hf : ∀ o, (w.alloc bookObj).frozen? ⟨w.heap.size, o, none⟩ = false := fun o => by
    simp only [World.frozen?, h]
    simp [bookObj]
  have hcI : ∀ o, o < 148 → (o < 58 ∨ 66 ≤ o) → bookCell o = KI.zB (zI [nil0, nil0, nil0, nil0, nil0, nil0, nil0, nil0] 0) 0 0 0 o := fun o h1 h2 => by
    simp only [bookCell, KI.zB, zI]
    by_cases q1 : o < 2
    · rw [if_pos q1, if_pos q1]
    · rw [if_neg q1, if_neg q1]
      by_cases q2 : o = 2
      · subst q2; rfl
      · by_cases q3 : o = 3
        · subst q3; rfl
        · rw [if_neg (by omega), if_neg q2, if_neg q3]
          by_cases q4 : o = 66
          · subst q4; rw [if_pos rfl]; exact idle_seen.1
          · rw [if_neg q4]
            by_cases q5 : 13 ≤ o ∧ o < 21
            · rw [if_pos q5, hz _ (by omega)]
              have := (idle_row (o - 13) (by omega)).2
              rwa [show 13 + (o - 13) = o from by omega] at this
            · rw [if_neg q5]
              by_cases q6 : o = 21
              · subst q6; rw [if_pos rfl]; exact idle_seen.2
              · rw [if_neg q6]
  have hcN : ∀ o, o < 148 → (o < 13 ∨ 21 ≤ o) → bookCell o = KN.zB (zN [nil0, nil0, nil0, nil0, nil0, nil0, nil0, nil0] 0) 0 0 0 o := fun o h1 h2 => by
    simp only [bookCell, KN.zB, zN]
    by_cases q1 : o < 2
    · rw [if_pos q1, if_pos q1]
    · rw [if_neg q1, if_neg q1]
      by_cases q2 : o = 2
      · subst q2; rfl
      · by_cases q3 : o = 3
        · subst q3; rfl
        · rw [if_neg (by omega), if_neg q2, if_neg q3]
          by_cases q4 : o = 21
          · subst q4; rw [if_pos rfl]; exact idle_seen.2
          · rw [if_neg q4]
            by_cases q5 : 58 ≤ o ∧ o < 66
            · rw [if_pos q5, hz _ (by omega)]
              have := (idle_row (o - 58) (by omega)).1
              rwa [show 58 + (o - 58) = o from by omega] at this
            · rw [if_neg q5]
              by_cases q6 : o = 66
              · subst q6; rw [if_pos rfl]; exact idle_seen.1
              · rw [if_neg q6]
  have bc : ∀ o, 4 ≤ o → bookCell o = idle o := fun o ho => by
    simp only [bookCell]; rw [if_neg (by omega), if_neg (by omega)]
  have sz : (w.alloc bookObj).heap.size = w.heap.size + 1 := by simp
  let T : Nat → Nat := fun b => if b = w.heap.size then 1 else 0
  have fin : ∀ b, (w.alloc bookObj).heap.size ≤ b → T b = 0 := fun b hb => by show (if b = w.heap.size then 1 else 0) = 0; rw [if_neg (by omega)]
  have low : ∀ b, b < lo → T b = 0 := fun b hb => by show (if b = w.heap.size then 1 else 0) = 0; rw [if_neg (by omega)]
  have tK : T w.heap.size = 1 := by show (if w.heap.size = w.heap.size then 1 else 0) = 1; rw [if_pos rfl]
  refine ⟨T, T, [nil0, nil0, nil0, nil0, nil0, nil0, nil0, nil0], [nil0, nil0, nil0, nil0, nil0, nil0, nil0, nil0], [], [], [], [], [], [], ⟨⟨⟨hlo, by omega, low, tK, hf, rfl, rfl, fun j hj => ?_, fun j hj => ?_, fun j hj b he => ?_, fun o h1 h2 => by rw [hc o h1, hcI o h1 h2]⟩, ⟨by simp, by simp, by simp, by simp, by simp, by simp, by simp, by simp⟩, fin, by simp, by simp, by simp, by simp, by simp⟩,
    ⟨⟨hlo, by omega, low, tK, hf, rfl, rfl, fun j hj => ?_, fun j hj => ?_, fun j hj b he => ?_, fun o h1 h2 => by rw [hc o h1, hcN o h1 h2]⟩, ⟨by simp, by simp, by simp, by simp, by simp, by simp, by simp, by simp⟩, fin, by simp, by simp, by simp, by simp, by simp⟩, fun b hb => .inl ?_⟩, fun _ => rfl, fun _ => rfl, fun b => ?_⟩
  · rw [hz j hj, hc (58 + j) (by omega), bc _ (by omega), (idle_row j hj).1]
  · rw [hz j hj, hx j]; exact World.ownsRow_nil _ _ _ _
  · rw [hz j hj] at he; simp [Value.ownBlock] at he
  · rw [hz j hj, hc (13 + j) (by omega), bc _ (by omega), (idle_row j hj).2]
  · rw [hz j hj, hy j]; exact World.ownsRow_nil _ _ _ _
  · rw [hz j hj] at he; simp [Value.ownBlock] at he
  · show (if b = w.heap.size then 1 else 0) = 0
    rw [if_neg hb]
  · show b = w.heap.size ↔ ((if b = w.heap.size then 1 else 0) ≠ 0 ∨ (if b = w.heap.size then 1 else 0) ≠ 0)
    by_cases e : b = w.heap.size <;> simp [e]
end Go.Proofs.YtpenaeoodfgmpaaGreatDoor
