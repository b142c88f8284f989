/-
  THE REFERENCE's SETUP in Lean alone, and what lies in memory while it is read.
-/
import Derived.Test.YtfigneaaeakbcaaDoorUf
import Derived.Test.YtfigneaaeakbcaaDoorRj
namespace Go.Proofs.YtfigneaaeakbcaaDoor
open Go.RowKit Hm
attribute [local go_sem] Oper.semAt_some

theorem atW_len : ∀ (L : List By) (a : Nat), (atW a L).length ≤ wt L
  | [], _ => by simp [atW]
  | l :: r, a => by
    have h1 := wds_len l a
    have h2 := atW_len r (a + l.length + 1)
    simp only [atW, List.length_append, wt, List.map_cons, List.sum_cons] at h2 ⊢
    omega
/-- a number: its value, what is left -/
def numV (x : Except Er (Int × List W)) : Int := match x with
  | .ok (n, _) => n
  | .error _ => 0
def numT (x : Except Er (Int × List W)) : St := match x with
  | .ok (_, r) => .ok r
  | .error y => .error y
abbrev Rs := Except Er (List Int)
/-- k numbers more, then the rest -/
def kN (lo hi : Int) (e : Nat) (K : St → List Int → Rs) : Nat → St → List Int → Rs
  | 0, st, L => K st L
  | k + 1, st, L => kN lo hi e K k (numT (numS lo hi st e)) (L ++ [numV (numS lo hi st e)])
def kE (st : St) (L : List Int) : Rs := match restS st with
  | .ok _ => .ok L
  | .error y => .error y
def kM (e : Nat) : St → List Int → Rs := kN (-1099511627776) 1099511627776 e kE 1
def k2 (e : Nat) : St → List Int → Rs := kN 0 2097152 e (fun st L => kM e (wordS mostT st e) L) 3
def k1 (e : Nat) : St → List Int → Rs := kN 0 1099511627776 e (fun st L => k2 e (wordS namesT st e) L) 3
def k0 (e : Nat) (st : St) : Rs := k1 e (wordS bytesT st e) []
theorem kN_err {lo hi : Int} {e : Nat} {K : St → List Int → Rs} {y : Er} (hK : ∀ L, K (.error y) L = .error y) : ∀ k L, kN lo hi e K k (.error y) L = .error y
  | 0, L => hK L
  | k + 1, _ => kN_err hK k _
theorem kE_err (y : Er) (L : List Int) : kE (.error y) L = .error y := rfl
theorem kM_err (e : Nat) (y : Er) (L : List Int) : kM e (.error y) L = .error y := kN_err (kE_err y) 1 L
theorem k2_err (e : Nat) (y : Er) (L : List Int) : k2 e (.error y) L = .error y := kN_err (fun L => kM_err e y L) 3 L
theorem k1_err (e : Nat) (y : Er) (L : List Int) : k1 e (.error y) L = .error y := kN_err (fun L => k2_err e y L) 3 L
theorem kN_ok {lo hi : Int} {e : Nat} {K : St → List Int → Rs} (hK : ∀ y L, K (.error y) L = .error y) : ∀ k ws L, kN lo hi e K k (.ok ws) L = match numsW lo hi k ws e with
    | .error y => .error y
    | .ok (l, r) => K (.ok r) (L ++ l)
  | 0, ws, L => by simp [kN, numsW]
  | k + 1, ws, L => by
    rw [kN, numsW]
    show kN lo hi e K k (numT (numW lo hi ws e)) (L ++ [numV (numW lo hi ws e)]) = _
    cases hn : numW lo hi ws e with
    | error y => exact kN_err (hK y) k _
    | ok nr =>
      obtain ⟨n, r⟩ := nr
      show kN lo hi e K k (.ok r) (L ++ [n]) = _
      rw [kN_ok hK k r]
      dsimp only
      cases hs : numsW lo hi k r e with
      | error y => rfl
      | ok lr => obtain ⟨l, r'⟩ := lr; simp
theorem k0_setup (ws : List W) (e : Nat) : k0 e (.ok ws) = setupW ws e := by
  unfold k0 setupW
  show k1 e (wordW bytesT ws e) [] = _
  cases h1 : wordW bytesT ws e with
  | error y => exact k1_err e y []
  | ok r1 =>
    dsimp only
    unfold k1
    rw [kN_ok (K := fun st L => k2 e (wordS namesT st e) L) (fun y L => k2_err e y L)]
    cases h2 : numsW 0 1099511627776 3 r1 e with
    | error y => rfl
    | ok ar =>
      obtain ⟨a, r2⟩ := ar
      dsimp only
      show k2 e (wordW namesT r2 e) ([] ++ a) = _
      cases h3 : wordW namesT r2 e with
      | error y => exact k2_err e y _
      | ok r3 =>
        dsimp only
        unfold k2
        rw [kN_ok (K := fun st L => kM e (wordS mostT st e) L) (fun y L => kM_err e y L)]
        cases h4 : numsW 0 2097152 3 r3 e with
        | error y => rfl
        | ok br =>
          obtain ⟨b, r4⟩ := br
          dsimp only
          show kM e (wordW mostT r4 e) (([] ++ a) ++ b) = _
          cases h5 : wordW mostT r4 e with
          | error y => exact kM_err e y _
          | ok r5 =>
            dsimp only
            unfold kM kN kN
            show kE (numT (numW _ _ r5 e)) (_ ++ [numV (numW _ _ r5 e)]) = _
            cases h6 : numW (-1099511627776) 1099511627776 r5 e with
            | error y => rfl
            | ok nr =>
              obtain ⟨m, r6⟩ := nr
              cases r6 with
              | nil => simp [kE, numT, numV, restS, restW]
              | cons x t => simp [kE, numT, restS, restW]
/-- words whose texts are short -/
def Tx (n : Nat) (st : St) : Prop := ∀ ws, st = .ok ws → ∀ x ∈ ws, x.text.length ≤ n
theorem Tx.word {n : Nat} {st : St} (h : Tx n st) (s : By) (e : Nat) : Tx n (wordS s st e) := by
  cases st with
  | error y => intro ws hw; cases hw
  | ok ws => exact fun ws' hw x hx => h ws rfl x (wordW_sub (show wordW s ws e = .ok ws' from hw) x hx)
theorem Tx.num {n : Nat} {st : St} (h : Tx n st) (lo hi : Int) (e : Nat) : Tx n (numT (numS lo hi st e)) := by
  cases st with
  | error y => intro ws hw; cases hw
  | ok ws =>
    intro ws' hw x hx
    cases hn : numW lo hi ws e with
    | error y => rw [show numS lo hi (.ok ws) e = .error y from hn] at hw; cases hw
    | ok nr =>
      obtain ⟨m, r⟩ := nr
      rw [show numS lo hi (.ok ws) e = .ok (m, r) from hn] at hw
      injection hw with hw
      subst hw
      exact h ws rfl x (numW_sub hn x hx)
abbrev Z7 : Array Value := #[.int .i64 0, .int .i64 0, .int .i64 0, .int .i64 0, .int .i64 0, .int .i64 0, .int .i64 0]
/-- numbers, then zeros -/
def pad (L : List Int) : List Value := (L ++ List.replicate (7 - L.length) 0).map vi
theorem pad_len {L : List Int} (h : L.length ≤ 7) : (pad L).length = 7 := by simp [pad]; omega
theorem pad_set {L : List Int} (h : L.length < 7) (n : Int) : (pad L).set L.length (vi n) = pad (L ++ [n]) := by
  unfold pad
  have e : 7 - L.length = (7 - (L ++ [n]).length) + 1 := by simp; omega
  rw [e, List.replicate_succ, ← List.map_set]
  congr 1
  rw [List.set_append, if_neg (by omega), Nat.sub_self]
  simp
/-- a setup that is being read -/
structure Sr (B c S e : Nat) (st : St) (L : List Int) (w w' : World) : Prop where
  g : G w w'
  b0 : w'.heap[B]? = some (.cells #[.int .i64 0, .int .i64 0, .int .i64 0, .int .i64 0, .int .i64 0, .int .i64 0, .int .i64 0] 26 (0, 0))
  b1 : w'.heap[B + 1]? = some (.cells #[.int .i64 0, .int .i64 0] 28 (0, 0))
  rr : Rr c e st w'
  sc : w'.heap[S]? = some (.cells (pad L).toArray 26 (0, 0))
  hB : w.heap.size = B
  hc : B + 1 < c
  hS : c < S
  tx : Tx 100000 st
theorem Sr.step {B c S e : Nat} {st st' : St} {L : List Int} {w w' w2 : World} (h : Sr B c S e st L w w') (k : Kp (fun g => g = c) w' w2) (hr : Rr c e st' w2) (ht : Tx 100000 st') : Sr B c S e st' L w w2 := by
  obtain ⟨g, b0, b1, _, sc, hB, hc, hS, _⟩ := h
  refine ⟨Below.trans (B := w.heap.size) g (k.below g.size (fun g e => by have e : g = c := e; omega)), (k.block B (Array.getElem?_eq_some_iff.1 b0).1 (by omega)).trans b0, (k.block (B + 1) (Array.getElem?_eq_some_iff.1 b1).1 (by omega)).trans b1, hr, (k.block S (Array.getElem?_eq_some_iff.1 sc).1 (by omega)).trans sc, hB, hc, hS, ht⟩
theorem Sr.up {B c S e : Nat} {st : St} {L : List Int} {w w' w2 : World} (h : Sr B c S e st L w w') (k : G w' w2) : Sr B c S e st L w w2 := h.step (Kp.of k) (h.rr.up k) h.tx
theorem Sr.one {B c S e : Nat} {st : St} {L : List Int} {w w' : World} (h : Sr B c S e st L w w') (s : ByteArray) : Calls Tryd.prog 8 #[.pointer (some ⟨c, 0, none⟩), .slice (some ⟨w'.heap.size, 0, none⟩) 1 1] (w'.alloc (.cells #[.string s] 9)) fun E w2 => (∃ v, E = .returned v) ∧ Sr B c S e (wordS (tl s) st e) L w w2 := by
  have h2 := h.up ((Below.refl _ _).alloc (Nat.le_refl _) (.cells #[.string s] 9))
  refine (one_any c e st _ h2.rr w'.heap.size s (World.alloc_heap_new w' _) (by have := h.rr.lt; omega)).mono ?_
  rintro E w2 ⟨q1, q2, q3⟩
  exact ⟨q1, h2.step q2 q3 (h.tx.word _ _)⟩
theorem Sr.num {B c S e : Nat} {st : St} {L : List Int} {w w' : World} (h : Sr B c S e st L w w') (lo hi : Int) : Calls Tryd.prog 9 #[.pointer (some ⟨c, 0, none⟩), .int .i64 lo, .int .i64 hi] w' fun E w2 => E = .returned (.int .i64 (numV (numS lo hi st e))) ∧ Sr B c S e (numT (numS lo hi st e)) L w w2 := by
  have ht := h.tx.num lo hi e
  refine (rnumb_any c e lo hi st _ h.rr h.tx).mono ?_
  rintro E w2 ⟨q1, q2⟩
  cases hn : numS lo hi st e with
  | error y => rw [hn] at q2 ht; exact ⟨q2.1, h.step q1 q2.2 ht⟩
  | ok nr => obtain ⟨n, r⟩ := nr; rw [hn] at q2 ht; exact ⟨q2.1, h.step q1 q2.2 ht⟩
theorem Sr.rest {B c S e : Nat} {st : St} {L : List Int} {w w' : World} (h : Sr B c S e st L w w') : Calls Tryd.prog 10 #[.pointer (some ⟨c, 0, none⟩)] w' fun E w2 => E = .returned (.tuple #[]) ∧ Sr B c S e (restS st) L w w2 := by
  refine (rrest_any c e st _ h.rr).mono ?_
  rintro E w2 ⟨q1, q2, q3⟩
  refine ⟨q1, h.step q2 q3 ?_⟩
  intro ws hw x hx
  match st, hw with
  | .ok [], hw => injection hw with hw; subst hw; cases hx
theorem Sr.put {B c S e : Nat} {st : St} {L : List Int} {w w' : World} (h : Sr B c S e st L w w') (hL : L.length < 7) (n : Int) : Sr B c S e st (L ++ [n]) w (w'.setCell ⟨S, L.length, none⟩ (.int .i64 n)) := by
  have k := Kp.set w' S L.length (.int .i64 n)
  obtain ⟨g, b0, b1, rr, sc, hB, hc, hS, tx⟩ := h
  refine ⟨Below.trans (B := w.heap.size) g (k.below g.size (fun g e => by have e : g = S := e; omega)), (k.block B (Array.getElem?_eq_some_iff.1 b0).1 (by omega)).trans b0, (k.block (B + 1) (Array.getElem?_eq_some_iff.1 b1).1 (by omega)).trans b1, rr.kp k (by omega) (fun g cs f e q => by have e : g = S := e; rw [e, sc] at q; cases q), ?_, hB, hc, hS, tx⟩
  rw [heap_setCell_at _ sc, ← pad_set hL]
  rw [List.setIfInBounds_toArray]
  rfl
end Go.Proofs.YtfigneaaeakbcaaDoor
