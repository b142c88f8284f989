/-
  MEMORY: structs and lists of structs of any type: loads, stores, appends, one for all.
-/
import Derived.Test.YtfigneaaeakbcaaDoorHInvE
import Derived.Maps.AppendAt
import Derived.Laws.IdiomCopy
import Derived.Laws.OwnMore
import Derived.Laws.AppendOwnNone
import Derived.Deep.MidRow
namespace Go.Proofs.YtfigneaaeakbcaaDoor.Hm
open Go.RowKit

def over (cs : List Value) (off : Nat) (c : List Value) : List Value := cs.take off ++ c ++ cs.drop (off + c.length)
theorem set_over (off : Nat) (x : Value) (cs : List Value) (h : off < cs.length) : cs.set off x = cs.take off ++ x :: cs.drop (off + 1) := by
  rw [List.set_eq_take_append_cons_drop, if_pos h]
theorem fold_over (off : Nat) : ∀ (c : List Value) (k : Nat) (cs : List Value), off + k + c.length ≤ cs.length →
    (c.zipIdx k).foldl (fun (a : Array Value) (p : Value × Nat) => a.setIfInBounds (off + p.2) p.1) cs.toArray = (over cs (off + k) c).toArray
  | [], k, cs, _ => by simp [over]
  | x :: c, k, cs, h => by
    simp only [List.length_cons] at h
    rw [List.zipIdx_cons, List.foldl_cons]
    simp only [List.setIfInBounds_toArray]
    rw [fold_over off c (k + 1) (cs.set (off + k) x) (by simp; omega)]
    congr 1
    unfold over
    rw [set_over _ _ _ (by omega), List.length_cons]
    have h1 : (cs.take (off + k)).length = off + k := by simp; omega
    have e1 : (cs.take (off + k) ++ x :: cs.drop (off + k + 1)).take (off + (k + 1)) = cs.take (off + k) ++ [x] := by
      rw [List.take_append, h1, show off + (k + 1) - (off + k) = 1 by omega, List.take_of_length_le (by omega)]
      rfl
    have e2 : (cs.take (off + k) ++ x :: cs.drop (off + k + 1)).drop (off + (k + 1) + c.length) = cs.drop (off + k + (c.length + 1)) := by
      rw [List.drop_append, h1, List.drop_of_length_le (by omega), show off + (k + 1) + c.length - (off + k) = c.length + 1 by omega, List.drop_succ_cons, List.drop_drop]
      simp only [List.nil_append]
      congr 1
      omega
    rw [e1, e2]
    simp
theorem fill_cons (place : Nat → Option (Nat × Nat)) (cs : List Value) (i off n : Nat) (v : Value) (c : List Value) (rest : List (Nat × Value)) (hp : place i = some (off, n)) (hv : v.cells = c.toArray) (hc : c.length = n) (ho : off + n ≤ cs.length) :
    Instr.fill place cs.toArray ((i, v) :: rest) = Instr.fill place (over cs off c).toArray rest := by
  rw [Instr.fill, hp]
  simp only [hv]
  have hf := fold_over off c 0 cs (by omega)
  rw [Nat.add_zero] at hf
  rw [if_neg (by simp; omega)]
  have hz : c.toArray.zipIdx = c.zipIdx.toArray := by
    apply Array.ext_getElem?
    intro j
    simp
  rw [← hf, hz, List.foldl_toArray]

theorem wpList_execW {ops : Array Oper} {rest : List Oper} {o : Oper} {a : Act} {w : World} {Q : Exit → Act → World → Prop} (v : Value) (w' : World)
    (he : (execOp a.eval o).run Tryd.prog w = .ok (.value v) w') (hw : Region.wanted o (yielded ops a.tmps) = true) (h : wpList Tryd.prog ops Q rest (a.put o.dst v) w') : wpList Tryd.prog ops Q (o :: rest) a w := by
  refine wpList_step fun K hK => ?_
  rw [if_pos hw]
  unfold Oper.wp
  rw [he, Oper.upon_value]
  exact hK _ _ h
theorem wpList_skipW {ops : Array Oper} {rest : List Oper} {o : Oper} {a : Act} {w : World} {Q : Exit → Act → World → Prop} (w' : World)
    (he : (execOp a.eval o).run Tryd.prog w = .ok .skip w') (hw : Region.wanted o (yielded ops a.tmps) = true) (h : wpList Tryd.prog ops Q rest (a.put o.dst undef) w') : wpList Tryd.prog ops Q (o :: rest) a w := by
  refine wpList_step fun K hK => ?_
  rw [if_pos hw]
  unfold Oper.wp
  rw [he, Oper.upon_skip]
  exact hK _ _ h


theorem run_zeroT (t : TypeId) (z : Array Value) (hz : (Tryd.prog.info? t).bind (·.zero) = some (.agg z)) (w : World) : (zeroValue t).run Tryd.prog w = .ok (.agg z) w := by
  cases hq : Tryd.prog.info? t with
  | none => rw [hq] at hz; cases hz
  | some i =>
    rw [hq] at hz
    simp only [Option.bind_some] at hz
    simp [zeroValue, typeInfo, hq, hz]
theorem exec_allocT {o : Oper} {a : Act} (t : TypeId) (z : Array Value) (ho : o.op = .alloc t) (hz : (Tryd.prog.info? t).bind (·.zero) = some (.agg z)) (w : World) (b : Nat) (hb : w.heap.size = b) : (execOp a.eval o).run Tryd.prog w = .ok (.value (.pointer (some ⟨b, 0, none⟩))) (w.alloc (.cells z t)) := by
  subst hb
  unfold execOp
  simp only [ho, Instr.alloc, Sem.run_bind, run_zeroT t z hz, Result.andThen_ok]
  simp [newVar, newRow, newObj, Value.cells]
  rfl
theorem exec_storeT {o : Oper} {a : Act} (t : TypeId) (x y : Operand) (ho : o.op = .store t x y) (g : Nat) (c old : Array Value) (hx : a.eval x = .pointer (some ⟨g, 0, none⟩)) (hy : a.eval y = .agg c) (w : World) (hg : w.heap[g]? = some (.cells old t (0, 0)))
    (hz : (Tryd.prog.info? t).map (·.size) = some c.size) (hs' : old.size = c.size) (h1 : c.all (·.oneCell') = true) : (execOp a.eval o).run Tryd.prog w = .ok .skip (w.setRow g c) := by
  unfold execOp
  simp only [ho, hx, hy, Instr.storeAt, Instr.sureAddr, Sem.run_bind, Sem.run_pure, Result.andThen_ok, run_storeVar_row (P := Tryd.prog) w g t t old c hg hz hs' h1]

theorem over_set (xs r : List Value) (o : Nat) (v : Value) (h : o < xs.length) : over (xs.set o v) (o + 1) r = over xs o (v :: r) := by
  unfold over
  rw [set_over _ _ _ h]
  have h1 : (xs.take o).length = o := by simp; omega
  have e1 : (xs.take o ++ v :: xs.drop (o + 1)).take (o + 1) = xs.take o ++ [v] := by
    rw [List.take_append, h1, show o + 1 - o = 1 by omega, List.take_of_length_le (by omega)]
    rfl
  have e2 : (xs.take o ++ v :: xs.drop (o + 1)).drop (o + 1 + r.length) = xs.drop (o + (r.length + 1)) := by
    rw [List.drop_append, h1, List.drop_of_length_le (l := xs.take o) (by omega), show o + 1 + r.length - o = r.length + 1 by omega, List.drop_succ_cons, List.drop_drop]
    simp only [List.nil_append]
    congr 1
    omega
  rw [e1, e2]
  simp

/-- a store of many cells into a row of one's own -/
theorem owns_setCells {base e size g n cap : Nat} : ∀ (vs : List Value) (o : Nat) (w : World) (xs : List Value), w.ownsRow base e size (.slice (some ⟨g, 0, none⟩) n cap) n xs → o + vs.length ≤ xs.length →
    (w.setCells g o vs).ownsRow base e size (.slice (some ⟨g, 0, none⟩) n cap) n (over xs o vs) ∧ w.grownBy (w.setCells g o vs) (some g)
  | [], o, w, xs, h, _ => ⟨by simpa [over, World.setCells] using h, ⟨rfl, rfl, rfl, Nat.le_refl _, fun _ _ _ => rfl⟩⟩
  | v :: r, o, w, xs, h, hl => by
    simp only [List.length_cons] at hl
    obtain ⟨h1, h2⟩ := h.stored o v
    obtain ⟨h3, h4⟩ := owns_setCells r (o + 1) _ _ h1 (by simp; omega)
    refine ⟨?_, h2.trans h4⟩
    have : over (xs.set o v) (o + 1) r = over xs o (v :: r) := by
      unfold over
      rw [set_over _ _ _ (by omega)]
      have h1 : (xs.take o).length = o := by simp; omega
      have e1 : (xs.take o ++ v :: xs.drop (o + 1)).take (o + 1) = xs.take o ++ [v] := by
        rw [List.take_append, h1, show o + 1 - o = 1 by omega, List.take_of_length_le (by omega)]
        rfl
      have e2 : (xs.take o ++ v :: xs.drop (o + 1)).drop (o + 1 + r.length) = xs.drop (o + (r.length + 1)) := by
        rw [List.drop_append, h1, List.drop_of_length_le (l := xs.take o) (by omega), show o + 1 + r.length - o = r.length + 1 by omega, List.drop_succ_cons, List.drop_drop]
        simp only [List.nil_append]
        congr 1
        omega
      rw [e1, e2]
      simp
    rw [this] at h3
    exact h3
theorem owns_there {w : World} {base e size g n cap : Nat} {xs : List Value} (h : w.ownsRow base e size (.slice (some ⟨g, 0, none⟩) n cap) n xs) (o k : Nat) (hk : o + k ≤ xs.length) : w.there g o k := fun j hj => by
  refine ⟨?_, h.frozenAt _⟩
  have := h.cells (g := g) rfl (o + j) (xs[o + j]'(by omega)) (by simp)
  rw [Addr.add_mid, Nat.zero_add] at this
  rw [this]; rfl

theorem there_heap {w : World} {g o n : Nat} {cs : Array Value} {T : TypeId} (h : w.heap[g]? = some (.cells cs T (0, 0))) (hn : o + n ≤ cs.size) : w.there g o n := fun j hj => by
  refine ⟨?_, by simp [World.frozen?, h]⟩
  simp only [World.cell?, h]
  have : o + j < cs.size := by omega
  simp [this]
theorem exec_storeM {o : Oper} {a : Act} (t : TypeId) (x y : Operand) (ho : o.op = .store t x y) (g f : Nat) (c : Array Value) (hx : a.eval x = .pointer (some ⟨g, f, none⟩)) (hy : a.eval y = .agg c) (w : World) (ht : w.there g f c.size)
    (hz : (Tryd.prog.info? t).map (·.size) = some c.size) (h1 : c.all (·.oneCell') = true) : (execOp a.eval o).run Tryd.prog w = .ok .skip (w.setCells g f c.toList) := by
  unfold execOp
  simp only [ho, hx, hy, Sem.run_bind, Sem.run_pure, Result.andThen_ok, run_storeAt_mid (P := Tryd.prog) w g f t c ht hz h1]

theorem row_form {w : World} {lo e s n : Nat} {v : Value} {xs : List Value} (h : w.ownsRow lo e s v n xs) : ∃ p c, v = .slice p n c := by
  obtain ⟨_, h | ⟨g, cap, cur, hv, _⟩⟩ := h
  · exact ⟨none, 0, by rw [h.1, h.2]⟩
  · exact ⟨_, cap, hv⟩
/-- a new variable that was written -/
theorem new_varT (w : World) (t : TypeId) (z c : Array Value) : Below w.heap.size w ((w.alloc (.cells z t)).setRow w.heap.size c) ∧ ((w.alloc (.cells z t)).setRow w.heap.size c).heap[w.heap.size]? = some (.cells c t (0, 0)) ∧ ((w.alloc (.cells z t)).setRow w.heap.size c).heap.size = w.heap.size + 1 := by
  refine ⟨⟨rfl, rfl, rfl, by simp, fun b hb => ?_⟩, setRow_heap _ _ z c t _ (World.alloc_heap_new w _), by simp⟩
  rw [setRow_other _ _ _ _ (by omega), Below.heap_alloc _ _ _ hb]
/-- all but these blocks is as it was -/
structure Kp (S : Nat → Prop) (w w' : World) : Prop where
  os : w'.os = w.os
  tape : w'.tape = w.tape
  output : w'.output = w.output
  size : w.heap.size ≤ w'.heap.size
  block : ∀ b, b < w.heap.size → ¬ S b → w'.heap[b]? = w.heap[b]?
theorem Kp.trans {S S' : Nat → Prop} {w w1 w2 : World} (h : Kp S w w1) (k : Kp S' w1 w2) (hs : ∀ b, b < w.heap.size → S' b → S b) : Kp S w w2 :=
  ⟨k.os.trans h.os, k.tape.trans h.tape, k.output.trans h.output, Nat.le_trans h.size k.size, fun b hb hn => (k.block b (Nat.lt_of_lt_of_le hb h.size) fun e => hn (hs b hb e)).trans (h.block b hb hn)⟩
theorem Kp.mono {S S' : Nat → Prop} {w w1 : World} (h : Kp S w w1) (hs : ∀ b, b < w.heap.size → S b → S' b) : Kp S' w w1 := ⟨h.os, h.tape, h.output, h.size, fun b hb hn => h.block b hb fun e => hn (hs b hb e)⟩
theorem Kp.of {S : Nat → Prop} {w w1 : World} (h : Below w.heap.size w w1) : Kp S w w1 := ⟨h.os, h.tape, h.output, h.size, fun b hb _ => h.block b hb⟩
theorem Kp.below {S : Nat → Prop} {B : Nat} {w w1 : World} (h : Kp S w w1) (hB : B ≤ w.heap.size) (hs : ∀ b, S b → B ≤ b) : Below B w w1 := ⟨h.os, h.tape, h.output, h.size, fun b hb => h.block b (by omega) fun e => by have := hs b e; omega⟩
theorem Kp.refl (S : Nat → Prop) (w : World) : Kp S w w := Kp.of (Below.refl _ _)
theorem Kp.grown {w w1 : World} {row : Option Nat} (h : w.grownBy w1 row) : Kp (fun b => row = some b) w w1 := ⟨h.os, h.tape, h.output, h.size, fun b hb hn => h.block b hb fun e => hn e.symm⟩
theorem Kp.set (w : World) (b o : Nat) (u : Value) : Kp (fun c => c = b) w (w.setCell ⟨b, o, none⟩ u) := ⟨rfl, rfl, rfl, by simp, fun c _ hn => Below.heap_setCell w ⟨b, o, none⟩ u c hn⟩


/-- cells lie from a place on -/
def Lies (w : World) (g o : Nat) (c : Array Value) : Prop := ∀ j u, c[j]? = some u → w.cell? ⟨g, o + j, none⟩ = some u
theorem Lies.block {w w' : World} {g o : Nat} {c : Array Value} (h : Lies w g o c) (hb : ∀ a : Addr, a.block < w.heap.size → w'.cell? a = w.cell? a) : Lies w' g o c := fun j u hj => by
  have := h j u hj
  rw [hb _ (World.block_lt_of_cell? w _ this)]
  exact this
theorem Lies.below {w w' : World} {g o : Nat} {c : Array Value} (h : Lies w g o c) (hb : Below w.heap.size w w') : Lies w' g o c := h.block fun _ ha => hb.cell ha
theorem Lies.part {w : World} {g o : Nat} {c : Array Value} (h : Lies w g o c) (i j : Nat) : Lies w g (o + i) (c.extract i j) := fun k u hk => by
  have hk2 : c[i + k]? = some u := by
    rw [Array.getElem?_extract] at hk
    split at hk
    · exact hk
    · cases hk
  have := h (i + k) u hk2
  rwa [show o + i + k = o + (i + k) by omega]
theorem cell_heap {w : World} {g : Nat} {cs : Array Value} {T : TypeId} {f : Nat × Nat} (h : w.heap[g]? = some (.cells cs T f)) (j : Nat) : w.cell? ⟨g, j, none⟩ = cs[j]? := by
  simp [World.cell?, h]
theorem Lies.of_heap {w : World} {g : Nat} {cs : Array Value} {T : TypeId} {f : Nat × Nat} (h : w.heap[g]? = some (.cells cs T f)) : Lies w g 0 cs := fun j u hj => by
  rw [Nat.zero_add, cell_heap h]; exact hj
theorem load_lies {w : World} {g o : Nat} {c : Array Value} (ty : TypeId) (d : TypeDesc) (hu : Tryd.prog.underlying ty = some d) (hd : d.isRow = true) (hi : (Tryd.prog.info? ty).map (·.size) = some c.size) (h : Lies w g o c) :
    (Instr.loadAt ty (.pointer (some ⟨g, o, none⟩))).run Tryd.prog w = .ok (.agg c) w := by
  have := run_loadAt_mid (P := Tryd.prog) w g o ty c.toList d (fun j v hv => h j v (by simpa using hv)) hu hd (by rw [hi]; simp)
  simpa using this
theorem exec_load {o : Oper} {a : Act} {w : World} (ty : TypeId) (x : Operand) (ho : o.op = .load ty x) (b off : Nat) (hx : a.eval x = .pointer (some ⟨b, off, none⟩)) (c : Array Value) (d : TypeDesc) (hc : Lies w b off c)
    (hu : Tryd.prog.underlying ty = some d) (hd : d.isRow = true) (hi : (Tryd.prog.info? ty).map (·.size) = some c.size) : (execOp a.eval o).run Tryd.prog w = .ok (.value (.agg c)) w := by
  unfold execOp
  simp only [ho, hx, Sem.run_bind, load_lies ty d hu hd hi hc, Result.andThen_ok, Sem.run_pure]
/-- what is known of a slice's type: its elements' type, how many cells one has -/
def Ek (sT eT s : Nat) : Prop := Tryd.prog.underlying sT = some (.slice eT) ∧ 0 < s ∧ s ≤ 1000 ∧ ∃ (z : Value) (bt : Nat), z.cells.size = s ∧ bt ≤ 4096 ∧ (Tryd.prog.info? eT).map (fun i => (i.zero, i.size, i.bytes)) = some (some z, s, bt)
/-- cells of a list of elements -/
def fl (L : List (Array Value)) : List Value := (L.map Array.toList).flatten
theorem fl_cons (x : Array Value) (L : List (Array Value)) : fl (x :: L) = x.toList ++ fl L := rfl
theorem fl_app (L M : List (Array Value)) : fl (L ++ M) = fl L ++ fl M := by simp [fl]
theorem fl_len {s : Nat} : ∀ {L : List (Array Value)}, (∀ x ∈ L, x.size = s) → (fl L).length = L.length * s
  | [], _ => by simp [fl]
  | x :: L, h => by
    rw [fl_cons, List.length_append, fl_len fun y hy => h y (by simp [hy]), Array.length_toList, h x (by simp), List.length_cons, Nat.add_mul]
    omega
theorem fl_at {s : Nat} : ∀ {L : List (Array Value)}, (∀ x ∈ L, x.size = s) → ∀ {i : Nat} {x : Array Value} {j : Nat}, L[i]? = some x → j < s → (fl L)[i * s + j]? = x[j]?
  | [], _, i, x, j, h, _ => by simp at h
  | y :: L, hs, 0, x, j, h, hj => by
    simp at h
    subst h
    have := hs y (by simp)
    rw [fl_cons, Nat.zero_mul, Nat.zero_add, List.getElem?_append_left (by simp; omega)]
    simp
  | y :: L, hs, i + 1, x, j, h, hj => by
    have h0 := hs y (by simp)
    rw [fl_cons, List.getElem?_append_right (by simp [h0, Nat.add_mul]; omega), Array.length_toList, h0, show (i + 1) * s + j - s = i * s + j by rw [Nat.add_mul]; omega]
    exact fl_at (fun z hz => hs z (by simp [hz])) (by simpa using h) hj
/-- a list of one's own -/
structure OwL (eT s : Nat) (w : World) (lo : Nat) (v : Value) (L : List (Array Value)) : Prop where
  own : w.ownsRow lo eT s v L.length (fl L)
  sz : ∀ x ∈ L, x.size = s
/-- a list that is read -/
def HsL (s : Nat) (w : World) (v : Value) (L : List (Array Value)) : Prop :=
  (v = .slice none 0 0 ∧ L = []) ∨ ∃ g o cap, v = .slice (some ⟨g, o, none⟩) L.length cap ∧ L.length ≤ cap ∧ ∀ i x, L[i]? = some x → Lies w g (o + i * s) x
theorem OwL.nil (eT s : Nat) (w : World) (lo : Nat) : OwL eT s w lo (.slice none 0 0) [] := ⟨World.ownsRow_nil _ _ _ _, by simp⟩
theorem OwL.has {eT s : Nat} {w : World} {lo : Nat} {v : Value} {L : List (Array Value)} (h : OwL eT s w lo v L) : HsL s w v L := by
  have h0 := h.own
  obtain ⟨_, h1 | ⟨g, cap, cur, hv, hg, hh, hn, hm, hs, ht⟩⟩ := h.own
  · exact .inl ⟨h1.1, List.length_eq_zero_iff.1 h1.2⟩
  · subst hv
    refine .inr ⟨g, 0, cap, rfl, hn, fun i x hi j u hj => ?_⟩
    have hx := h.sz x (List.mem_of_getElem? hi)
    have hjl : j < s := by rw [← hx]; exact (Array.getElem?_eq_some_iff.1 hj).1
    have := World.ownsRow.cells h0 (g := g) rfl (i * s + j) u (by rw [fl_at h.sz hi hjl]; exact hj)
    rw [Addr.add_mid, Nat.zero_add] at this
    rw [Nat.zero_add]; exact this
theorem OwL.block {eT s : Nat} {w w' : World} {lo : Nat} {v : Value} {L : List (Array Value)} (h : OwL eT s w lo v L) (hb : ∀ k, v.ownBlock = some k → w'.heap[k]? = w.heap[k]?) : OwL eT s w' lo v L := by
  refine ⟨?_, h.sz⟩
  obtain ⟨h1, h2 | ⟨g, cap, cur, hv, hg, hh, hr⟩⟩ := h.own
  · exact ⟨h1, .inl h2⟩
  · subst hv
    exact ⟨h1, .inr ⟨g, cap, cur, rfl, hg, (hb g rfl).trans hh, hr⟩⟩
theorem OwL.lt {eT s : Nat} {w : World} {lo : Nat} {v : Value} {L : List (Array Value)} (h : OwL eT s w lo v L) : ∀ k, v.ownBlock = some k → lo ≤ k ∧ k < w.heap.size := World.ownsRow.lt h.own
theorem OwL.up {eT s : Nat} {w w' : World} {lo : Nat} {v : Value} {L : List (Array Value)} (h : OwL eT s w lo v L) (hb : Below w.heap.size w w') : OwL eT s w' lo v L := h.block fun k hk => hb.block k (h.lt k hk).2
theorem OwL.mono {eT s : Nat} {w : World} {lo lo' : Nat} {v : Value} {L : List (Array Value)} (h : OwL eT s w lo v L) (hl : lo' ≤ lo) : OwL eT s w lo' v L := by
  refine ⟨?_, h.sz⟩
  obtain ⟨h1, h2 | ⟨g, cap, cur, hv, hg, hr⟩⟩ := h.own
  · exact ⟨h1, .inl h2⟩
  · exact ⟨h1, .inr ⟨g, cap, cur, hv, Nat.le_trans hl hg, hr⟩⟩
theorem OwL.form {eT s : Nat} {w : World} {lo : Nat} {v : Value} {L : List (Array Value)} (h : OwL eT s w lo v L) : ∃ p c, v = .slice p L.length c := row_form h.own
theorem HsL.form {s : Nat} {w : World} {v : Value} {L : List (Array Value)} (h : HsL s w v L) : ∃ p c, v = .slice p L.length c := by
  rcases h with ⟨rfl, rfl⟩ | ⟨g, o, cap, rfl, _, _⟩
  · exact ⟨none, 0, rfl⟩
  · exact ⟨_, cap, rfl⟩
theorem HsL.block {s : Nat} {w w' : World} {v : Value} {L : List (Array Value)} (h : HsL s w v L) (hb : ∀ a : Addr, a.block < w.heap.size → w'.cell? a = w.cell? a) : HsL s w' v L := by
  rcases h with h | ⟨g, o, cap, rfl, hc, h⟩
  · exact .inl h
  · exact .inr ⟨g, o, cap, rfl, hc, fun i x hi => (h i x hi).block hb⟩
theorem HsL.up {s : Nat} {w w' : World} {v : Value} {L : List (Array Value)} (h : HsL s w v L) (hb : Below w.heap.size w w') : HsL s w' v L := h.block fun _ ha => hb.cell ha
set_option maxRecDepth 100000 in
/-- a slice of one element -/
theorem exec_slice1 {sT eT s : Nat} (hk : Ek sT eT s) {o : Oper} {a : Act} (x : Operand) (ho : o.op = .buildSlice sT 1 #[(0, x)]) (xv : Value) (c : Array Value) (hx : a.eval x = xv) (hxc : xv.cells = c) (hs : c.size = s) (w : World) (b : Nat) (hb : w.heap.size = b) :
    (execOp a.eval o).run Tryd.prog w = .ok (.value (.slice (some ⟨b, 0, none⟩) 1 1)) (w.alloc (.cells c eT)) := by
  subst hb
  obtain ⟨hu, hp, hp2, z, bt, hz, _, hi⟩ := hk
  obtain ⟨i0, hi, hz0, hz1, hz2⟩ := info_parts hi
  have hf : Instr.fill (fun i => some (i * s, s)) ((Array.range (1 * s)).map (z.cells[· % z.cells.size]!)) [(0, xv)] = some c := by
    obtain ⟨y, hy, hyl⟩ : ∃ y : List Value, ((Array.range (1 * s)).map (z.cells[· % z.cells.size]!)) = y.toArray ∧ y.length = s := ⟨((Array.range (1 * s)).map (z.cells[· % z.cells.size]!)).toList, Array.toArray_toList.symm, by simp⟩
    rw [hy, fill_cons _ y 0 0 s _ c.toList _ (by simp) (by simpa using hxc) (by simpa using hs) (by omega), Instr.fill]
    have hd : y.drop s = [] := List.drop_of_length_le (by omega)
    simp [over, hs, hd]
  have hsz : (sizeOf eT).run Tryd.prog w = .ok s w := by simp [sizeOf, typeInfo, hi, hz1]
  have hzv : (zeroValue eT).run Tryd.prog w = .ok z w := by simp [zeroValue, typeInfo, hi, hz0]
  have hb : (Instr.buildSlice sT 1 #[(0, xv)]).run Tryd.prog w = .ok (.slice (some ⟨w.heap.size, 0, none⟩) 1 1) (w.alloc (.cells c eT)) := by
    unfold Instr.buildSlice
    simp only [Sem.run_bind, run_underlying hu, Result.andThen_ok, hsz]
    have h1 : ¬ (1 * s > 2 ^ 24) := by omega
    have h2 : ¬ (1 * s = 0) := by omega
    simp only [h1, h2, if_false, Sem.run_bind, Sem.run_pure, Result.andThen_ok, hzv, hf]
    rfl
  unfold execOp
  simp only [ho]
  have hmap : (#[(0, x)].map fun (p : Nat × Operand) => match p with | (i, x) => (i, a.eval x)) = #[(0, xv)] := by simp [hx]
  rw [hmap]
  simp only [Sem.run_bind, hb, Result.andThen_ok, Sem.run_pure]
set_option maxRecDepth 100000 in
/-- a list is put behind one's own -/
theorem app_run {sT eT s : Nat} (hk : Ek sT eT s) {w : World} {lo : Nat} {v u : Value} {R L : List (Array Value)} (ty : TypeId) (h : OwL eT s w lo v R) (hs : HsL s w u L) (hL : ∀ x ∈ L, x.size = s ∧ x.all (·.oneCell') = true) (hb : lo ≤ w.heap.size) (hl : R.length + L.length ≤ 100000000) :
    ∃ v' w', (Builtin.append_ #[sT, sT] ty #[v, u]).run Tryd.prog w = .ok v' w' ∧ OwL eT s w' lo v' (R ++ L) ∧ w.grownBy w' v.ownBlock ∧ (v'.ownBlock = v.ownBlock ∨ v'.ownBlock = some w.heap.size) := by
  obtain ⟨hu, hp, hp2, z, bt, hz, hbt, hi⟩ := hk
  obtain ⟨i0, hi, hz0, hz1, hz2⟩ := info_parts hi
  have hsz : ∀ x ∈ R ++ L, x.size = s := fun x hx => (List.mem_append.1 hx).elim (h.sz x) fun q => (hL x q).1
  rcases hs with ⟨rfl, rfl⟩ | ⟨g, o, cp, rfl, hc, hat⟩
  · exact ⟨v, w, run_append_owned_none (P := Tryd.prog) (w := w) lo sT ty eT i0 s hu hi v _ _ h.own, by simpa using h, ⟨rfl, rfl, rfl, Nat.le_refl _, fun _ _ _ => rfl⟩, .inl rfl⟩
  · have hLs : ∀ x ∈ L, x.size = s := fun x hx => (hL x hx).1
    obtain ⟨v', w', h1, h2, h3, _, h5⟩ := run_append_own_at (P := Tryd.prog) w lo sT ty eT i0 z s bt hu hi hz0 hz1 hz2 hz hp v R.length (fl R) h.own ⟨g, o, none⟩ L.length cp (fl L) (fl_len hLs) (fun j u hj => by
      have hlt : j < L.length * s := by have := (List.getElem?_eq_some_iff.1 hj).1; rwa [fl_len hLs] at this
      have hq : j / s < L.length := (Nat.div_lt_iff_lt_mul hp).2 hlt
      obtain ⟨x, hx⟩ : ∃ x, L[j / s]? = some x := ⟨L[j / s]'hq, by simp [hq]⟩
      have hm : j % s < s := Nat.mod_lt _ hp
      have e2 := fl_at hLs hx hm
      have ej : j / s * s + j % s = j := by rw [Nat.mul_comm]; exact Nat.div_add_mod j s
      rw [ej, hj] at e2
      have := hat _ _ hx (j % s) u e2.symm
      rw [Addr.add_mid]
      rw [Nat.add_assoc, ej] at this
      exact this) (fun u hu => by
        unfold fl at hu
        obtain ⟨l, hl, hul⟩ := List.mem_flatten.1 hu
        obtain ⟨x, hx, rfl⟩ := List.mem_map.1 hl
        exact Array.all_eq_true_iff_forall_mem.1 (hL x hx).2 u (by simpa using hul)) (by unfold maxLen; omega) (by
          have : (R.length + L.length) * bt ≤ 100000000 * 4096 := Nat.mul_le_mul hl hbt
          omega) hb
    refine ⟨v', w', h1, ⟨?_, hsz⟩, h3, h5⟩
    rw [List.length_append, fl_app]
    exact h2
theorem exec_app {sT : Nat} {o : Oper} {a : Act} {s x : Operand} (ho : o.op = .call { callee := .builtin .append, args := #[s, x], argTypes := #[sT, sT] }) {v src v' : Value} {w w' : World} (hs : a.eval s = v) (hx : a.eval x = src)
    (hr : (Builtin.append_ #[sT, sT] o.type #[v, src]).run Tryd.prog w = .ok v' w') : (execOp a.eval o).run Tryd.prog w = .ok (.value v') w' := by
  unfold execOp
  simp only [ho, resolve, invoke, builtin, Sem.run_bind, Sem.run_pure, Result.andThen_ok, List.map_toArray, List.map_cons, List.map_nil, hs, hx, hr]
theorem has_one {s : Nat} {eT : TypeId} {w : World} {B : Nat} {Z : Array Value} (h : w.heap[B]? = some (.cells Z eT (0, 0))) : HsL s w (.slice (some ⟨B, 0, none⟩) 1 1) [Z] := by
  refine .inr ⟨B, 0, 1, rfl, Nat.le_refl _, fun i x hi => ?_⟩
  match i, hi with
  | 0, hi =>
    simp at hi
    subst hi
    simpa using Lies.of_heap h
/-- one's own list with a new element behind it -/
theorem app_one {sT eT s : Nat} (hk : Ek sT eT s) {w : World} {lo : Nat} {v : Value} {R : List (Array Value)} (ty : TypeId) (Z : Array Value) (hZ : Z.size = s) (hZ1 : Z.all (·.oneCell') = true) (h : OwL eT s w lo v R) (hb : lo ≤ w.heap.size) (hl : R.length + 1 ≤ 100000000) (B : Nat) (hB : w.heap.size = B) :
    ∃ v' w', (Builtin.append_ #[sT, sT] ty #[v, .slice (some ⟨B, 0, none⟩) 1 1]).run Tryd.prog (w.alloc (.cells Z eT)) = .ok v' w' ∧ OwL eT s w' lo v' (R ++ [Z]) ∧ w.grownBy w' v.ownBlock ∧ (∀ b, v'.ownBlock = some b → v.ownBlock = some b ∨ w.heap.size ≤ b) := by
  subst hB
  have h1 : OwL eT s (w.alloc (.cells Z eT)) lo v R := h.up ((Below.refl _ _).alloc (Nat.le_refl _) _)
  obtain ⟨v', w', r1, r2, r3, r5⟩ := app_run hk (L := [Z]) ty h1 (has_one (World.alloc_heap_new w _)) (by intro x hx; simp at hx; subst hx; exact ⟨hZ, hZ1⟩) (by simp; omega) (by simpa using hl)
  refine ⟨v', w', r1, r2, ⟨r3.os, r3.tape, r3.output, by have := r3.size; simp at this; omega, fun b hb hn => ?_⟩, fun b e => ?_⟩
  · rw [r3.block b (by simp; omega) hn, Below.heap_alloc w _ b hb]
  · rcases r5 with q | q
    · rw [q] at e; exact .inl e
    · rw [q] at e
      injection e with e
      simp at e
      exact .inr (by omega)
end Go.Proofs.YtfigneaaeakbcaaDoor.Hm
