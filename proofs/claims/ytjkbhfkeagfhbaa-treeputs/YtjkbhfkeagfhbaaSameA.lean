/-
  tree.Same by contract.
-/
import Derived.Test.YtjkbhfkeagfhbaaGrowsI
import Derived.Test.YtjkbhfkeagfhbaaNode
import Derived.Test.YtjkbhfkeagfhbaaKnown
import Derived.Test.YtjkbhfkeagfhbaaGrownP
import Derived.Test.YtjkbhfkeagfhbaaEachP
import Derived.LaidEqlPtr
namespace Go.Proofs.Ytjkbhfkeagfhbaa
open Go.RowKit Go.Shelf

/-- what Same keeps in variables: the second tree, how, the answer -/
def SV (W : World) (B : Nat) (au : Option Addr) (o b : Bool) : Prop := W.heap[B]? = some (.cells #[.pointer au] 55 (0, 0)) ∧ W.heap[B + 1]? = some (.cells #[.bool o] 4 (0, 0)) ∧ W.heap[B + 2]? = some (.cells #[.bool b] 4 (0, 0))
theorem SV.lt {W : World} {B : Nat} {au : Option Addr} {o b : Bool} (h : SV W B au o b) : B + 2 < W.heap.size := (Array.getElem?_eq_some_iff.1 h.2.2).1
theorem SV.grow {W W' : World} {B : Nat} {au : Option Addr} {o b : Bool} (h : SV W B au o b) (hg : G W W') : SV W' B au o b := by
  have := h.lt
  exact ⟨(hg.block B (by omega)).trans h.1, (hg.block (B + 1) (by omega)).trans h.2.1, (hg.block (B + 2) (by omega)).trans h.2.2⟩
theorem cell_of_block0 {W : World} {B : Nat} {x : Value} {ty : TypeId} (h : W.heap[B]? = some (.cells #[x] ty (0, 0))) : W.cell? ⟨B, 0, none⟩ = some x := by
  simp only [World.cell?, h]
  rfl
theorem SV.c0 {W : World} {B : Nat} {au : Option Addr} {o b : Bool} (h : SV W B au o b) : W.cell? ⟨B, 0, none⟩ = some (.pointer au) := cell_of_block0 h.1
theorem SV.c1 {W : World} {B : Nat} {au : Option Addr} {o b : Bool} (h : SV W B au o b) : W.cell? ⟨B + 1, 0, none⟩ = some (.bool o) := cell_of_block0 h.2.1
theorem SV.c2 {W : World} {B : Nat} {au : Option Addr} {o b : Bool} (h : SV W B au o b) : W.cell? ⟨B + 2, 0, none⟩ = some (.bool b) := cell_of_block0 h.2.2
theorem SV.f2 {W : World} {B : Nat} {au : Option Addr} {o b : Bool} (h : SV W B au o b) : W.frozen? ⟨B + 2, 0, none⟩ = false := by
  have h' := h.2.2
  simp [World.frozen?, h']
theorem SV.set {W : World} {B : Nat} {au : Option Addr} {o b : Bool} (h : SV W B au o b) (b' : Bool) : SV (W.setCell ⟨B + 2, 0, none⟩ (.bool b')) B au o b' := by
  refine ⟨(Below.heap_setCell _ _ _ _ (by show B ≠ B + 2; omega)).trans h.1, (Below.heap_setCell _ _ _ _ (by show B + 1 ≠ B + 2; omega)).trans h.2.1, ?_⟩
  have h' := h.2.2
  unfold World.setCell
  simp only []
  rw [Array.getElem?_modify]
  simp [h']
theorem SV.new (w : World) (au : Option Addr) (o : Bool) : SV (((w.alloc (.cells #[.pointer au] 55)).alloc (.cells #[.bool o] 4)).alloc (.cells #[.bool false] 4)) w.heap.size au o false := by
  refine ⟨?_, ?_, ?_⟩
  · rw [Below.heap_alloc _ _ _ (by rw [World.size_alloc, World.size_alloc]; omega), Below.heap_alloc _ _ _ (by rw [World.size_alloc]; omega)]; exact World.alloc_heap_new w _
  · rw [Below.heap_alloc _ _ _ (by rw [World.size_alloc, World.size_alloc]; omega)]
    have := World.alloc_heap_new (w.alloc (.cells #[.pointer au] 55)) (.cells #[.bool o] 4)
    rwa [World.size_alloc] at this
  · have := World.alloc_heap_new ((w.alloc (.cells #[.pointer au] 55)).alloc (.cells #[.bool o] 4)) (.cells #[.bool false] 4)
    rwa [World.size_alloc, World.size_alloc] at this
theorem results_bool {fn : Func} {p : Tmp} (h : fn.results = #[.cell p 4]) (tmps : Array Value) (W : World) (g : Nat) (b : Bool) (hp : tmps.getD p undef = .pointer (some ⟨g, 0, none⟩)) (hc : W.cell? ⟨g, 0, none⟩ = some (.bool b)) : (results fn tmps).run Try.prog W = .ok (.bool b) W := by
  have hp' : tmps[p]?.getD undef = .pointer (some ⟨g, 0, none⟩) := by simpa using hp
  have h4 := Try.isAgg4
  simp [results, h, hp', asAddr, go_sem, hc]
theorem info103 : (Try.prog.info? 103).map (·.size) = some 40 := by kernel_rfl
theorem under55 : Try.prog.underlying 55 = some (.pointer 103) := by kernel_rfl
theorem exec_eq55 {o : Oper} {a : Act} (x y : Operand) (ho : o.op = .binOp .eql 55 x y 55) (p q : Nat) (hx : a.eval x = .pointer (some ⟨p, 0, none⟩)) (hy : a.eval y = .pointer (some ⟨q, 0, none⟩)) (hne : p ≠ q) (w : World) (h1 : Tr w p) (h2 : Tr w q) : (execOp a.eval o).run Try.prog w = .ok (.value (.bool false)) w := by
  have hi := info103
  cases hj : Try.prog.info? 103 with
  | none => rw [hj] at hi; cases hi
  | some j =>
    rw [hj] at hi
    obtain ⟨c1, h1⟩ := h1
    obtain ⟨c2, h2⟩ := h2
    have hsz : j.size ≠ 0 := by simp at hi; omega
    unfold execOp
    have h' := run_eql_ptr_other w under55 hj hsz (a := ⟨p, 0, none⟩) (b := ⟨q, 0, none⟩) (by intro e; injection e with e; exact hne e) h1 h2
    simp only [ho, hx, hy, eqGuard, Sem.run_bind]
    simp [Result.andThen, h']
theorem exec_eq55s {o : Oper} {a : Act} (x y : Operand) (ho : o.op = .binOp .eql 55 x y 55) (p : Nat) (hx : a.eval x = .pointer (some ⟨p, 0, none⟩)) (hy : a.eval y = .pointer (some ⟨p, 0, none⟩)) (w : World) : (execOp a.eval o).run Try.prog w = .ok (.value (.bool true)) w := by
  have hi := info103
  cases hj : Try.prog.info? 103 with
  | none => rw [hj] at hi; cases hi
  | some j =>
    unfold execOp
    have h' := run_eql_ptr_same w ⟨p, 0, none⟩ under55 hj
    simp only [ho, hx, hy, eqGuard, Sem.run_bind]
    simp [Result.andThen, h']
/-- the second tree, or none -/
def UT (w : World) (au : Option Addr) : Option (Vd × Md × K) → Prop
  | none => au = none
  | some x => ∃ p, au = some ⟨p, 0, none⟩ ∧ AtT w p x.1 x.2.1 x.2.2 ∧ x.2.2.plain w ∧ Tr w p ∧ x.2.2.flat.rises ∧ x.2.2.flat.size ≤ 100000
def sameK (o : Bool) (t : Vd × Md × K) : Option (Vd × Md × K) → Bool
  | none => false
  | some u => sameT o (t.1, t.2.1, t.2.2.flat) (u.1, u.2.1, u.2.2.flat)
def SameOk (k : K) : Prop := ∀ (o : Bool) (p : Nat) (v : Vd) (m : Md) (au : Option Addr) (ou : Option (Vd × Md × K)) (w : World), AtT w p v m k → k.plain w → Tr w p → k.flat.rises → k.flat.size ≤ 100000 → UT w au ou →
    Calls Try.prog 24 #[.pointer (some ⟨p, 0, none⟩), .pointer au, .bool o] w fun e w' => e = .returned (.bool (sameK o (v, m, k) ou)) ∧ G w w'
theorem AtT.uniq {w : World} {p : Nat} {v v' : Vd} {m m' : Md} {k k' : K} (h : AtT w p v m k) (h' : AtT w p v' m' k') : v = v' ∧ m = m' ∧ k = k' := by
  obtain ⟨pk, h1, h2⟩ := h
  obtain ⟨pk', h1', h2'⟩ := h'
  obtain ⟨e1, e2, e3⟩ := lies_tc h1 h1'
  subst e3
  exact ⟨e1, e2, h2.uniq h2'⟩
theorem K.find_plain {w : World} {nm : ByteArray} {p : Nat} {v : Vd} {m : Md} {kk : K} : ∀ {k : K}, k.plain w → k.find nm = some (p, v, m, kk) → Tr w p ∧ kk.plain w
  | .nil, _, h => by cases h
  | .node _ _ n _ _ _ _ _, ⟨a2, a3, a4, a5⟩, h => by
    rw [K.find] at h
    split at h
    · cases h; exact ⟨a2, a3⟩
    split at h
    · exact K.find_plain a4 h
    · exact K.find_plain a5 h
/-- what find tells of the second tree -/
def subK (k : K) (nm : ByteArray) : Option (Vd × Md × K) := (k.find nm).map fun x => (x.2.1, x.2.2.1, x.2.2.2)
def addrOf : Option (Nat × Vd × Md × K) → Option Addr
  | none => none
  | some (p, _) => some ⟨p, 0, none⟩
theorem ptrOf_addr (x : Option (Nat × Vd × Md × K)) : ptrOf x = .pointer (addrOf x) := by cases x <;> rfl
theorem UT.find {w : World} {k : K} {ak : Option Addr} (h : At w k (.pointer ak)) (hp : k.plain w) (hr : k.flat.rises) (hs : k.flat.size ≤ 100000) (nm : ByteArray) : UT w (addrOf (k.find nm)) (subK k nm) := by
  unfold subK
  have hg := K.find_get (nm := nm) hr
  cases hf : k.find nm with
  | none => rfl
  | some x =>
    obtain ⟨p, v, m, kk⟩ := x
    rw [hf] at hg
    have h1 := F.rises_get hr hg.symm
    have h2 := K.find_plain hp hf
    exact ⟨p, rfl, K.find_at h p v m kk hf, h2.2, h2.1, h1.1, by have := h1.2; simp only at this; show kk.flat.size ≤ _; omega⟩
theorem UT.grow {w w' : World} {au : Option Addr} {ou : Option (Vd × Md × K)} (h : UT w au ou) (hg : G w w') : UT w' au ou := by
  cases ou with
  | none => exact h
  | some x => obtain ⟨p, h1, h2, h3, h4, h5⟩ := h; exact ⟨p, h1, h2.grow hg, K.plain_grow hg h3, h4.grow hg, h5⟩
theorem sameK_get {o : Bool} {t : Vd × Md × K} {k : K} (hr : k.flat.rises) (nm : ByteArray) : sameK o t (subK k nm) = (match k.flat.get nm with | none => false | some s => sameT o (t.1, t.2.1, t.2.2.flat) s) := by
  rw [← K.find_get hr]
  unfold subK
  cases k.find nm <;> rfl
theorem allF_app {o : Bool} {g : F} : ∀ {f f' : F}, allF o (f.app f') g = (allF o f g && allF o f' g)
  | .nil, f' => by simp [F.app, allF]
  | .cons n v m k r, f' => by rw [F.app, allF, allF, allF_app, Bool.and_assoc]
/-- what is known of a child -/
structure Gd (w : World) (S : Nat) (x : Kid) : Prop where
  plain : x.k.plain w
  tr : Tr w x.p
  rises : x.k.flat.rises
  size : x.k.flat.size < S
theorem Gd.all {w : World} {S : Nat} : ∀ {k : K}, k.plain w → k.flat.rises → k.flat.size ≤ S → ∀ x ∈ k.items, Gd w S x
  | .nil, _, _, _, x, hx => by cases hx
  | .node q p nm v m kids ah be, ⟨h1, h2, h3, h4⟩, hr, hs, x, hx => by
    rw [K.flat, F.rises_app] at hr
    obtain ⟨r1, _, _, r4, r5, _⟩ := hr
    rw [K.flat, F.app_size, F.size] at hs
    rw [K.items, List.mem_append, List.mem_cons] at hx
    rcases hx with hx | rfl | hx
    · exact Gd.all h3 r1 (by omega) x hx
    · exact ⟨h2, h1, r4, by show kids.flat.size < S; omega⟩
    · exact Gd.all h4 r5 (by omega) x hx
theorem SV.own {w : World} {B B5 : Nat} {au : Option Addr} {o : Bool} {β : Type} (C : β → Prop) (hB : w.heap.size ≤ B5) : OwnFrom B5 (fun (pre : β) W => SV W B au o false ∧ G w W ∧ C pre) := by
  intro s W W' row ⟨h1, h2, h3⟩ hg hr
  have hc : ∀ (b : Nat) (x : Obj), W.heap[b]? = some x → x.isCells = true → W'.heap[b]? = W.heap[b]? := fun b x hb hx => hg.block b (Array.getElem?_eq_some_iff.1 hb).1 fun e => by
    obtain ⟨_, x', hx', hc'⟩ := hr b e.symm
    rw [hb] at hx'
    cases hx'
    rw [hx] at hc'
    cases hc'
  refine ⟨⟨(hc _ _ h1.1 rfl).trans h1.1, (hc _ _ h1.2.1 rfl).trans h1.2.1, (hc _ _ h1.2.2 rfl).trans h1.2.2⟩, ?_, h3⟩
  exact Below.trans (B := w.heap.size) h2 ⟨hg.os, hg.tape, hg.output, hg.size, fun b hb => hg.block b (by have := h2.size; omega) fun e => by have := (hr b e.symm).1; omega⟩
theorem keeps_of {W W' : World} (h : G W W') : KeepsOthers W W' := ⟨h.size, fun k _ hk _ => (h.block k (Array.getElem?_eq_some_iff.1 hk).1).trans hk⟩
theorem keeps_set {W W' : World} (h : G W W') {B : Nat} {au : Option Addr} {o b : Bool} (hs : SV W' B au o b) (x : Value) : KeepsOthers W (W'.setCell ⟨B + 2, 0, none⟩ x) := by
  refine ⟨by have := h.size; simpa [World.setCell] using this, fun k ob hk hc => ?_⟩
  have h1 := (h.block k (Array.getElem?_eq_some_iff.1 hk).1).trans hk
  refine (Below.heap_setCell _ _ _ k ?_).trans h1
  intro e
  have e : k = B + 2 := e
  subst e
  rw [hs.2.2] at h1
  cases h1
  cases hc
set_option maxRecDepth 100000 in
set_option maxHeartbeats 2000000 in
/-- nothing is there -/
theorem same_none (o : Bool) (p : Nat) (w : World) : Calls Try.prog 24 #[.pointer (some ⟨p, 0, none⟩), .pointer none, .bool o] w fun e w' => e = .returned (.bool false) ∧ G w w' := by
  have HS := hid (SV.new w none o)
  have HG : Hid (G w (((w.alloc (.cells #[.pointer none] 55)).alloc (.cells #[.bool o] 4)).alloc (.cells #[.bool false] 4))) := ((G.alloc _ _).trans (G.alloc _ _)).trans (G.alloc _ _)
  go_enter Try.func24, Try.ntmps24
  go_upto_region 1 with fail
  try simp only [World.size_alloc]
  generalize ((w.alloc (.cells #[.pointer none] 55)).alloc (.cells #[.bool o] 4)).alloc (.cells #[.bool false] 4) = w1 at *
  generalize hB : w.heap.size = B at *
  have HB := hid hB
  have c0 := HS.out.c0
  have c2 := HS.out.c2
  have f2 := HS.out.f2
  clear hB
  go_wp2_with fail
  refine bodyPost_ret (results_bool (p := 6) rfl _ _ (B + 2) false rfl (HS.out.set false).c2) rfl ⟨rfl, ?_⟩
  have hBw := HB.out
  exact Below.setCell (p := ⟨B + 2, 0, none⟩) HG.out (by show w.heap.size ≤ B + 2; omega) _
set_option maxRecDepth 100000 in
set_option maxHeartbeats 2000000 in
/-- the same pointer -/
theorem same_self (o : Bool) (p : Nat) (w : World) : Calls Try.prog 24 #[.pointer (some ⟨p, 0, none⟩), .pointer (some ⟨p, 0, none⟩), .bool o] w fun e w' => e = .returned (.bool true) ∧ G w w' := by
  have HS := hid (SV.new w (some ⟨p, 0, none⟩) o)
  have HG : Hid (G w (((w.alloc (.cells #[.pointer (some ⟨p, 0, none⟩)] 55)).alloc (.cells #[.bool o] 4)).alloc (.cells #[.bool false] 4))) := ((G.alloc _ _).trans (G.alloc _ _)).trans (G.alloc _ _)
  go_enter Try.func24, Try.ntmps24
  go_upto_region 1 with fail
  try simp only [World.size_alloc]
  generalize ((w.alloc (.cells #[.pointer (some ⟨p, 0, none⟩)] 55)).alloc (.cells #[.bool o] 4)).alloc (.cells #[.bool false] 4) = w1 at *
  generalize hB : w.heap.size = B at *
  have HB := hid hB
  have c0 := HS.out.c0
  have c2 := HS.out.c2
  have f2 := HS.out.f2
  clear hB
  go_wp2_with ((with_reducible refine wpList_exec (.bool true) ?_ ?_ ?_); exact exec_eq55s _ _ rfl p rfl rfl _; kernel_rfl)
  refine bodyPost_ret (results_bool (p := 6) rfl _ _ (B + 2) true rfl (HS.out.set true).c2) rfl ⟨rfl, ?_⟩
  have hBw := HB.out
  exact Below.setCell (p := ⟨B + 2, 0, none⟩) HG.out (by show w.heap.size ≤ B + 2; omega) _
end Go.Proofs.Ytjkbhfkeagfhbaa
