/-
  Loads of whole things; a thing's fields.
-/
import Derived.Test.YtglnpmdigghibaaData
import Derived.Deep.MidRow
import Derived.RangeFuncRecord
import Derived.Deep.RegionWith
import Derived.Deep.RegionHeld3
import Derived.Deep.DeepCutAuto
import Derived.Deep.RegionLaw
namespace Go.Proofs.Ytglnpmdigghibaa
open Go.RowKit

/-- the cells c lie from a place on -/
def Lies (w : World) (g o : Nat) (c : Array Value) : Prop := ∀ j u, c[j]? = some u → w.cell? ⟨g, o + j, none⟩ = some u
theorem Lies.block {w w' : World} {g o : Nat} {c : Array Value} (h : Lies w g o c) (hb : ∀ a : Addr, a.block < w.heap.size → w'.cell? a = w.cell? a) : Lies w' g o c := fun j u hj => by
  have h1 := h j u hj
  rw [hb _ (World.block_lt_of_cell? w _ h1)]
  exact h1
theorem Lies.below {w w' : World} {g o : Nat} {c : Array Value} (h : Lies w g o c) (hb : Below w.heap.size w w') : Lies w' g o c := h.block fun _ ha => hb.cell ha
theorem Lies.drew {w w' : World} {g o : Nat} {c : Array Value} (h : Lies w g o c) (hb : Drew w w') : Lies w' g o c := h.below hb.below
theorem load_lies {w : World} {g o : Nat} {c : Array Value} (ty : TypeId) (d : TypeDesc) (hu : Try.prog.underlying ty = some d) (hd : d.isRow = true) (hi : (Try.prog.info? ty).map (·.size) = some c.size) (h : Lies w g o c) :
    (Instr.loadAt ty (.pointer (some ⟨g, o, none⟩))).run Try.prog w = .ok (.agg c) w := by
  have := run_loadAt_mid (P := Try.prog) w g o ty c.toList d (fun j v hv => h j v (by simpa using hv)) hu hd (by rw [hi]; simp)
  simpa using this
theorem size30 : (Try.prog.info? 30).map (·.size) = some 41 := by kernel_rfl
theorem size24 : (Try.prog.info? 24).map (·.size) = some 35 := by kernel_rfl
theorem size27 : (Try.prog.info? 27).map (·.size) = some 4 := by kernel_rfl
theorem under30 : Try.prog.underlying 30 = some (.struct (Try.prog.fieldsOf 30)) := by kernel_rfl
theorem load30 {w : World} {g o : Nat} {c : Array Value} (hs : c.size = 41) (h : Lies w g o c) : (Instr.loadAt 30 (.pointer (some ⟨g, o, none⟩))).run Try.prog w = .ok (.agg c) w :=
  load_lies 30 _ under30 rfl (by rw [size30, hs]) h
/-- what the walk wants to know of a thing's cells -/
structure Nc (c : Array Value) (nm : ByteArray) (x m : Array Value) (kv : Value) : Prop where
  size : c.size = 41
  name : c[0]? = some (.string nm)
  val : c.extract 1 36 = x
  marks : c.extract 36 40 = m
  kids : c[40]? = some kv
theorem nc_nc (nm : ByteArray) (v : Vd) (m : Md) (kv : Value) : Nc (nc nm v m kv) nm (vx v).toArray (mx m).toArray kv := ⟨nc_size .., nc_name .., nc_val .., nc_marks .., nc_kids ..⟩

/-- all but one block is as it was; new blocks may be there -/
structure But (K : Nat) (w w' : World) : Prop where
  os : w'.os = w.os
  tape : w'.tape = w.tape
  output : w'.output = w.output
  size : w.heap.size ≤ w'.heap.size
  block : ∀ k, k < w.heap.size → k ≠ K → w'.heap[k]? = w.heap[k]?
theorem But.refl (K : Nat) (w : World) : But K w w := ⟨rfl, rfl, rfl, Nat.le_refl _, fun _ _ _ => rfl⟩
theorem But.trans {K : Nat} {a b c : World} (h : But K a b) (k : But K b c) : But K a c :=
  ⟨k.os.trans h.os, k.tape.trans h.tape, k.output.trans h.output, Nat.le_trans h.size k.size, fun i hi hn => (k.block i (by have := h.size; omega) hn).trans (h.block i hi hn)⟩
theorem But.of_below {K : Nat} {a b : World} (h : Below a.heap.size a b) : But K a b := ⟨h.os, h.tape, h.output, h.size, fun i hi _ => h.block i hi⟩
theorem But.below {K B : Nat} {a b : World} (h : But K a b) (hB : B ≤ K) (hs : B ≤ a.heap.size) : Below B a b := ⟨h.os, h.tape, h.output, h.size, fun i hi => h.block i (by omega) (by omega)⟩
theorem But.setCell {K : Nat} {a b : World} (h : But K a b) (i : Nat) (v : Value) : But K a (b.setCell ⟨K, i, none⟩ v) :=
  ⟨h.os, h.tape, h.output, by simpa using h.size, fun j hj hn => (Below.heap_setCell b ⟨K, i, none⟩ v j hn).trans (h.block j hj hn)⟩
theorem But.alloc {K : Nat} {a b : World} (h : But K a b) (o : Obj) : But K a (b.alloc o) :=
  h.trans (But.of_below ((Below.refl _ b).alloc (Nat.le_refl _) o))
theorem But.cell {K : Nat} {a b : World} (h : But K a b) {x : Addr} {v : Value} (hx : a.cell? x = some v) (hn : x.block ≠ K) : b.cell? x = some v := by
  rw [← hx]
  exact World.cell?_of_block (w := a) (h.block _ (World.block_lt_of_cell? a _ hx) hn)
theorem But.frozen {K : Nat} {a b : World} (h : But K a b) {x : Addr} {v : Value} (hx : a.cell? x = some v) (hn : x.block ≠ K) : b.frozen? x = a.frozen? x :=
  World.frozen?_of_block (w := a) (h.block _ (World.block_lt_of_cell? a _ hx) hn)

theorem wpList_loadT {ops : Array Oper} {rest : List Oper} {op : Oper} {a : Act} {w : World} {Q : Exit → Act → World → Prop} (hgd : op.guard = none) (ty : TypeId) (x : Operand) (ho : op.op = .load ty x)
    (b o : Nat) (hx : a.eval x = .pointer (some ⟨b, o, none⟩)) (c : Array Value) (d : TypeDesc) (hc : Lies w b o c)
    (hu : Try.prog.underlying ty = some d) (hd : d.isRow = true) (hi : (Try.prog.info? ty).map (·.size) = some c.size)
    (h : wpList Try.prog ops Q rest (a.put op.dst (.agg c)) w) : wpList Try.prog ops Q (op :: rest) a w :=
  wpList_load_mid (P := Try.prog) hgd ty x ho b o hx c.toList d (fun j v hv => hc j v (by simpa using hv)) hu hd (by rw [hi]; simp) (by simpa using h)
theorem wpList_load30 {ops : Array Oper} {rest : List Oper} {op : Oper} {a : Act} {w : World} {Q : Exit → Act → World → Prop} (hgd : op.guard = none) (x : Operand) (ho : op.op = .load 30 x)
    (b o : Nat) (hx : a.eval x = .pointer (some ⟨b, o, none⟩)) (c : Array Value) (hs : c.size = 41) (hc : Lies w b o c)
    (h : wpList Try.prog ops Q rest (a.put op.dst (.agg c)) w) : wpList Try.prog ops Q (op :: rest) a w :=
  wpList_loadT hgd 30 x ho b o hx c _ hc under30 rfl (by rw [size30, hs]) h
end Go.Proofs.Ytglnpmdigghibaa
