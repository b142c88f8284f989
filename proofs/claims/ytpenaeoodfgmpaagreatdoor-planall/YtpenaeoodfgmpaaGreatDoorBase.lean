/-
  The ground of the walks: worlds that grow, cells of merges, variables that hold structs.
-/
import Derived.Test.YtpenaeoodfgmpaaGreatDoorProg
import Derived.Test.YtpenaeoodfgmpaaGreatDoorPlain
import Derived.WalkKit
import Derived.WalkSpells
import Derived.WalkLawsBesides
import Derived.Laws.AppendOwnNone
import Derived.Laws.OwnMore
import Derived.Laws.Tables
import Derived.Maps.AppendAt
import Derived.Lib.SliceRun
import Derived.KernelRfl
import Derived.Deep.QuietTactic
import Derived.Deep.MidRow
import Derived.Deep.RegionHeld3
import Derived.Deep.AppendLies
import Derived.BigQuiet
namespace Go.Proofs.YtpenaeoodfgmpaaGreatDoor
open Go.RowKit

/-- a slot's number -/
def iOf (v : Value) : Nat := match v with | .int _ i => i.toNat | _ => 0
@[simp] theorem iOf_int (k : IntKind) (i : Int) : iOf (.int k i) = i.toNat := rfl
/-- what the walk is not to see -/
def Hid (p : Prop) : Prop := p
theorem Hid.out {p : Prop} (h : Hid p) : p := h
theorem hid {p : Prop} (h : p) : Hid p := h
/-- worlds that only grow -/
abbrev G (w w' : World) : Prop := Below w.heap.size w w'
theorem G.refl (w : World) : G w w := Below.refl _ w
theorem G.up {w w1 w2 : World} (h : G w w1) (k : G w1 w2) : G w w2 := h.trans (k.mono h.size)
theorem G.al (w : World) (o : Obj) : G w (w.alloc o) := (Below.refl _ w).alloc (Nat.le_refl _) o
theorem G.drewN {w w' : World} (h : G w w') (n : Nat) : G w (w'.drewN n) := below_drewN h n
theorem bcell {W w1 : World} (hb : G W w1) : (∀ b o, b < W.heap.size → w1.cell? ⟨b, o, none⟩ = W.cell? ⟨b, o, none⟩) ∧ (∀ b o, b < W.heap.size → w1.frozen? ⟨b, o, none⟩ = W.frozen? ⟨b, o, none⟩) :=
  ⟨fun b o h => hb.cell (p := ⟨b, o, none⟩) h, fun b o h => hb.frozen (p := ⟨b, o, none⟩) h⟩
theorem addr_add (g off j : Nat) : (⟨g, off, none⟩ : Addr).add j = ⟨g, off + j, none⟩ := by unfold Addr.add; split <;> simp_all

/-- the cells c lie from a place on -/
def Lies (w : World) (g o : Nat) (c : Array Value) : Prop := ∀ j u, c[j]? = some u → w.cell? ⟨g, o + j, none⟩ = some u
theorem Lies.up {w w' : World} {g o : Nat} {c : Array Value} (h : Lies w g o c) (hb : G w w') : Lies w' g o c := fun j u hj => by
  have h1 := h j u hj
  rw [hb.cell (World.block_lt_of_cell? w _ h1)]
  exact h1
theorem load_lies {w : World} {g o : Nat} {c : Array Value} (ty : TypeId) (d : TypeDesc) (hu : Tryz.prog.underlying ty = some d) (hd : d.isRow = true) (hi : (Tryz.prog.info? ty).map (·.size) = some c.size) (h : Lies w g o c) :
    (Instr.loadAt ty (.pointer (some ⟨g, o, none⟩))).run Tryz.prog w = .ok (.agg c) w := by
  have := run_loadAt_mid (P := Tryz.prog) w g o ty c.toList d (fun j v hv => h j v (by simpa using hv)) hu hd (by rw [hi]; simp)
  simpa using this
theorem wpList_execW {ops : Array Oper} {rest : List Oper} {o : Oper} {a : Act} {w : World} {Q : Exit → Act → World → Prop} (v : Value) (w' : World)
    (he : (execOp a.eval o).run Tryz.prog w = .ok (.value v) w') (hw : Region.wanted o (yielded ops a.tmps) = true) (h : wpList Tryz.prog ops Q rest (a.put o.dst v) w') : wpList Tryz.prog ops Q (o :: rest) a w := by
  refine wpList_step fun K hK => ?_
  rw [if_pos hw]
  unfold Oper.wp
  rw [he, Oper.upon_value]
  exact hK _ _ h
theorem wpList_skipW {ops : Array Oper} {rest : List Oper} {o : Oper} {a : Act} {w : World} {Q : Exit → Act → World → Prop} (w' : World)
    (he : (execOp a.eval o).run Tryz.prog w = .ok .skip w') (hw : Region.wanted o (yielded ops a.tmps) = true) (h : wpList Tryz.prog ops Q rest (a.put o.dst undef) w') : wpList Tryz.prog ops Q (o :: rest) a w := by
  refine wpList_step fun K hK => ?_
  rw [if_pos hw]
  unfold Oper.wp
  rw [he, Oper.upon_skip]
  exact hK _ _ h
theorem run_zeroT (t : TypeId) (z : Array Value) (h : (Tryz.prog.info? t).bind (·.zero) = some (.agg z)) (w : World) : (zeroValue t).run Tryz.prog w = .ok (.agg z) w := by
  cases hq : Tryz.prog.info? t with
  | none => rw [hq] at h; cases h
  | some i =>
    rw [hq] at h
    simp only [Option.bind_some] at h
    simp [zeroValue, typeInfo, hq, h]
theorem exec_allocT {o : Oper} {a : Act} (t : TypeId) (z : Array Value) (ho : o.op = .alloc t) (hz : (Tryz.prog.info? t).bind (·.zero) = some (.agg z)) (w : World) (b : Nat) (hb : w.heap.size = b) : (execOp a.eval o).run Tryz.prog w = .ok (.value (.pointer (some ⟨b, 0, none⟩))) (w.alloc (.cells z t)) := by
  subst hb
  unfold execOp
  simp only [ho, Instr.alloc, Sem.run_bind, run_zeroT t z hz, Result.andThen_ok]
  simp [newVar, newRow, newObj, Value.cells]
  rfl
theorem setRow_alloc (w : World) (z c : Array Value) (t : TypeId) : (w.alloc (.cells z t)).setRow w.heap.size c = w.alloc (.cells c t) := by
  unfold World.setRow World.alloc
  congr 1
  apply Array.ext_getElem?
  intro i
  by_cases hi : i = w.heap.size
  · subst hi; rw [Array.getElem?_modify]; simp
  · have h2 : ¬ w.heap.size = i := fun h => hi h.symm
    simp [Array.getElem?_modify, Array.getElem?_push, hi, h2]
/-- a variable that was just made is written -/
theorem exec_fill {o : Oper} {a : Act} (t : TypeId) (x y : Operand) (ho : o.op = .store t x y) (c z : Array Value) (w : World) (hx : a.eval x = .pointer (some ⟨w.heap.size, 0, none⟩)) (hy : a.eval y = .agg c)
    (hz : (Tryz.prog.info? t).map (·.size) = some c.size) (hs' : z.size = c.size) (h1 : c.all (·.oneCell') = true) : (execOp a.eval o).run Tryz.prog (w.alloc (.cells z t)) = .ok .skip (w.alloc (.cells c t)) := by
  unfold execOp
  simp only [ho, hx, hy, Instr.storeAt, Instr.sureAddr, Sem.run_bind, Sem.run_pure, Result.andThen_ok, run_storeVar_row (P := Tryz.prog) (w.alloc (.cells z t)) w.heap.size t t z c (heap_alloc_new w _) hz hs' h1, setRow_alloc]
theorem exec_load {o : Oper} {a : Act} (t : TypeId) (x : Operand) (ho : o.op = .load t x) (g off : Nat) (c : Array Value) (d : TypeDesc) (hx : a.eval x = .pointer (some ⟨g, off, none⟩)) (w : World) (h : Lies w g off c)
    (hu : Tryz.prog.underlying t = some d) (hd : d.isRow = true) (hz : (Tryz.prog.info? t).map (·.size) = some c.size) : (execOp a.eval o).run Tryz.prog w = .ok (.value (.agg c)) w := by
  unfold execOp
  simp only [ho, hx, Sem.run_bind, load_lies t d hu hd hz h, Result.andThen_ok, Sem.run_pure]

/-- a cell's and an item's cells -/
def cc (c : Cd) : Array Value := #[.string c.path, .int .i64 c.what, .int .i64 c.side, .int .i64 c.mode, .int .i64 c.keep, .int .i64 c.take, .int .i64 c.names, .int .i64 c.bytes, .int .i64 c.hn, .int .i64 c.hb]
def ic (t : It) : Array Value := #[.int .i64 t.num, .int .i64 t.cell, .string t.path, .int .i64 t.what, .int .i64 t.frm, .int .i64 t.to, .int .i64 t.mode]
def z43 : Array Value := #[.string ⟨#[]⟩, .int .i64 0, .int .i64 0, .int .i64 0, .int .i64 0, .int .i64 0, .int .i64 0, .int .i64 0, .int .i64 0, .int .i64 0]
def z45 : Array Value := #[.int .i64 0, .int .i64 0, .string ⟨#[]⟩, .int .i64 0, .int .i64 0, .int .i64 0, .int .i64 0]
theorem zero43 : (Tryz.prog.info? 62).bind (·.zero) = some (.agg z43) := by kernel_rfl
theorem zero45 : (Tryz.prog.info? 71).bind (·.zero) = some (.agg z45) := by kernel_rfl
theorem size43 : (Tryz.prog.info? 62).map (·.size) = some 10 := by kernel_rfl
theorem size45 : (Tryz.prog.info? 71).map (·.size) = some 7 := by kernel_rfl
theorem under43 : Tryz.prog.underlying 62 = some (.struct (Tryz.prog.fieldsOf 62)) := by kernel_rfl
theorem under45 : Tryz.prog.underlying 71 = some (.struct (Tryz.prog.fieldsOf 71)) := by kernel_rfl
theorem cc_one (c : Cd) : (cc c).all (·.oneCell') = true := by simp [cc, Value.oneCell']
theorem ic_one (c : It) : (ic c).all (·.oneCell') = true := by simp [ic, Value.oneCell']
/-- a list of cells lies there -/
def HasC (w : World) (v : Value) (L : List Cd) : Prop :=
  ∃ ao cap, v = .slice ao L.length cap ∧ (∀ (i : Nat) (c : Cd), L[i]? = some c → ∃ g o, ao = some ⟨g, o, none⟩ ∧ Lies w g (o + i * 10) (cc c)) ∧ ∀ c ∈ L, c.ok
theorem HasC.up {w w' : World} {v : Value} {L : List Cd} (h : HasC w v L) (hb : G w w') : HasC w' v L := by
  obtain ⟨ao, cap, hv, h, k⟩ := h
  refine ⟨ao, cap, hv, fun i c hi => ?_, k⟩
  obtain ⟨g, o, ha, hl⟩ := h i c hi
  exact ⟨g, o, ha, hl.up hb⟩
end Go.Proofs.YtpenaeoodfgmpaaGreatDoor
