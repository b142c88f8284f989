/-
  errors.Is of a *api.Fault at an api.Errno: by the library's own text.
-/
import Derived.Test.YthpelabmfpogbaaDoorErrs
namespace Go.Proofs.YthpelabmfpogbaaDoor
open Go.RowKit Go.Extern.Stop Go.Stop Go.Extern

theorem eql_iface_int {P : Program} (w : World) {ti tn : TypeId} {ms : Array (String × TypeId)} {i : TypeInfo} {k : IntKind} (a b : Int)
    (hi : P.underlying ti = some (.interface ms)) (hn : P.underlying tn = some (.int k)) (hinfo : P.info? tn = some i) (hcomp : i.comparable = true) :
    (binOp .eql ti (.iface tn (.int k a)) (.iface tn (.int k b))).run P w = .ok (.bool (a == b)) w := by
  have h : ∀ d : Nat, (Op.equalIn (d + 2) ti (.iface tn (.int k a)) (.iface tn (.int k b))).run P w = .ok (a == b) w := fun d => by
    simp [Op.equalIn, run_underlying hi, run_underlying hn, typeInfo, hinfo, hcomp]
  simp only [binOp]
  simp [Op.equal, Op.maxDepth, h 9998]

theorem Ris.eql48 (n : Int) (w : World) : (binOp .eql 33 (.iface 48 (.int .i64 n)) (.iface 48 (.int .i64 n))).run Tryd.prog w = .ok (.bool true) w := by
  have hc : (Tryd.prog.info? 48).map (·.comparable) = some true := by kernel_rfl
  obtain ⟨i, hi, hcomp⟩ := Option.map_eq_some_iff.1 hc
  have := eql_iface_int w n n Tryd.underlying33 Tryd.underlying48 hi hcomp
  simpa using this
theorem Ris.eql4548 (x y : Value) (w : World) : (binOp .eql 33 (.iface 45 x) (.iface 48 y)).run Tryd.prog w = .ok (.bool false) w :=
  run_eql_iface_types 45 48 x y Tryd.underlying33 (by decide) w

theorem Ris.typeOf48 (v : Value) (w : World) : (ReflectliteType.typeOf #[.iface 48 v]).run Tryd.prog w = .ok (.iface 84 (.agg #[.pointer (some ⟨1, 48, none⟩)])) w := by kernel_rfl
theorem Ris.methodComparable (h : Value) (w : World) : (Go.method 227 84 (.agg #[h]) "Comparable").run Tryd.prog w = .ok (71, .agg #[h]) w := by kernel_rfl
theorem Ris.assert95 (x : Value) (w : World) : (Instr.typeAssert (.iface 45 x) 33 95 true).run Tryd.prog w = .ok (.tuple #[.nilIface, .bool false]) w := run_typeAssert_lacksB Tryd.underlying95 (by kernel_rfl) (by kernel_rfl) x 33 w
theorem Ris.assert91 (x : Value) (w : World) : (Instr.typeAssert (.iface 45 x) 33 91 true).run Tryd.prog w = .ok (.tuple #[.iface 45 x, .bool true]) w := by kernel_rfl

theorem Ris.comparable48 (w : World) : (ReflectliteType.method (fun t => do Rtype.noPackHeld "Comparable" t; (fun a : TypeInfo => Value.bool a.comparable) <$> typeInfo t) #[.agg #[.pointer (some ⟨1, 48, none⟩)]]).run Tryd.prog w = .ok (.bool true) w := by kernel_rfl
theorem Ris.methodUnwrap (h : Value) (w : World) : (Go.method 227 45 h "Unwrap").run Tryd.prog w = .ok (64, h) w := by kernel_rfl

set_option maxHeartbeats 400000 in
theorem unwrap_any (F : Nat) (n : Int) (w : World) (h2 : w.cell? ⟨F, 2, none⟩ = some (.int .i64 n)) :
    Calls Tryd.prog 64 #[.pointer (some ⟨F, 0, none⟩)] w fun ev w' => ev = .returned (.iface 48 (.int .i64 n)) ∧ w' = w := by
  go_enter Tryd.func64, Tryd.ntmps64
  go_wp2
  go_ret
  exact ⟨rfl, rfl⟩

set_option maxHeartbeats 4000000 in
set_option maxRecDepth 100000 in
theorem is_hit (F : Nat) (n : Int) (w : World) (h2 : w.cell? ⟨F, 2, none⟩ = some (.int .i64 n)) :
    Calls Tryd.prog 19 #[.iface 45 (.pointer (some ⟨F, 0, none⟩)), .iface 48 (.int .i64 n)] w fun ev w' => ev = .returned (.bool true) ∧ w' = w := by
  have h39 := @run_callFunc_extern Tryd.prog 39 _ ReflectliteType.typeOf Tryd.func39 (by kernel_rfl) (by kernel_rfl) (by kernel_rfl) (by kernel_rfl)
  have tO := Ris.typeOf48
  have mC := Ris.methodComparable
  have a95 := Ris.assert95
  have a91 := Ris.assert91
  have h71 := @run_callFunc_extern Tryd.prog 71 _ (ReflectliteType.method (fun t => do Rtype.noPackHeld "Comparable" t; (fun a : TypeInfo => Value.bool a.comparable) <$> typeInfo t)) Tryd.func71 (by kernel_rfl) (by kernel_rfl) (by kernel_rfl) (by kernel_rfl)
  have c48 := Ris.comparable48
  have mU := Ris.methodUnwrap
  have q1 := Ris.eql48
  have q2 := Ris.eql4548
  go_enter Tryd.func19, Tryd.ntmps19
  go_wp2
  refine wp_loop_rounds 2 ?_
  rw [rounds_succ]
  go_wp2
  rw [rounds_succ]
  go_wp2
  go_ret
  exact ⟨rfl, rfl⟩
end Go.Proofs.YthpelabmfpogbaaDoor
