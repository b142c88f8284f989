import Derived.Test.YtbjjbgaomoihaaaGreatDoorTree
set_option maxRecDepth 100000
namespace Go.Proofs.YtbjjbgaomoihaaaGreatDoor
open Go.RowKit
def over (cs : List Value) (off : Nat) (c : List Value) : List Value := cs.take off ++ c ++ cs.drop (off + c.length)
theorem set_over (off : Nat) (x : Value) (cs : List Value) (h : off < cs.length) : cs.set off x = cs.take off ++ x :: cs.drop (off + 1) := by
  rw [List.set_eq_take_append_cons_drop, if_pos h]
theorem fold_over (off : Nat) : ∀ (c : List Value) (k : Nat) (cs : List Value), off + k + c.length ≤ cs.length →
    (c.zipIdx k).foldl (fun (a : Array Value) (p : Value × Nat) => a.setIfInBounds (off + p.2) p.1) cs.toArray = (over cs (off + k) c).toArray
  | [], k, cs, _ => by simp [over]
  | x :: c, k, cs, h => by
    simp only [List.length_cons] at h
    rw [List.zipIdx_cons, List.foldl_cons]
    simp only [List.setIfInBounds_toArray]
    rw [fold_over off c (k + 1) (cs.set (off + k) x) (by simp; omega)]
    congr 1
    unfold over
    rw [set_over _ _ _ (by omega), List.length_cons]
    have h1 : (cs.take (off + k)).length = off + k := by simp; omega
    have e1 : (cs.take (off + k) ++ x :: cs.drop (off + k + 1)).take (off + (k + 1)) = cs.take (off + k) ++ [x] := by
      rw [List.take_append, h1, show off + (k + 1) - (off + k) = 1 by omega, List.take_of_length_le (by omega)]
      rfl
    have e2 : (cs.take (off + k) ++ x :: cs.drop (off + k + 1)).drop (off + (k + 1) + c.length) = cs.drop (off + k + (c.length + 1)) := by
      rw [List.drop_append, h1, List.drop_of_length_le (by omega), show off + (k + 1) + c.length - (off + k) = c.length + 1 by omega, List.drop_succ_cons, List.drop_drop]
      simp only [List.nil_append]
      congr 1
      omega
    rw [e1, e2]
    simp
theorem fill_cons (place : Nat → Option (Nat × Nat)) (cs : List Value) (i off n : Nat) (v : Value) (c : List Value) (rest : List (Nat × Value)) (hp : place i = some (off, n)) (hv : v.cells = c.toArray) (hc : c.length = n) (ho : off + n ≤ cs.length) :
    Instr.fill place cs.toArray ((i, v) :: rest) = Instr.fill place (over cs off c).toArray rest := by
  rw [Instr.fill, hp]
  simp only [hv]
  have hf := fold_over off c 0 cs (by omega)
  rw [Nat.add_zero] at hf
  rw [if_neg (by simp; omega)]
  have hz : c.toArray.zipIdx = c.zipIdx.toArray := by
    apply Array.ext_getElem?
    intro j
    simp
  rw [← hf, hz, List.foldl_toArray]
theorem build103 (v : Vd) (m : Md) (u : Value) (hu : u.cells = #[u]) (w : World) : (Instr.build 78 #[(0, .agg (vx v).toArray), (1, .agg (mx m).toArray), (2, u)]).run Tryz.prog w = .ok (.agg (tc v m u)) w := by
  refine run_build w 78 _ _ ?_
  have hz : ∃ z, (Tryz.prog.info? 78).bind (·.zero) = some (.agg (List.toArray z)) ∧ z.length = 40 := ⟨(vx ⟨0, 0, 0, List.replicate 32 0, by simp⟩) ++ (mx ⟨0, 0, 0, 0⟩ ++ [.pointer none]), by kernel_rfl, by kernel_rfl⟩
  obtain ⟨z, hz, hl⟩ := hz
  have hp : (Tryz.prog.fieldsOf 78).toList.mapM (fun f => (Tryz.prog.info? f.type).map fun i => (f.offset, i.size)) = some [(0, 35), (35, 4), (39, 1)] := by kernel_rfl
  have hu2 : Tryz.prog.underlying 78 = some (.struct (Tryz.prog.fieldsOf 78)) := by kernel_rfl
  unfold Program.built
  cases hi : Tryz.prog.info? 78 with
  | none => rw [hi] at hz; cases hz
  | some it =>
    rw [hi] at hz
    simp only [Option.bind_some] at hz
    simp only [hu2, hz, hp]
    show Instr.fill _ z.toArray _ = _
    rw [fill_cons _ z 0 0 35 _ (vx v) _ rfl rfl (vx_len v) (by omega), fill_cons _ _ 1 35 4 _ (mx m) _ rfl rfl (mx_len m) (by simp [over, vx_len]; omega), fill_cons _ _ 2 39 1 _ [u] _ rfl hu rfl (by simp [over, vx_len, mx_len]; omega), Instr.fill]
    have hx := vx_len v
    have hm := mx_len m
    simp only [over, tc, Nat.zero_add, List.take_zero, List.nil_append, hx, hm, List.length_singleton]
    refine congrArg some (congrArg List.toArray ?_)
    have t1 : (vx v ++ z.drop 35).take 35 = vx v := by rw [List.take_append_of_le_length (by omega), List.take_of_length_le (by omega)]
    have t2 : ∀ r : List Value, (vx v ++ mx m ++ r).take 39 = vx v ++ mx m := fun r => by
      rw [List.take_append_of_le_length (by simp only [List.length_append]; omega), List.take_of_length_le (by simp only [List.length_append]; omega)]
    rw [t1, t2, List.drop_of_length_le (by simp only [List.length_append, List.length_drop]; omega)]
    simp
theorem exec_build103 {o : Oper} {a : Act} (parts : Array (Nat × Operand)) (ho : o.op = .build 78 parts) (v : Vd) (m : Md) (u : Value) (hu : u.cells = #[u])
    (hp : (parts.map fun (p : Nat × Operand) => (p.1, a.eval p.2)) = #[(0, .agg (vx v).toArray), (1, .agg (mx m).toArray), (2, u)]) (w : World) : (execOp a.eval o).run Tryz.prog w = .ok (.value (.agg (tc v m u))) w := by
  unfold execOp
  simp only [ho]
  have : (parts.map fun (x : Nat × Operand) => match x with | (i, x) => (i, a.eval x)) = #[(0, .agg (vx v).toArray), (1, .agg (mx m).toArray), (2, u)] := hp
  rw [this]
  simp only [Sem.run_bind, build103 v m u hu w, Result.andThen_ok, Sem.run_pure]
end Go.Proofs.YtbjjbgaomoihaaaGreatDoor
