import Derived.Test.YtlelgboklkmkdaaCEqv
import Derived.RegionIn
set_option maxRecDepth 100000
/-
  Operations on whole changes: they are put together, stored, laid behind others.
-/
namespace Go.Proofs.Ytlelgboklkmkdaa.Ch
open Go.RowKit
def over (cs : List Value) (off : Nat) (c : List Value) : List Value := cs.take off ++ c ++ cs.drop (off + c.length)
theorem set_over (off : Nat) (x : Value) (cs : List Value) (h : off < cs.length) : cs.set off x = cs.take off ++ x :: cs.drop (off + 1) := by
  rw [List.set_eq_take_append_cons_drop, if_pos h]
theorem fold_over (off : Nat) : ∀ (c : List Value) (k : Nat) (cs : List Value), off + k + c.length ≤ cs.length →
    (c.zipIdx k).foldl (fun (a : Array Value) (p : Value × Nat) => a.setIfInBounds (off + p.2) p.1) cs.toArray = (over cs (off + k) c).toArray
  | [], k, cs, _ => by simp [over]
  | x :: c, k, cs, h => by
    simp only [List.length_cons] at h
    rw [List.zipIdx_cons, List.foldl_cons]
    simp only [List.setIfInBounds_toArray]
    rw [fold_over off c (k + 1) (cs.set (off + k) x) (by simp; omega)]
    congr 1
    unfold over
    rw [set_over _ _ _ (by omega), List.length_cons]
    have h1 : (cs.take (off + k)).length = off + k := by simp; omega
    have e1 : (cs.take (off + k) ++ x :: cs.drop (off + k + 1)).take (off + (k + 1)) = cs.take (off + k) ++ [x] := by
      rw [List.take_append, h1, show off + (k + 1) - (off + k) = 1 by omega, List.take_of_length_le (by omega)]
      rfl
    have e2 : (cs.take (off + k) ++ x :: cs.drop (off + k + 1)).drop (off + (k + 1) + c.length) = cs.drop (off + k + (c.length + 1)) := by
      rw [List.drop_append, h1, List.drop_of_length_le (by omega), show off + (k + 1) + c.length - (off + k) = c.length + 1 by omega, List.drop_succ_cons, List.drop_drop]
      simp only [List.nil_append]
      congr 1
      omega
    rw [e1, e2]
    simp
theorem fill_cons (place : Nat → Option (Nat × Nat)) (cs : List Value) (i off n : Nat) (v : Value) (c : List Value) (rest : List (Nat × Value)) (hp : place i = some (off, n)) (hv : v.cells = c.toArray) (hc : c.length = n) (ho : off + n ≤ cs.length) :
    Instr.fill place cs.toArray ((i, v) :: rest) = Instr.fill place (over cs off c).toArray rest := by
  rw [Instr.fill, hp]
  simp only [hv]
  have hf := fold_over off c 0 cs (by omega)
  rw [Nat.add_zero] at hf
  rw [if_neg (by simp; omega)]
  have hz : c.toArray.zipIdx = c.zipIdx.toArray := by
    apply Array.ext_getElem?
    intro j
    simp
  rw [← hf, hz, List.foldl_toArray]
theorem wpList_execW {ops : Array Oper} {rest : List Oper} {o : Oper} {a : Act} {w : World} {Q : Exit → Act → World → Prop} (v : Value) (w' : World)
    (he : (execOp a.eval o).run Try.prog w = .ok (.value v) w') (hw : Region.wanted o (yielded ops a.tmps) = true) (h : wpList Try.prog ops Q rest (a.put o.dst v) w') : wpList Try.prog ops Q (o :: rest) a w := by
  refine wpList_step fun K hK => ?_
  rw [if_pos hw]
  unfold Oper.wp
  rw [he, Oper.upon_value]
  exact hK _ _ h
theorem wpList_skipW {ops : Array Oper} {rest : List Oper} {o : Oper} {a : Act} {w : World} {Q : Exit → Act → World → Prop} (w' : World)
    (he : (execOp a.eval o).run Try.prog w = .ok .skip w') (hw : Region.wanted o (yielded ops a.tmps) = true) (h : wpList Try.prog ops Q rest (a.put o.dst undef) w') : wpList Try.prog ops Q (o :: rest) a w := by
  refine wpList_step fun K hK => ?_
  rw [if_pos hw]
  unfold Oper.wp
  rw [he, Oper.upon_skip]
  exact hK _ _ h
theorem run_zeroT (t : TypeId) (z : Array Value) (hz : (Try.prog.info? t).bind (·.zero) = some (.agg z)) (w : World) : (zeroValue t).run Try.prog w = .ok (.agg z) w := by
  cases hq : Try.prog.info? t with
  | none => rw [hq] at hz; cases hz
  | some i =>
    rw [hq] at hz
    simp only [Option.bind_some] at hz
    simp [zeroValue, typeInfo, hq, hz]
theorem exec_allocT {o : Oper} {a : Act} (t : TypeId) (z : Array Value) (ho : o.op = .alloc t) (hz : (Try.prog.info? t).bind (·.zero) = some (.agg z)) (w : World) (b : Nat) (hb : w.heap.size = b) : (execOp a.eval o).run Try.prog w = .ok (.value (.pointer (some ⟨b, 0, none⟩))) (w.alloc (.cells z t)) := by
  subst hb
  unfold execOp
  simp only [ho, Instr.alloc, Sem.run_bind, run_zeroT t z hz, Result.andThen_ok]
  simp [newVar, newRow, newObj, Value.cells]
  rfl
theorem exec_storeT {o : Oper} {a : Act} (t : TypeId) (x y : Operand) (ho : o.op = .store t x y) (g : Nat) (c old : Array Value) (hx : a.eval x = .pointer (some ⟨g, 0, none⟩)) (hy : a.eval y = .agg c) (w : World) (hg : w.heap[g]? = some (.cells old t (0, 0)))
    (hz : (Try.prog.info? t).map (·.size) = some c.size) (hs' : old.size = c.size) (h1 : c.all (·.oneCell') = true) : (execOp a.eval o).run Try.prog w = .ok .skip (w.setRow g c) := by
  unfold execOp
  simp only [ho, hx, hy, Instr.storeAt, Instr.sureAddr, Sem.run_bind, Sem.run_pure, Result.andThen_ok, run_storeVar_row (P := Try.prog) w g t t old c hg hz hs' h1]
theorem over_set (xs r : List Value) (o : Nat) (v : Value) (h : o < xs.length) : over (xs.set o v) (o + 1) r = over xs o (v :: r) := by
  unfold over
  rw [set_over _ _ _ h]
  have h1 : (xs.take o).length = o := by simp; omega
  have e1 : (xs.take o ++ v :: xs.drop (o + 1)).take (o + 1) = xs.take o ++ [v] := by
    rw [List.take_append, h1, show o + 1 - o = 1 by omega, List.take_of_length_le (by omega)]
    rfl
  have e2 : (xs.take o ++ v :: xs.drop (o + 1)).drop (o + 1 + r.length) = xs.drop (o + (r.length + 1)) := by
    rw [List.drop_append, h1, List.drop_of_length_le (l := xs.take o) (by omega), show o + 1 + r.length - o = r.length + 1 by omega, List.drop_succ_cons, List.drop_drop]
    simp only [List.nil_append]
    congr 1
    omega
  rw [e1, e2]
  simp
/-- a store of many cells into a row of one's own -/
theorem owns_setCells {base e size g n cap : Nat} : ∀ (vs : List Value) (o : Nat) (w : World) (xs : List Value), w.ownsRow base e size (.slice (some ⟨g, 0, none⟩) n cap) n xs → o + vs.length ≤ xs.length →
    (w.setCells g o vs).ownsRow base e size (.slice (some ⟨g, 0, none⟩) n cap) n (over xs o vs) ∧ w.grownBy (w.setCells g o vs) (some g)
  | [], o, w, xs, h, _ => ⟨by simpa [over, World.setCells] using h, ⟨rfl, rfl, rfl, Nat.le_refl _, fun _ _ _ => rfl⟩⟩
  | v :: r, o, w, xs, h, hl => by
    simp only [List.length_cons] at hl
    obtain ⟨h1, h2⟩ := h.stored o v
    obtain ⟨h3, h4⟩ := owns_setCells r (o + 1) _ _ h1 (by simp; omega)
    refine ⟨?_, h2.trans h4⟩
    have : over (xs.set o v) (o + 1) r = over xs o (v :: r) := by
      unfold over
      rw [set_over _ _ _ (by omega)]
      have h1 : (xs.take o).length = o := by simp; omega
      have e1 : (xs.take o ++ v :: xs.drop (o + 1)).take (o + 1) = xs.take o ++ [v] := by
        rw [List.take_append, h1, show o + 1 - o = 1 by omega, List.take_of_length_le (by omega)]
        rfl
      have e2 : (xs.take o ++ v :: xs.drop (o + 1)).drop (o + 1 + r.length) = xs.drop (o + (r.length + 1)) := by
        rw [List.drop_append, h1, List.drop_of_length_le (l := xs.take o) (by omega), show o + 1 + r.length - o = r.length + 1 by omega, List.drop_succ_cons, List.drop_drop]
        simp only [List.nil_append]
        congr 1
        omega
      rw [e1, e2]
      simp
    rw [this] at h3
    exact h3
theorem owns_there {w : World} {base e size g n cap : Nat} {xs : List Value} (h : w.ownsRow base e size (.slice (some ⟨g, 0, none⟩) n cap) n xs) (o k : Nat) (hk : o + k ≤ xs.length) : w.there g o k := fun j hj => by
  refine ⟨?_, h.frozenAt _⟩
  have := h.cells (g := g) rfl (o + j) (xs[o + j]'(by omega)) (by simp)
  rw [Addr.add_mid, Nat.zero_add] at this
  rw [this]; rfl
theorem there_heap {w : World} {g o n : Nat} {cs : Array Value} {T : TypeId} (h : w.heap[g]? = some (.cells cs T (0, 0))) (hn : o + n ≤ cs.size) : w.there g o n := fun j hj => by
  refine ⟨?_, by simp [World.frozen?, h]⟩
  simp only [World.cell?, h]
  have : o + j < cs.size := by omega
  simp [this]
theorem exec_storeM {o : Oper} {a : Act} (t : TypeId) (x y : Operand) (ho : o.op = .store t x y) (g f : Nat) (c : Array Value) (hx : a.eval x = .pointer (some ⟨g, f, none⟩)) (hy : a.eval y = .agg c) (w : World) (ht : w.there g f c.size)
    (hz : (Try.prog.info? t).map (·.size) = some c.size) (h1 : c.all (·.oneCell') = true) : (execOp a.eval o).run Try.prog w = .ok .skip (w.setCells g f c.toList) := by
  unfold execOp
  simp only [ho, hx, hy, Sem.run_bind, Sem.run_pure, Result.andThen_ok, run_storeAt_mid (P := Try.prog) w g f t c ht hz h1]
def z55 : Array Value := cc (chP ⟨#[]⟩)
theorem zero55 : (Try.prog.info? 44).bind (·.zero) = some (.agg z55) := by kernel_rfl
theorem z55_size : z55.size = 71 := cc_size _
theorem info55 : (Try.prog.info? 44).map (fun i => (i.zero, i.size, i.bytes)) = some (some (.agg z55), 71, 128) := by kernel_rfl
/-- a slice of one change -/
theorem exec_slice55 {o : Oper} {a : Act} (x : Operand) (ho : o.op = .buildSlice 35 1 #[(0, x)]) (c : Array Value) (hx : a.eval x = .agg c) (hs : c.size = 71) (w : World) (b : Nat) (hb : w.heap.size = b) :
    (execOp a.eval o).run Try.prog w = .ok (.value (.slice (some ⟨b, 0, none⟩) 1 1)) (w.alloc (.cells c 44)) := by
  subst hb
  obtain ⟨i0, hi, hz0, hz1, hz2⟩ := info_parts info55
  have hf : Instr.fill (fun i => some (i * 71, 71)) ((Array.range (1 * 71)).map (z55[· % z55.size]!)) [(0, .agg c)] = some c := by
    obtain ⟨z, hz, hzl⟩ : ∃ z : List Value, ((Array.range (1 * 71)).map (z55[· % z55.size]!)) = z.toArray ∧ z.length = 71 := ⟨((Array.range (1 * 71)).map (z55[· % z55.size]!)).toList, Array.toArray_toList.symm, by simp⟩
    rw [hz, fill_cons _ z 0 0 71 _ c.toList _ rfl (by simp [Value.cells]) (by simpa using hs) (by omega), Instr.fill]
    have hd : z.drop 71 = [] := List.drop_of_length_le (by omega)
    simp [over, hs, hd]
  have hsz : (sizeOf 44).run Try.prog w = .ok 71 w := by simp [sizeOf, typeInfo, hi, hz1]
  have hzv := run_zeroT 44 z55 zero55 w
  generalize z55 = zz at hf hzv
  have hb : (Instr.buildSlice 35 1 #[(0, .agg c)]).run Try.prog w = .ok (.slice (some ⟨w.heap.size, 0, none⟩) 1 1) (w.alloc (.cells c 44)) := by
    unfold Instr.buildSlice
    simp only [Sem.run_bind, run_underlying Try.underlying35, Result.andThen_ok, hsz]
    have h1 : ¬ (1 * 71 > 2 ^ 24) := by omega
    have h2 : ¬ (1 * 71 = 0) := by omega
    simp only [h1, h2, if_false, Sem.run_bind, Sem.run_pure, Result.andThen_ok, hzv, Value.cells, hf]
    rfl
  unfold execOp
  simp only [ho]
  have hmap : (#[(0, x)].map fun (p : Nat × Operand) => match p with | (i, x) => (i, a.eval x)) = #[(0, .agg c)] := by simp [hx]
  rw [hmap]
  simp only [Sem.run_bind, hb, Result.andThen_ok, Sem.run_pure]
theorem hz55 : ∃ z : List Value, (Try.prog.info? 44).bind (·.zero) = some (.agg (List.toArray z)) ∧ z = .string ⟨#[]⟩ :: (vx vz ++ vx vz) := ⟨_, zero55, rfl⟩
theorem places55 : (Try.prog.fieldsOf 44).toList.mapM (fun f => (Try.prog.info? f.type).map fun i => (f.offset, i.size)) = some [(0, 1), (1, 35), (36, 35)] := by kernel_rfl
/-- a change of its path alone -/
theorem build55p (p : ByteArray) (w : World) : (Instr.build 44 #[(0, .string p)]).run Try.prog w = .ok (.agg (cc (chP p))) w := by
  refine run_build w 44 _ _ ?_
  obtain ⟨z, hz, hl⟩ := hz55
  unfold Program.built
  cases hi : Try.prog.info? 44 with
  | none => rw [hi] at hz; cases hz
  | some it =>
    rw [hi] at hz
    simp only [Option.bind_some] at hz
    simp only [under55, hz, places55]
    show Instr.fill _ (List.toArray _) _ = _
    have hx := vx_len vz
    rw [fill_cons _ _ 0 0 1 _ [.string p] _ rfl rfl rfl (by rw [hl]; simp), Instr.fill, hl]
    rfl
theorem exec_build55p {o : Oper} {a : Act} (x : Operand) (ho : o.op = .build 44 #[(0, x)]) (p : ByteArray) (hx : a.eval x = .string p) (w : World) : (execOp a.eval o).run Try.prog w = .ok (.value (.agg (cc (chP p)))) w := by
  unfold execOp
  simp only [ho]
  have hmap : (#[(0, x)].map fun (p : Nat × Operand) => match p with | (i, x) => (i, a.eval x)) = #[(0, .string p)] := by simp [hx]
  rw [hmap]
  simp only [Sem.run_bind, build55p p w, Result.andThen_ok, Sem.run_pure]
/-- a change of its parts -/
theorem build55 (p : ByteArray) (v u : Vd) (w : World) : (Instr.build 44 #[(0, .string p), (1, .agg (vx v).toArray), (2, .agg (vx u).toArray)]).run Try.prog w = .ok (.agg (cc ⟨p, v, u⟩)) w := by
  refine run_build w 44 _ _ ?_
  obtain ⟨z, hz, hl⟩ := hz55
  unfold Program.built
  cases hi : Try.prog.info? 44 with
  | none => rw [hi] at hz; cases hz
  | some it =>
    rw [hi] at hz
    simp only [Option.bind_some] at hz
    simp only [under55, hz, places55]
    show Instr.fill _ (List.toArray _) _ = _
    have h0 := vx_len vz
    have h1 := vx_len v
    have h2 := vx_len u
    have hz0 : z.length = 71 := by rw [hl]; simp [h0]
    rw [fill_cons _ _ 0 0 1 _ [.string p] _ rfl rfl rfl (by omega), fill_cons _ _ 1 1 35 _ (vx v) _ rfl rfl h1 (by simp [over, hz0]), fill_cons _ _ 2 36 35 _ (vx u) _ rfl rfl h2 (by simp [over, hz0, h1]), Instr.fill, hl]
    refine congrArg some (congrArg List.toArray ?_)
    have t1 : ∀ r : List Value, (vx v ++ r).take 35 = vx v := fun r => by
      rw [List.take_append_of_le_length (by omega), List.take_of_length_le (by omega)]
    have t2 : (vx vz ++ vx vz).drop 35 = vx vz := by
      rw [List.drop_append_of_le_length (by omega), List.drop_of_length_le (by omega), List.nil_append]
    have t3 : (vx v ++ vx vz).drop 70 = [] := List.drop_of_length_le (by simp [h0, h1])
    simp only [over, h1, h2, List.take_succ_cons, List.take_zero, List.cons_append, List.nil_append, List.drop_succ_cons, List.drop_zero, List.length_cons, List.length_nil, Nat.zero_add, Nat.reduceAdd, t2, t1, t3, List.append_nil]
theorem exec_build55 {o : Oper} {a : Act} (x y z : Operand) (ho : o.op = .build 44 #[(0, x), (1, y), (2, z)]) (p : ByteArray) (v u : Vd) (hx : a.eval x = .string p) (hy : a.eval y = .agg (vx v).toArray) (hz : a.eval z = .agg (vx u).toArray) (w : World) : (execOp a.eval o).run Try.prog w = .ok (.value (.agg (cc ⟨p, v, u⟩))) w := by
  unfold execOp
  simp only [ho]
  have hmap : (#[(0, x), (1, y), (2, z)].map fun (p : Nat × Operand) => match p with | (i, x) => (i, a.eval x)) = #[(0, .string p), (1, .agg (vx v).toArray), (2, .agg (vx u).toArray)] := by simp [hx, hy, hz]
  rw [hmap]
  simp only [Sem.run_bind, build55 p v u w, Result.andThen_ok, Sem.run_pure]
theorem row_form {w : World} {lo e s n : Nat} {v : Value} {xs : List Value} (h : w.ownsRow lo e s v n xs) : ∃ p c, v = .slice p n c := by
  obtain ⟨_, h | ⟨g, cap, cur, hv, _⟩⟩ := h
  · exact ⟨none, 0, by rw [h.1, h.2]⟩
  · exact ⟨_, cap, hv⟩
/-- a new variable that was written -/
theorem new_varT (w : World) (t : TypeId) (z c : Array Value) : Below w.heap.size w ((w.alloc (.cells z t)).setRow w.heap.size c) ∧ ((w.alloc (.cells z t)).setRow w.heap.size c).heap[w.heap.size]? = some (.cells c t (0, 0)) ∧ ((w.alloc (.cells z t)).setRow w.heap.size c).heap.size = w.heap.size + 1 := by
  refine ⟨⟨rfl, rfl, rfl, by simp, fun b hb => ?_⟩, setRow_heap _ _ z c t _ (World.alloc_heap_new w _), by simp⟩
  rw [setRow_other _ _ _ _ (by omega), Below.heap_alloc _ _ _ hb]
theorem flat_over {α : Type} {f : α → Array Value} {s : Nat} (hs : ∀ x, (f x).size = s) : ∀ (L : List α) (i : Nat) (x : α), i < L.length → over (flat f L) (i * s) (f x).toList = flat f (L.set i x)
  | [], i, x, h => by simp at h
  | y :: L, 0, x, _ => by
    have hy : (f y).toList.length = s := by simp [hs y]
    have hx : (f x).toList.length = s := by simp [hs x]
    rw [List.set_cons_zero, flat_cons, flat_cons, over, Nat.zero_mul, List.take_zero, List.nil_append, Nat.zero_add, hx, List.drop_append_of_le_length (by omega), List.drop_of_length_le (by omega), List.nil_append]
  | y :: L, i + 1, x, h => by
    have hy : (f y).toList.length = s := by simp [hs y]
    have hx : (f x).toList.length = s := by simp [hs x]
    have ih := flat_over hs L i x (by simpa using h)
    rw [List.set_cons_succ, flat_cons, flat_cons, ← ih, over, over, hx, Nat.add_mul, Nat.one_mul, show i * s + s = s + i * s by omega, List.take_append, List.drop_append, hy, List.take_of_length_le (by omega), List.drop_of_length_le (l := (f y).toList) (by omega), show s + i * s - s = i * s by omega, show s + i * s + s - s = i * s + s by omega]
    simp [Nat.add_comm]
theorem vx_oneA (v : Vd) : (vx v).toArray.all (·.oneCell') = true := by
  rw [Array.all_eq_true_iff_forall_mem]
  intro u hu
  exact vx_one v u (by simpa using hu)
end Go.Proofs.Ytlelgboklkmkdaa.Ch
