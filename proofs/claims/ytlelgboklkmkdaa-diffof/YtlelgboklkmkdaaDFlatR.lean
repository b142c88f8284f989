import Derived.Test.YtlelgboklkmkdaaDWF
set_option maxRecDepth 100000
set_option maxHeartbeats 8000000
/-
  The reference's entries: a path, its value and marks: 40 cells; lists of them of one's own.
-/
namespace Go.Proofs.Ytlelgboklkmkdaa
open Go.RowKit
structure Et where
  p : ByteArray
  v : Vd
  m : Md
def ec (e : Et) : Array Value := (Value.string e.p :: (vx e.v ++ mx e.m)).toArray
theorem ec_size (e : Et) : (ec e).size = 40 := by simp [ec, vx_len, mx_len]
theorem ec_one (e : Et) : (ec e).all (·.oneCell') = true := by
  have h := vx_oneM e.v
  rw [Array.all_eq_true_iff_forall_mem] at h ⊢
  intro u hu
  simp only [ec, List.mem_toArray, List.mem_cons, List.mem_append] at hu
  rcases hu with rfl | hu | hu
  · rfl
  · exact h u (by simpa using hu)
  · simp [mx] at hu
    rcases hu with rfl | rfl | rfl | rfl <;> rfl
def ez : Et := ⟨⟨#[]⟩, Vd.zero, Md.zero⟩
def z64 : Array Value := ec ez
theorem z64_size : z64.size = 40 := ec_size _
theorem zero64 : (Try.prog.info? 64).bind (·.zero) = some (.agg z64) := by kernel_rfl
theorem info64 : (Try.prog.info? 64).map (fun i => (i.zero, i.size, i.bytes)) = some (some (.agg z64), 40, 104) := by kernel_rfl
theorem under64 : Try.prog.underlying 64 = some (.struct (Try.prog.fieldsOf 64)) := by kernel_rfl
theorem size64 : (Try.prog.info? 64).map (·.size) = some 40 := by kernel_rfl
theorem places64 : (Try.prog.fieldsOf 64).toList.mapM (fun f => (Try.prog.info? f.type).map fun i => (f.offset, i.size)) = some [(0, 1), (1, 35), (36, 4)] := by kernel_rfl
theorem hz64 : ∃ z : List Value, (Try.prog.info? 64).bind (·.zero) = some (.agg (List.toArray z)) ∧ z = .string ⟨#[]⟩ :: (vx Vd.zero ++ mx Md.zero) := ⟨_, zero64, rfl⟩
open Ch in
/-- a slice of one entry -/
theorem exec_slice64 {o : Oper} {a : Act} (x : Operand) (ho : o.op = .buildSlice 60 1 #[(0, x)]) (c : Array Value) (hx : a.eval x = .agg c) (hs : c.size = 40) (w : World) (b : Nat) (hb : w.heap.size = b) :
    (execOp a.eval o).run Try.prog w = .ok (.value (.slice (some ⟨b, 0, none⟩) 1 1)) (w.alloc (.cells c 64)) := by
  subst hb
  obtain ⟨i0, hi, hz0, hz1, hz2⟩ := info_parts info64
  have hf : Instr.fill (fun i => some (i * 40, 40)) ((Array.range (1 * 40)).map (z64[· % z64.size]!)) [(0, .agg c)] = some c := by
    obtain ⟨z, hz, hzl⟩ : ∃ z : List Value, ((Array.range (1 * 40)).map (z64[· % z64.size]!)) = z.toArray ∧ z.length = 40 := ⟨((Array.range (1 * 40)).map (z64[· % z64.size]!)).toList, Array.toArray_toList.symm, by simp⟩
    rw [hz, Ch.fill_cons _ z 0 0 40 _ c.toList _ rfl (by simp [Value.cells]) (by simpa using hs) (by omega), Instr.fill]
    have hd : z.drop 40 = [] := List.drop_of_length_le (by omega)
    simp [Ch.over, hs, hd]
  have hsz : (sizeOf 64).run Try.prog w = .ok 40 w := by simp [sizeOf, typeInfo, hi, hz1]
  have hzv := Ch.run_zeroT 64 z64 zero64 w
  generalize z64 = zz at hf hzv
  have hb : (Instr.buildSlice 60 1 #[(0, .agg c)]).run Try.prog w = .ok (.slice (some ⟨w.heap.size, 0, none⟩) 1 1) (w.alloc (.cells c 64)) := by
    unfold Instr.buildSlice
    simp only [Sem.run_bind, run_underlying Try.underlying60, Result.andThen_ok, hsz]
    have h1 : ¬ (1 * 40 > 2 ^ 24) := by omega
    have h2 : ¬ (1 * 40 = 0) := by omega
    simp only [h1, h2, if_false, Sem.run_bind, Sem.run_pure, Result.andThen_ok, hzv, Value.cells, hf]
    rfl
  unfold execOp
  simp only [ho]
  have hmap : (#[(0, x)].map fun (p : Nat × Operand) => match p with | (i, x) => (i, a.eval x)) = #[(0, .agg c)] := by simp [hx]
  rw [hmap]
  simp only [Sem.run_bind, hb, Result.andThen_ok, Sem.run_pure]
/-- an entry of its parts -/
theorem build64 (p : ByteArray) (v : Vd) (m : Md) (w : World) : (Instr.build 64 #[(0, .string p), (1, .agg (vx v).toArray), (2, .agg (mx m).toArray)]).run Try.prog w = .ok (.agg (ec ⟨p, v, m⟩)) w := by
  refine run_build w 64 _ _ ?_
  obtain ⟨z, hz, hl⟩ := hz64
  unfold Program.built
  cases hi : Try.prog.info? 64 with
  | none => rw [hi] at hz; cases hz
  | some it =>
    rw [hi] at hz
    simp only [Option.bind_some] at hz
    simp only [under64, hz, places64]
    show Instr.fill _ (List.toArray _) _ = _
    have h0 := vx_len Vd.zero
    have h3 := mx_len Md.zero
    have h1 := vx_len v
    have h2 := mx_len m
    have hz0 : z.length = 40 := by rw [hl]; simp [h0, h3]
    rw [Ch.fill_cons _ _ 0 0 1 _ [.string p] _ rfl rfl rfl (by omega), Ch.fill_cons _ _ 1 1 35 _ (vx v) _ rfl rfl h1 (by simp [Ch.over, hz0]), Ch.fill_cons _ _ 2 36 4 _ (mx m) _ rfl rfl h2 (by simp [Ch.over, hz0, h1]), Instr.fill, hl]
    refine congrArg some (congrArg List.toArray ?_)
    have t1 : ∀ r : List Value, (vx v ++ r).take 35 = vx v := fun r => by
      rw [List.take_append_of_le_length (by omega), List.take_of_length_le (by omega)]
    have t2 : (vx Vd.zero ++ mx Md.zero).drop 35 = mx Md.zero := by
      rw [List.drop_append_of_le_length (by omega), List.drop_of_length_le (by omega), List.nil_append]
    have t3 : (vx v ++ mx Md.zero).drop 39 = [] := List.drop_of_length_le (by simp [h3, h1])
    simp only [Ch.over, h1, h2, List.take_succ_cons, List.take_zero, List.cons_append, List.nil_append, List.drop_succ_cons, List.drop_zero, List.length_cons, List.length_nil, Nat.zero_add, Nat.reduceAdd, t2, t1, t3, List.append_nil]
theorem exec_build64 {o : Oper} {a : Act} (x y z : Operand) (ho : o.op = .build 64 #[(0, x), (1, y), (2, z)]) (p : ByteArray) (v : Vd) (m : Md) (hx : a.eval x = .string p) (hy : a.eval y = .agg (vx v).toArray) (hz : a.eval z = .agg (mx m).toArray) (w : World) : (execOp a.eval o).run Try.prog w = .ok (.value (.agg (ec ⟨p, v, m⟩))) w := by
  unfold execOp
  simp only [ho]
  have hmap : (#[(0, x), (1, y), (2, z)].map fun (p : Nat × Operand) => match p with | (i, x) => (i, a.eval x)) = #[(0, .string p), (1, .agg (vx v).toArray), (2, .agg (mx m).toArray)] := by simp [hx, hy, hz]
  rw [hmap]
  simp only [Sem.run_bind, build64 p v m w, Result.andThen_ok, Sem.run_pure]
def ecs (L : List Et) : List Value := Ch.flat ec L
theorem ecs_len (L : List Et) : (ecs L).length = L.length * 40 := Ch.flat_len ec_size L
def OwnsE (w : World) (lo : Nat) (u : Value) (L : List Et) : Prop := w.ownsRow lo 64 40 u L.length (ecs L)
theorem OwnsE.up {w w' : World} {lo : Nat} {v : Value} {L : List Et} (h : OwnsE w lo v L) (hb : Below w.heap.size w w') : OwnsE w' lo v L := World.ownsRow.kept h (Ch.grown_of hb) (by cases hv : v.ownBlock <;> simp)
theorem ecs_app (K L : List Et) : ecs (K ++ L) = ecs K ++ ecs L := Ch.flat_app _ K L
theorem OwnsE.at {w : World} {lo g n c : Nat} {L : List Et} (h : OwnsE w lo (.slice (some ⟨g, 0, none⟩) n c) L) (j : Nat) (u : Value) (hj : (ecs L)[j]? = some u) : w.cell? ⟨g, j, none⟩ = some u := by
  have h0 : w.ownsRow lo 64 40 (.slice (some ⟨g, 0, none⟩) L.length c) L.length (ecs L) := by
    obtain ⟨h1, h2⟩ := h
    refine ⟨h1, ?_⟩
    rcases h2 with ⟨e, _⟩ | ⟨g', cap, cur, e, h3⟩
    · cases e
    · injection e with e1 e2 e3
      injection e1 with e1
      injection e1 with e1 _
      subst e1 e3
      exact .inr ⟨_, _, cur, rfl, h3⟩
  have hlt := (List.getElem?_eq_some_iff.1 hj).1
  rw [ecs_len] at hlt
  rw [World.ownsRow.cellAt h0 j hlt]
  exact hj
/-- a list of entries put behind one's own -/
theorem appE_run {w : World} {lo lo2 g n c : Nat} {v : Value} {R L : List Et} (ty : TypeId) (h : OwnsE w lo v R) (hs : OwnsE w lo2 (.slice (some ⟨g, 0, none⟩) n c) L) (hn : L.length = n) (hb : lo ≤ w.heap.size) (hl : R.length + L.length ≤ 100000) :
    ∃ v' w', (Builtin.append_ #[60, 60] ty #[v, .slice (some ⟨g, 0, none⟩) n c]).run Try.prog w = .ok v' w' ∧ OwnsE w' lo v' (R ++ L) ∧ w.grownBy w' v.ownBlock := by
  obtain ⟨i0, hi, hz0, hz1, hz2⟩ := info_parts info64
  subst hn
  obtain ⟨v', w', h1, h2, h3, h4, h5⟩ := run_append_own_at (P := Try.prog) w lo 60 ty 64 i0 (.agg z64) 40 104 Try.underlying60 hi hz0 hz1 hz2 z64_size (by omega) v R.length (ecs R) h ⟨g, 0, none⟩ L.length c (ecs L) (ecs_len L) (fun j u hj => by
    rw [Addr.add_mid, Nat.zero_add]; exact hs.at j u hj) (Ch.flat_one ec_one L) (by unfold maxLen; omega) (by omega) hb
  refine ⟨v', w', h1, ?_, h3⟩
  unfold OwnsE
  rw [List.length_append, ecs_app]
  exact h2
/-- the entries below a path -/
def flatK (p : ByteArray) : F → List Et
  | .nil => []
  | .cons nm v m k r => (⟨belowS p nm, v, m⟩ :: flatK (belowS p nm) k) ++ flatK p r
theorem flatK_len : ∀ (f : F) (p : ByteArray), (flatK p f).length = f.size
  | .nil, _ => rfl
  | .cons nm v m k r, p => by simp only [flatK, List.length_append, List.length_cons, flatK_len k, flatK_len r, F.size]; omega
end Go.Proofs.Ytlelgboklkmkdaa
/-
  twineref13.flat's round.
-/
namespace Go.Proofs.Ytlelgboklkmkdaa
open Go.RowKit Ch
theorem backE : backB (opsAt Try.f33 5) = true := by kernel_rfl
theorem dstE : dstB (opsAt Try.f33 5) 38 = true := by kernel_rfl
theorem sizeE : (opsAt Try.f33 5).size = 17 := by kernel_rfl
theorem freeE1 : freeB (opsAt Try.f33 5) 1 = true := by kernel_rfl
theorem freeE2 : freeB (opsAt Try.f33 5) 2 = true := by kernel_rfl
theorem freeE6 : freeB (opsAt Try.f33 5) 6 = true := by kernel_rfl
theorem sE_0 : say (opsAt Try.f33 5) 0 = some (some 21, .move (.tmp 5), none) := by kernel_rfl
theorem dE_0 : slotB (opsAt Try.f33 5) 0 = some 21 := by kernel_rfl
theorem sE_1 : say (opsAt Try.f33 5) 1 = some (some 22, .fieldAddr 30 (.tmp 2) 3, none) := by kernel_rfl
theorem dE_1 : slotB (opsAt Try.f33 5) 1 = some 22 := by kernel_rfl
theorem sE_2 : say (opsAt Try.f33 5) 2 = some (some 23, .load 28 (.tmp 22), none) := by kernel_rfl
theorem dE_2 : slotB (opsAt Try.f33 5) 2 = some 23 := by kernel_rfl
theorem sE_3 : say (opsAt Try.f33 5) 3 = some (some 24, .move (.tmp 6), none) := by kernel_rfl
theorem dE_3 : slotB (opsAt Try.f33 5) 3 = some 24 := by kernel_rfl
theorem sE_4 : say (opsAt Try.f33 5) 4 = some (some 25, .indexAddr 28 (.tmp 23) (.tmp 24), none) := by kernel_rfl
theorem dE_4 : slotB (opsAt Try.f33 5) 4 = some 25 := by kernel_rfl
theorem sE_5 : say (opsAt Try.f33 5) 5 = some (some 26, .load 30 (.tmp 25), none) := by kernel_rfl
theorem dE_5 : slotB (opsAt Try.f33 5) 5 = some 26 := by kernel_rfl
theorem sE_6 : say (opsAt Try.f33 5) 6 = some (some 27, .move (.tmp 1), none) := by kernel_rfl
theorem dE_6 : slotB (opsAt Try.f33 5) 6 = some 27 := by kernel_rfl
theorem sE_7 : say (opsAt Try.f33 5) 7 = some (some 28, .fieldAddr 30 (.tmp 2) 3, none) := by kernel_rfl
theorem dE_7 : slotB (opsAt Try.f33 5) 7 = some 28 := by kernel_rfl
theorem sE_8 : say (opsAt Try.f33 5) 8 = some (some 29, .load 28 (.tmp 28), none) := by kernel_rfl
theorem dE_8 : slotB (opsAt Try.f33 5) 8 = some 29 := by kernel_rfl
theorem sE_9 : say (opsAt Try.f33 5) 9 = some (some 30, .move (.tmp 6), none) := by kernel_rfl
theorem dE_9 : slotB (opsAt Try.f33 5) 9 = some 30 := by kernel_rfl
theorem sE_10 : say (opsAt Try.f33 5) 10 = some (some 31, .indexAddr 28 (.tmp 29) (.tmp 30), none) := by kernel_rfl
theorem dE_10 : slotB (opsAt Try.f33 5) 10 = some 31 := by kernel_rfl
theorem sE_11 : say (opsAt Try.f33 5) 11 = some (some 32, .fieldAddr 30 (.tmp 31) 0, none) := by kernel_rfl
theorem dE_11 : slotB (opsAt Try.f33 5) 11 = some 32 := by kernel_rfl
theorem sE_12 : say (opsAt Try.f33 5) 12 = some (some 33, .load 9 (.tmp 32), none) := by kernel_rfl
theorem dE_12 : slotB (opsAt Try.f33 5) 12 = some 33 := by kernel_rfl
theorem sE_13 : say (opsAt Try.f33 5) 13 = some (some 34, .call { callee := .value (.func 51), args := #[.tmp 27, .tmp 33], argTypes := #[9, 9] }, none) := by kernel_rfl
theorem dE_13 : slotB (opsAt Try.f33 5) 13 = some 34 := by kernel_rfl
theorem sE_14 : say (opsAt Try.f33 5) 14 = some (some 35, .call { callee := .value (.func 33), args := #[.tmp 26, .tmp 34], argTypes := #[30, 9] }, none) := by kernel_rfl
theorem dE_14 : slotB (opsAt Try.f33 5) 14 = some 35 := by kernel_rfl
theorem sE_15 : say (opsAt Try.f33 5) 15 = some (some 36, .call { callee := .builtin .append, args := #[.tmp 21, .tmp 35], argTypes := #[60, 60] }, none) := by kernel_rfl
theorem dE_15 : slotB (opsAt Try.f33 5) 15 = some 36 := by kernel_rfl
theorem sE_16 : say (opsAt Try.f33 5) 16 = some (some 5, .assign (.tmp 36), none) := by kernel_rfl
theorem dE_16 : slotB (opsAt Try.f33 5) 16 = some 5 := by kernel_rfl
/-- what the call and the append leave -/
structure Lr where
  u : Value
  v2 : Value
  w2 : World
  w3 : World
def VE (B g o N cap k : Nat) (v : Value) (ck : Array Value) (p nm q : ByteArray) (r : Lr) : Nat → Value
  | 0 => v
  | 1 => .pointer (some ⟨B, 40, none⟩)
  | 2 => .slice (some ⟨g, o, none⟩) N cap
  | 3 => .int .i64 (k : Int)
  | 4 => .pointer (some ⟨g, o + k * 41, none⟩)
  | 5 => .agg ck
  | 6 => .string p
  | 7 => .pointer (some ⟨B, 40, none⟩)
  | 8 => .slice (some ⟨g, o, none⟩) N cap
  | 9 => .int .i64 (k : Int)
  | 10 => .pointer (some ⟨g, o + k * 41, none⟩)
  | 11 => .pointer (some ⟨g, o + k * 41, none⟩)
  | 12 => .string nm
  | 13 => .string q
  | 14 => r.u
  | 15 => r.v2
  | 16 => r.v2
  | _ => undef
def ME (v : Value) (F : Lr → Prop) (wr : World) (r : Lr) (done : Nat → Bool) (w : World) : Prop := (done 14 = true → (Builtin.append_ #[60, 60] 60 #[v, r.u]).run Try.prog r.w2 = .ok r.v2 r.w3 ∧ F r) ∧ w = (if done 15 = true then r.w3 else if done 14 = true then r.w2 else wr.drew)
theorem ME.step {v : Value} {F : Lr → Prop} {wr : World} {r : Lr} {done : Nat → Bool} {w : World} (h : ME v F wr r done w) {j : Nat} (h1 : j ≠ 14) (h2 : j ≠ 15) : ME v F wr r (upd done j) w := by
  unfold ME at *
  rw [upd_ne done (Ne.symm h1), upd_ne done (Ne.symm h2)]
  exact h
theorem regE (B g o N cap k : Nat) (v : Value) (ck : Array Value) (p nm q : ByteArray) (F : Lr → Prop) (t0 : Array Value) (wr : World) {Q : Exit → Act → World → Prop} (ht : t0.size = 38) (h1 : t0.getD 1 undef = .string p) (h2 : t0.getD 2 undef = .pointer (some ⟨B, 0, none⟩)) (h6 : t0.getD 6 undef = .int .i64 (k : Int)) (h5 : t0.getD 5 undef = v)
    (hk : k < N) (c40 : wr.cell? ⟨B, 40, none⟩ = some (.slice (some ⟨g, o, none⟩) N cap)) (lk : Lies wr g (o + k * 41) ck) (sk : ck.size = 41) (cn : wr.cell? ⟨g, o + k * 41, none⟩ = some (.string nm)) (hq : belowS p nm = q) (hp : p.size ≤ 1000000) (hn : nm.size ≤ 1000000)
    (hC : Calls Try.prog 33 #[.agg ck, .string q] wr.drew fun e w' => ∃ r : Lr, e = .returned r.u ∧ r.w2 = w' ∧ (Builtin.append_ #[60, 60] 60 #[v, r.u]).run Try.prog r.w2 = .ok r.v2 r.w3 ∧ F r)
    (hQ : ∀ r, F r → Q .normal ⟨fold (opsAt Try.f33 5) (VE B g o N cap k v ck p nm q r) t0 17, []⟩ r.w3) (r0 : Lr) : (Code.region 5 (opsAt Try.f33 5) true).wp Try.prog Q ⟨t0, []⟩ wr := by
  have hB : dstB (opsAt Try.f33 5) t0.size = true := by rw [ht]; exact dstE
  have kI : (k : Int) < (N : Int) := by omega
  have k0 : (0 : Int) ≤ (k : Int) := by omega
  refine inv_region (by kernel_rfl) (IE (opsAt Try.f33 5) (VE B g o N cap k v ck p nm q) t0 (ME v F wr)) backE ⟨r0, t0, rfl, ⟨rfl, fun _ _ => rfl, fun _ _ _ _ _ h => by cases h⟩, (fun h => by cases h), by simp⟩ ?_ ?_
  rotate_left 1
  · rintro done a w ⟨r, t, rfl, hS, hF, hw⟩ hall
    have a14 := hall 14 (by rw [sizeE]; decide)
    have a15 := hall 15 (by rw [sizeE]; decide)
    rw [a15, if_pos rfl] at hw
    rw [hS.end hB hall, sizeE, hw]
    exact hQ r (hF a14).2
  · rintro jz op done a w ho ⟨r, t, rfl, hS, hM⟩ hnd hdep hcl
    have e1 : t[1]?.getD undef = .string p := (hS.old freeE1).trans h1
    have e2 : t[2]?.getD undef = .pointer (some ⟨B, 0, none⟩) := (hS.old freeE2).trans h2
    have e6 : t[6]?.getD undef = .int .i64 (k : Int) := (hS.old freeE6).trans h6
    have hlt : jz < 17 := by rw [← sizeE]; exact (Array.getElem?_eq_some_iff.1 ho).1
    match jz, hlt, ho, hnd, hdep with
    | 0, _, ho, hnd, hdep =>
      obtain ⟨hd, hop, hgd⟩ := say_of sE_0 ho
      have yt15 : done 15 = false := not_yet (k := 0) (j := 15) (by kernel_rfl) hcl hnd
      have yt16 : done 16 = false := not_yet (k := 15) (j := 16) (by kernel_rfl) hcl yt15
      have e5 : t[5]?.getD undef = _ := (hS.yet hB dE_16 yt16).trans h5
      refine ie_val r hB ho (wanted_none hgd) hd hS (hM.step (by decide) (by decide)) ?_
      unfold execOp
      simp only [hop]
      simp [e5, VE, go_sem]
    | 1, _, ho, hnd, hdep =>
      obtain ⟨hd, hop, hgd⟩ := say_of sE_1 ho
      have ny2 : done 2 = false := not_yet (k := 1) (j := 2) (by kernel_rfl) hcl hnd
      have ny4 : done 4 = false := not_yet (k := 2) (j := 4) (by kernel_rfl) hcl ny2
      have ny5 : done 5 = false := not_yet (k := 4) (j := 5) (by kernel_rfl) hcl ny4
      have ny14 : done 14 = false := not_yet (k := 5) (j := 14) (by kernel_rfl) hcl ny5
      have ny15 : done 15 = false := not_yet (k := 14) (j := 15) (by kernel_rfl) hcl ny14
      have hw0 : w = wr.drew := by rw [hM.2]; simp [ny14, ny15]
      refine ie_val r hB ho (wanted_none hgd) hd hS (hM.step (by decide) (by decide)) ?_
      unfold execOp
      simp only [hop]
      simp [e2, VE, go_sem]
    | 2, _, ho, hnd, hdep =>
      obtain ⟨hd, hop, hgd⟩ := say_of sE_2 ho
      have x22 : t[22]?.getD undef = _ := hS.at dE_1 (waits (j := 1) (by kernel_rfl) ho hdep)
      simp only [VE] at x22
      have ny4 : done 4 = false := not_yet (k := 2) (j := 4) (by kernel_rfl) hcl hnd
      have ny5 : done 5 = false := not_yet (k := 4) (j := 5) (by kernel_rfl) hcl ny4
      have ny14 : done 14 = false := not_yet (k := 5) (j := 14) (by kernel_rfl) hcl ny5
      have ny15 : done 15 = false := not_yet (k := 14) (j := 15) (by kernel_rfl) hcl ny14
      have hw0 : w = wr.drew := by rw [hM.2]; simp [ny14, ny15]
      refine ie_val r hB ho (wanted_none hgd) hd hS (hM.step (by decide) (by decide)) ?_
      subst hw0
      have c40d : wr.drew.cell? ⟨B, 40, none⟩ = some (.slice (some ⟨g, o, none⟩) N cap) := c40
      unfold execOp
      simp only [hop]
      simp [x22, c40d, VE, go_sem]
    | 3, _, ho, hnd, hdep =>
      obtain ⟨hd, hop, hgd⟩ := say_of sE_3 ho
      have ny4 : done 4 = false := not_yet (k := 3) (j := 4) (by kernel_rfl) hcl hnd
      have ny5 : done 5 = false := not_yet (k := 4) (j := 5) (by kernel_rfl) hcl ny4
      have ny14 : done 14 = false := not_yet (k := 5) (j := 14) (by kernel_rfl) hcl ny5
      have ny15 : done 15 = false := not_yet (k := 14) (j := 15) (by kernel_rfl) hcl ny14
      have hw0 : w = wr.drew := by rw [hM.2]; simp [ny14, ny15]
      refine ie_val r hB ho (wanted_none hgd) hd hS (hM.step (by decide) (by decide)) ?_
      unfold execOp
      simp only [hop]
      simp [e6, VE, go_sem]
    | 4, _, ho, hnd, hdep =>
      obtain ⟨hd, hop, hgd⟩ := say_of sE_4 ho
      have x23 : t[23]?.getD undef = _ := hS.at dE_2 (waits (j := 2) (by kernel_rfl) ho hdep)
      simp only [VE] at x23
      have x24 : t[24]?.getD undef = _ := hS.at dE_3 (waits (j := 3) (by kernel_rfl) ho hdep)
      simp only [VE] at x24
      have ny5 : done 5 = false := not_yet (k := 4) (j := 5) (by kernel_rfl) hcl hnd
      have ny14 : done 14 = false := not_yet (k := 5) (j := 14) (by kernel_rfl) hcl ny5
      have ny15 : done 15 = false := not_yet (k := 14) (j := 15) (by kernel_rfl) hcl ny14
      have hw0 : w = wr.drew := by rw [hM.2]; simp [ny14, ny15]
      refine ie_val r hB ho (wanted_none hgd) hd hS (hM.step (by decide) (by decide)) ?_
      unfold execOp
      simp only [hop]
      simp [x23, x24, VE, kI, k0, Ch.addr_add, go_sem]
    | 5, _, ho, hnd, hdep =>
      obtain ⟨hd, hop, hgd⟩ := say_of sE_5 ho
      have x25 : t[25]?.getD undef = _ := hS.at dE_4 (waits (j := 4) (by kernel_rfl) ho hdep)
      simp only [VE] at x25
      have ny14 : done 14 = false := not_yet (k := 5) (j := 14) (by kernel_rfl) hcl hnd
      have ny15 : done 15 = false := not_yet (k := 14) (j := 15) (by kernel_rfl) hcl ny14
      have hw0 : w = wr.drew := by rw [hM.2]; simp [ny14, ny15]
      refine ie_val r hB ho (wanted_none hgd) hd hS (hM.step (by decide) (by decide)) ?_
      exact exec_load30 (a := ⟨t, []⟩) _ hop g (o + k * 41) (by show t.getD 25 undef = _; rw [Array.getD_eq_getD_getElem?]; exact x25) ck sk (by rw [hw0]; exact lk)
    | 6, _, ho, hnd, hdep =>
      obtain ⟨hd, hop, hgd⟩ := say_of sE_6 ho
      have ny13 : done 13 = false := not_yet (k := 6) (j := 13) (by kernel_rfl) hcl hnd
      have ny14 : done 14 = false := not_yet (k := 13) (j := 14) (by kernel_rfl) hcl ny13
      have ny15 : done 15 = false := not_yet (k := 14) (j := 15) (by kernel_rfl) hcl ny14
      have hw0 : w = wr.drew := by rw [hM.2]; simp [ny14, ny15]
      refine ie_val r hB ho (wanted_none hgd) hd hS (hM.step (by decide) (by decide)) ?_
      unfold execOp
      simp only [hop]
      simp [e1, VE, go_sem]
    | 7, _, ho, hnd, hdep =>
      obtain ⟨hd, hop, hgd⟩ := say_of sE_7 ho
      have ny8 : done 8 = false := not_yet (k := 7) (j := 8) (by kernel_rfl) hcl hnd
      have ny10 : done 10 = false := not_yet (k := 8) (j := 10) (by kernel_rfl) hcl ny8
      have ny11 : done 11 = false := not_yet (k := 10) (j := 11) (by kernel_rfl) hcl ny10
      have ny12 : done 12 = false := not_yet (k := 11) (j := 12) (by kernel_rfl) hcl ny11
      have ny13 : done 13 = false := not_yet (k := 12) (j := 13) (by kernel_rfl) hcl ny12
      have ny14 : done 14 = false := not_yet (k := 13) (j := 14) (by kernel_rfl) hcl ny13
      have ny15 : done 15 = false := not_yet (k := 14) (j := 15) (by kernel_rfl) hcl ny14
      have hw0 : w = wr.drew := by rw [hM.2]; simp [ny14, ny15]
      refine ie_val r hB ho (wanted_none hgd) hd hS (hM.step (by decide) (by decide)) ?_
      unfold execOp
      simp only [hop]
      simp [e2, VE, go_sem]
    | 8, _, ho, hnd, hdep =>
      obtain ⟨hd, hop, hgd⟩ := say_of sE_8 ho
      have x28 : t[28]?.getD undef = _ := hS.at dE_7 (waits (j := 7) (by kernel_rfl) ho hdep)
      simp only [VE] at x28
      have ny10 : done 10 = false := not_yet (k := 8) (j := 10) (by kernel_rfl) hcl hnd
      have ny11 : done 11 = false := not_yet (k := 10) (j := 11) (by kernel_rfl) hcl ny10
      have ny12 : done 12 = false := not_yet (k := 11) (j := 12) (by kernel_rfl) hcl ny11
      have ny13 : done 13 = false := not_yet (k := 12) (j := 13) (by kernel_rfl) hcl ny12
      have ny14 : done 14 = false := not_yet (k := 13) (j := 14) (by kernel_rfl) hcl ny13
      have ny15 : done 15 = false := not_yet (k := 14) (j := 15) (by kernel_rfl) hcl ny14
      have hw0 : w = wr.drew := by rw [hM.2]; simp [ny14, ny15]
      refine ie_val r hB ho (wanted_none hgd) hd hS (hM.step (by decide) (by decide)) ?_
      subst hw0
      have c40d : wr.drew.cell? ⟨B, 40, none⟩ = some (.slice (some ⟨g, o, none⟩) N cap) := c40
      unfold execOp
      simp only [hop]
      simp [x28, c40d, VE, go_sem]
    | 9, _, ho, hnd, hdep =>
      obtain ⟨hd, hop, hgd⟩ := say_of sE_9 ho
      have ny10 : done 10 = false := not_yet (k := 9) (j := 10) (by kernel_rfl) hcl hnd
      have ny11 : done 11 = false := not_yet (k := 10) (j := 11) (by kernel_rfl) hcl ny10
      have ny12 : done 12 = false := not_yet (k := 11) (j := 12) (by kernel_rfl) hcl ny11
      have ny13 : done 13 = false := not_yet (k := 12) (j := 13) (by kernel_rfl) hcl ny12
      have ny14 : done 14 = false := not_yet (k := 13) (j := 14) (by kernel_rfl) hcl ny13
      have ny15 : done 15 = false := not_yet (k := 14) (j := 15) (by kernel_rfl) hcl ny14
      have hw0 : w = wr.drew := by rw [hM.2]; simp [ny14, ny15]
      refine ie_val r hB ho (wanted_none hgd) hd hS (hM.step (by decide) (by decide)) ?_
      unfold execOp
      simp only [hop]
      simp [e6, VE, go_sem]
    | 10, _, ho, hnd, hdep =>
      obtain ⟨hd, hop, hgd⟩ := say_of sE_10 ho
      have x29 : t[29]?.getD undef = _ := hS.at dE_8 (waits (j := 8) (by kernel_rfl) ho hdep)
      simp only [VE] at x29
      have x30 : t[30]?.getD undef = _ := hS.at dE_9 (waits (j := 9) (by kernel_rfl) ho hdep)
      simp only [VE] at x30
      have ny11 : done 11 = false := not_yet (k := 10) (j := 11) (by kernel_rfl) hcl hnd
      have ny12 : done 12 = false := not_yet (k := 11) (j := 12) (by kernel_rfl) hcl ny11
      have ny13 : done 13 = false := not_yet (k := 12) (j := 13) (by kernel_rfl) hcl ny12
      have ny14 : done 14 = false := not_yet (k := 13) (j := 14) (by kernel_rfl) hcl ny13
      have ny15 : done 15 = false := not_yet (k := 14) (j := 15) (by kernel_rfl) hcl ny14
      have hw0 : w = wr.drew := by rw [hM.2]; simp [ny14, ny15]
      refine ie_val r hB ho (wanted_none hgd) hd hS (hM.step (by decide) (by decide)) ?_
      unfold execOp
      simp only [hop]
      simp [x29, x30, VE, kI, k0, Ch.addr_add, go_sem]
    | 11, _, ho, hnd, hdep =>
      obtain ⟨hd, hop, hgd⟩ := say_of sE_11 ho
      have x31 : t[31]?.getD undef = _ := hS.at dE_10 (waits (j := 10) (by kernel_rfl) ho hdep)
      simp only [VE] at x31
      have ny12 : done 12 = false := not_yet (k := 11) (j := 12) (by kernel_rfl) hcl hnd
      have ny13 : done 13 = false := not_yet (k := 12) (j := 13) (by kernel_rfl) hcl ny12
      have ny14 : done 14 = false := not_yet (k := 13) (j := 14) (by kernel_rfl) hcl ny13
      have ny15 : done 15 = false := not_yet (k := 14) (j := 15) (by kernel_rfl) hcl ny14
      have hw0 : w = wr.drew := by rw [hM.2]; simp [ny14, ny15]
      refine ie_val r hB ho (wanted_none hgd) hd hS (hM.step (by decide) (by decide)) ?_
      unfold execOp
      simp only [hop]
      simp [x31, VE, go_sem]
    | 12, _, ho, hnd, hdep =>
      obtain ⟨hd, hop, hgd⟩ := say_of sE_12 ho
      have x32 : t[32]?.getD undef = _ := hS.at dE_11 (waits (j := 11) (by kernel_rfl) ho hdep)
      simp only [VE] at x32
      have ny13 : done 13 = false := not_yet (k := 12) (j := 13) (by kernel_rfl) hcl hnd
      have ny14 : done 14 = false := not_yet (k := 13) (j := 14) (by kernel_rfl) hcl ny13
      have ny15 : done 15 = false := not_yet (k := 14) (j := 15) (by kernel_rfl) hcl ny14
      have hw0 : w = wr.drew := by rw [hM.2]; simp [ny14, ny15]
      refine ie_val r hB ho (wanted_none hgd) hd hS (hM.step (by decide) (by decide)) ?_
      subst hw0
      have cnd : wr.drew.cell? ⟨g, o + k * 41, none⟩ = some (.string nm) := cn
      unfold execOp
      simp only [hop]
      simp [x32, cnd, VE, go_sem]
    | 13, _, ho, hnd, hdep =>
      obtain ⟨hd, hop, hgd⟩ := say_of sE_13 ho
      have x27 : t[27]?.getD undef = _ := hS.at dE_6 (waits (j := 6) (by kernel_rfl) ho hdep)
      simp only [VE] at x27
      have x33 : t[33]?.getD undef = _ := hS.at dE_12 (waits (j := 12) (by kernel_rfl) ho hdep)
      simp only [VE] at x33
      have ny14 : done 14 = false := not_yet (k := 13) (j := 14) (by kernel_rfl) hcl hnd
      have ny15 : done 15 = false := not_yet (k := 14) (j := 15) (by kernel_rfl) hcl ny14
      have hw0 : w = wr.drew := by rw [hM.2]; simp [ny14, ny15]
      refine ie_call r 51 #[.string p, .string nm] hB ho (wanted_none hgd) hd hS ?_ ?_
      · skip
        unfold execOp
        simp only [hop]
        simp [x27, x33, go_sem]
      · exact (below13_any p nm w hp hn).mono fun e w2 h => ⟨r, by rw [h.1, hq]; rfl, fun _ _ => rfl, h.2 ▸ hM.step (by decide) (by decide)⟩
    | 14, _, ho, hnd, hdep =>
      obtain ⟨hd, hop, hgd⟩ := say_of sE_14 ho
      have x26 : t[26]?.getD undef = _ := hS.at dE_5 (waits (j := 5) (by kernel_rfl) ho hdep)
      simp only [VE] at x26
      have x34 : t[34]?.getD undef = _ := hS.at dE_13 (waits (j := 13) (by kernel_rfl) ho hdep)
      simp only [VE] at x34
      have ny15 : done 15 = false := not_yet (k := 14) (j := 15) (by kernel_rfl) hcl hnd
      have ny16 : done 16 = false := not_yet (k := 15) (j := 16) (by kernel_rfl) hcl ny15
      have hw0 : w = wr.drew := by rw [hM.2]; simp [hnd, ny15]
      refine ie_call r 33 #[.agg ck, .string q] hB ho (wanted_none hgd) hd hS ?_ ?_
      · skip
        unfold execOp
        simp only [hop]
        simp [x26, x34, go_sem]
      · rw [hw0]
        refine hC.mono ?_
        rintro e w' ⟨r', rfl, rfl, hr, hF⟩
        refine ⟨r', rfl, fun k hk => ?_, fun _ => ⟨hr, hF⟩, by simp [upd, ny15]⟩
        have h1 : k ≠ 14 := fun e => by rw [e, hnd] at hk; cases hk
        have h2 : k ≠ 15 := fun e => by rw [e, ny15] at hk; cases hk
        have h3 : k ≠ 16 := fun e => by rw [e, ny16] at hk; cases hk
        unfold VE
        split <;> first | rfl | exact absurd rfl h1 | exact absurd rfl h2 | exact absurd rfl h3
    | 15, _, ho, hnd, hdep =>
      obtain ⟨hd, hop, hgd⟩ := say_of sE_15 ho
      have x21 : t[21]?.getD undef = _ := hS.at dE_0 (waits (j := 0) (by kernel_rfl) ho hdep)
      simp only [VE] at x21
      have x35 : t[35]?.getD undef = _ := hS.at dE_14 (waits (j := 14) (by kernel_rfl) ho hdep)
      simp only [VE] at x35
      have a14 : done 14 = true := waits (j := 14) (by kernel_rfl) ho hdep
      have hw0 : w = r.w2 := by rw [hM.2]; simp [hnd, a14]
      subst hw0
      refine ie_val (w' := r.w3) r hB ho (wanted_none hgd) hd hS ⟨fun _ => hM.1 a14, by simp [upd]⟩ ?_
      unfold execOp
      have ht2 : op.type = 60 := by have := congrArg (·.map (·.type)) ho; simpa using this.symm.trans (show _ = some 60 from by kernel_rfl)
      simp only [hop, ht2, resolve, invoke, builtin, Sem.run_bind, Sem.run_pure, Result.andThen_ok, List.map_toArray, List.map_cons, List.map_nil]
      have ex : (Act.mk t []).eval (.tmp 21) = v := (by show t.getD 21 undef = _; rw [Array.getD_eq_getD_getElem?]; exact x21)
      have ey : (Act.mk t []).eval (.tmp 35) = r.u := (by show t.getD 35 undef = _; rw [Array.getD_eq_getD_getElem?]; exact x35)
      rw [ex, ey, (hM.1 a14).1]
      rfl
    | 16, _, ho, hnd, hdep =>
      obtain ⟨hd, hop, hgd⟩ := say_of sE_16 ho
      have x36 : t[36]?.getD undef = _ := hS.at dE_15 (waits (j := 15) (by kernel_rfl) ho hdep)
      simp only [VE] at x36
      refine ie_val r hB ho (wanted_none hgd) hd hS (hM.step (by decide) (by decide)) ?_
      unfold execOp
      simp only [hop]
      simp [x36, VE, go_sem]
theorem foldE (B g o N cap k : Nat) (v : Value) (ck : Array Value) (p nm q : ByteArray) (r : Lr) (t0 : Array Value) : fold (opsAt Try.f33 5) (VE B g o N cap k v ck p nm q r) t0 17 = (((((((((((((((((t0.setIfInBounds 21 (v)).setIfInBounds 22 (.pointer (some ⟨B, 40, none⟩))).setIfInBounds 23 (.slice (some ⟨g, o, none⟩) N cap)).setIfInBounds 24 (.int .i64 (k : Int))).setIfInBounds 25 (.pointer (some ⟨g, o + k * 41, none⟩))).setIfInBounds 26 (.agg ck)).setIfInBounds 27 (.string p)).setIfInBounds 28 (.pointer (some ⟨B, 40, none⟩))).setIfInBounds 29 (.slice (some ⟨g, o, none⟩) N cap)).setIfInBounds 30 (.int .i64 (k : Int))).setIfInBounds 31 (.pointer (some ⟨g, o + k * 41, none⟩))).setIfInBounds 32 (.pointer (some ⟨g, o + k * 41, none⟩))).setIfInBounds 33 (.string nm)).setIfInBounds 34 (.string q)).setIfInBounds 35 (r.u)).setIfInBounds 36 (r.v2)).setIfInBounds 5 (r.v2)) := by kernel_rfl
end Go.Proofs.Ytlelgboklkmkdaa
